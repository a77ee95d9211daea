/- A record of many things, plainly. -/
import Derived.Test.YtbmnagfjpenemaaDoorAlive
namespace Go.Proofs.YtbmnagfjpenemaaDoor
open Go.ChangeShapes Go.WideShapes Go.ChangeAt Go.RowKit
set_option linter.unusedVariables false
set_option linter.unusedSimpArgs false
/-- The patch of page k, of one byte. -/
def ptk (k : Nat) : Pt := ⟨(k : Int), 0, ⟨#[112]⟩⟩
/-- The first n of them. -/
def ptsN (n : Nat) : List Pt := (List.range n).map ptk
theorem ptsN_length (n : Nat) : (ptsN n).length = n := by simp [ptsN]
theorem ptsN_succ (n : Nat) : ptsN (n + 1) = ptsN n ++ [ptk n] := by simp [ptsN, List.range_succ]
/-- A record of p pages, n patches, t transactions, d dirty pages. -/
def manyR (p n t d : Nat) : Rc := ⟨7, 0, 0, 0, ⟨#[]⟩, false, nilC, List.replicate p 0, ptsN n, List.replicate t nilT, List.replicate d nilD⟩
theorem all_same {α : Type} {f : α → Bool} {x : α} (h : f x = true) (n m : Nat) : everyB (List.replicate n x) m f = decide (n ≤ m) := by
  unfold everyB
  rw [List.length_replicate, List.all_replicate]
  cases n <;> simp [h]
theorem all_pts {n : Nat} (hn : n ≤ 60) : everyB (ptsN n) 40 rightP = decide (n ≤ 40) := by
  unfold everyB
  rw [ptsN_length]
  have : (ptsN n).all rightP = true := by
    rw [List.all_eq_true]
    intro x hx
    obtain ⟨k, hk, rfl⟩ := List.mem_map.1 hx
    have := List.mem_range.1 hk
    have hs : (⟨#[112]⟩ : ByteArray).size = 1 := rfl
    unfold rightP ptk
    simp only [hs, decide_eq_true_eq]
    omega
  rw [this, Bool.and_true]
theorem many_right {p n t d : Nat} (hn : n ≤ 60) : rightR (manyR p n t d) = (decide (p ≤ 64) && (decide (n ≤ 40) && (decide (t ≤ 8) && decide (d ≤ 64)))) := by
  unfold rightR manyR
  dsimp only
  rw [all_pts hn, all_same (show rightT nilT = true from rfl), all_same (show rightD nilD = true from rfl)]
  unfold rightPs
  rw [all_same (show two 0 = true from rfl)]
  rw [show rightO nilC = true from rfl, show rightK 7 = true from rfl, show two 0 = true from rfl, show four 0 = true from rfl, show decide ((⟨#[]⟩ : ByteArray).size ≤ 255) = true from rfl]
  simp only [Bool.true_and]
def nums (n : Nat) : List Int := (List.range n).map Int.ofNat
theorem nums_length (n : Nat) : (nums n).length = n := by simp [nums]
theorem nums_get {n j : Nat} (h : j < n) : (nums n).toArray[j]! = (j : Int) := by
  have hj : j < (nums n).toArray.size := by simpa [nums] using h
  rw [getElem!_pos (nums n).toArray j hj]
  simp [nums]
theorem asc_nums (n : Nat) : asc (nums n) = nums n := by
  unfold asc
  apply List.mergeSort_of_pairwise
  unfold nums
  rw [List.pairwise_map]
  refine List.Pairwise.imp ?_ (List.pairwise_lt_range (n := n))
  intro a b h
  simp only [decide_eq_true_eq]
  exact Int.ofNat_le.2 (Nat.le_of_lt h)
theorem many_touch {p n t d : Nat} : (touchL (manyR p n t d)).length = n := by
  have e : touchL (manyR p n t d) = Lib.compact (asc ((ptsN n).map Pt.pg)) := rfl
  have e2 : (ptsN n).map Pt.pg = nums n := by unfold ptsN nums; rw [List.map_map]; rfl
  rw [e, e2, asc_nums]
  clear e e2 p t d
  unfold Lib.compact Lib.compactUpTo
  rw [List.length_map, List.filter_eq_self.2, List.length_range, nums_length]
  intro j hj
  have hj := List.mem_range.1 hj
  rw [nums_length] at hj
  unfold Lib.keeps
  by_cases h0 : j = 0
  · subst h0; rfl
  · rw [nums_get hj, nums_get (show j - 1 < n by omega)]
    simp [h0]
    omega
end Go.Proofs.YtbmnagfjpenemaaDoor
