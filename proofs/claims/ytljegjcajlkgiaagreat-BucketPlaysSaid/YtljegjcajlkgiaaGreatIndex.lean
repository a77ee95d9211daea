/- The contracts of slices.IndexFunc with 'is'; of each with 'take' (what is left of some room). -/
import Derived.Test.YtljegjcajlkgiaaGreatMethods
namespace Go.Proofs.YtljegjcajlkgiaaGreat
open Go.ChangeShapes Go.WideShapes Go.ChangeAt Go.RowKit
set_option linter.unusedVariables false
set_option linter.unusedSimpArgs false
set_option maxRecDepth 100000
theorem find_at {l : List Ce} {q : ByteArray} {k : Nat} (hk : k < l.length) (h : ∀ j, j < k → isB q (l.getD j nilC) = false) (hi : isB q (l.getD k nilC) = true) : findS l q = some (l.getD k nilC) := by
  have e : l = l.take k ++ (l.getD k nilC :: l.drop (k + 1)) := by
    rw [getD_at hk, List.getElem_cons_drop, List.take_append_drop]
  unfold findS
  rw [e, List.find?_append]
  have h0 : (l.take k).find? (isB q) = none := by
    rw [List.find?_eq_none]
    intro x hx
    obtain ⟨j, hj, rfl⟩ := List.getElem_of_mem hx
    have hj' : j < k := by rw [List.length_take] at hj; omega
    have := h j hj'
    rw [getD_at (by omega : j < l.length)] at this
    rw [List.getElem_take, this]
    simp
  rw [h0, ← e, List.find?_cons, hi]
  rfl
theorem find_out {l : List Ce} {q : ByteArray} (h : ∀ j, j < l.length → isB q (l.getD j nilC) = false) : findS l q = none := by
  unfold findS
  rw [List.find?_eq_none]
  intro x hx
  obtain ⟨j, hj, rfl⟩ := List.getElem_of_mem hx
  have := h j hj
  rw [getD_at hj] at this
  rw [this]
  simp
def Looked (l : List Ce) (q : ByteArray) (w : World) (e : Ending) (w' : World) : Prop := ((e = .returned (.int .i64 (-1)) ∧ findS l q = none) ∨ ∃ k : Nat, k < l.length ∧ e = .returned (.int .i64 k) ∧ findS l q = some (l.getD k nilC)) ∧ Below w.heap.size w w'
set_option maxHeartbeats 1000000 in
theorem index_walk {C n c : Nat} {A : Option Addr} {l : List Ce} (q : ByteArray) (w : World) (h : Ces C w A l) (hn : l.length = n) (hC : C ≤ w.heap.size) :
    Calls Tryz.prog 33 #[.slice A n c, .func (.func 34) #[.string q] #[]] w fun e w' => Looked l q w e w' := by
  have HP := Lib.hid h
  have HN := Lib.hid hn
  have HC := Lib.hid hC
  have hm := h.2.2
  unfold maxLen at hm
  have hN : (n : Int) ≤ 9223372036854775807 := by omega
  clear h hn hC hm
  go_enter Tryz.func33, Tryz.ntmps33
  go_wp2_with fail
  go_loopw [8] (fun x wr => ∃ k : Nat, k ≤ n ∧ x = .int .i64 k ∧ Hid (Below w.heap.size w wr ∧ ∀ j, j < k → isB q (l.getD j nilC) = false)) (fun x _ => n - (intOf x).toNat)
  case atStart => exact ⟨0, Nat.zero_le _, rfl, Below.refl _ _, fun j hj => by omega⟩
  case round =>
    obtain ⟨k, hk, rfl, hq⟩ := hrel
    have HQ := Lib.hid hq
    clear hq
    by_cases hlt : k < n
    · obtain ⟨b, off, rfl, hb, hp⟩ := HP.out.1 k (by rw [HN.out]; exact hlt)
      obtain ⟨c0, c1, c2, c3⟩ := hp.kept (w' := wr) (Nat.lt_of_lt_of_le hb HC.out) HQ.out.out.1
      have HW := Lib.hid (is_any q (l.getD k nilC) wr)
      have HT := Lib.hid (fun (g : isB q (l.getD k nilC) = false) => show ∀ j, j < k + 1 → isB q (l.getD j nilC) = false from fun j hj => by
        by_cases e : j < k
        · exact HQ.out.out.2 j e
        · obtain rfl : j = k := by omega
          exact g)
      have HF := Lib.hid (find_at (l := l) (k := k) (by rw [HN.out]; exact hlt) HQ.out.out.2)
      have HLD := Lib.hid (show l.getD k nilC = l.getD k nilC from rfl)
      clear hb hp
      generalize hx : l.getD k nilC = x at *
      have HX := Lib.hid hx
      clear hx
      unfold cvC cv at HW
      have b1 : (0 : Int) ≤ (k : Int) := by omega
      have b2 : (k : Int) < (n : Int) := by omega
      cases g : isB q x with
      | false =>
        rw [g] at HW
        have HG := Lib.hid (HT.out g)
        clear HF HT g
        go_wp2_with fail
        refine HW.out.mono ?_; rintro e w1 ⟨rfl, hb⟩
        have H1 := Lib.hid hb
        clear hb c0 c1 c2 c3
        go_wp2_with fail
        go_roundw
        case rel => exact ⟨k + 1, by omega, by go_num, HQ.out.out.1.trans (H1.out.mono HQ.out.out.1.size), HG.out⟩
        case measure => simp [intOf]; omega
      | true =>
        rw [g] at HW
        have HG := Lib.hid (HF.out g)
        clear HF HT g
        go_wp2_with fail
        refine HW.out.mono ?_; rintro e w1 ⟨rfl, hb⟩
        have H1 := Lib.hid hb
        clear hb c0 c1 c2 c3
        go_wp2_with fail
        go_ret
        exact ⟨.inr ⟨k, by rw [HN.out]; exact hlt, rfl, by rw [HX.out]; exact HG.out⟩, HQ.out.out.1.trans (H1.out.mono HQ.out.out.1.size)⟩
    · obtain rfl : n = k := by omega
      have b2 : ¬ (n : Int) < (n : Int) := by omega
      go_wp2_with fail
      go_ret
      exact ⟨.inl ⟨rfl, find_out (fun j hj => HQ.out.out.2 j (by rw [HN.out] at hj; exact hj))⟩, HQ.out.out.1⟩
end Go.Proofs.YtljegjcajlkgiaaGreat
