/- The contract of cells: a body read as if it were one. -/
import Derived.Test.YtljegjcajlkgiaaGreatRead
namespace Go.Proofs.YtljegjcajlkgiaaGreat
open Go.ChangeShapes Go.WideShapes Go.ChangeAt Go.RowKit
set_option linter.unusedVariables false
set_option linter.unusedSimpArgs false
set_option maxRecDepth 100000
def Made (l : List Ce) (w : World) (e : Ending) (w' : World) : Prop := ∃ A c, e = .returned (.slice A l.length c) ∧ Own w.heap.size w' (.slice A l.length c) l ∧ Below w.heap.size w w'
theorem cell_step {p k : Nat} {w wr w1 w2 : World} {v : Value} {l : List Ce} {r : BA} {o : Obj} (hb : Below p w wr) (hw : p ≤ w.heap.size) (ht : Took p wr r w1) (hg : (w1.alloc o).grownBy w2 v.ownBlock)
    (hown : wr.ownsRow (p + 1) 42 4 v k (ccs l)) : Rd w2 p r ∧ Below p w w2 := by
  have hne : ∀ g, v.ownBlock = some g → p + 1 ≤ g := fun g hg => (hown.lt g hg).1
  have h1 : p < w1.heap.size := ht.1.lt
  refine ⟨?_, ?_⟩
  · refine (hg.block p (by simp; omega) (fun e => by have := hne p e.symm; omega)).trans ?_
    exact (Below.heap_alloc w1 o p h1).trans ht.1
  · have h2 : Below p w w1 := hb.trans (below_grownBy ht.2 (Nat.le_trans hw hb.size) (Nat.le_refl _))
    exact (h2.alloc (by omega) o).grown hg (by simp; omega) (fun g hgg => by have := hne g hgg; omega)
theorem own_after {p k : Nat} {wr w1 : World} {v : Value} {l : List Ce} {r : BA} (ht : Took p wr r w1) (hown : wr.ownsRow (p + 1) 42 4 v k (ccs l)) : w1.ownsRow (p + 1) 42 4 v k (ccs l) := by
  refine hown.kept ht.2 (.inr fun e => ?_)
  have := (hown.lt p e).1
  omega
set_option maxHeartbeats 2000000 in
theorem cells_any (s : BA) (hs : s.length ≤ 100000) (w : World) :
    Calls Tryz.prog 101 #[.string (str s)] w fun e w' => Made (parse s) w e w' := by
  obtain ⟨i0, hi, hz0, hz1, hz2⟩ := info_parts info_c
  have HR := Lib.hid (show Rd (w.alloc (.cells #[.string (str s)] 145)) w.heap.size s from heap_alloc_new w _)
  have HB := Lib.hid ((Below.refl w.heap.size w).alloc (Nat.le_refl _) (.cells #[.string (str s)] 145))
  have N1 := Lib.hid (fun w p (h : Rd w p s) => number_any p 1 s (by omega) (by omega) w h)
  have hn : numB (s.take 1) < 256 := numB_lt1 _ (by rw [List.length_take]; omega)
  have CE := Lib.hid (fun w p k (h : Rd w p (restN k (s.drop 1))) (hl : (restN k (s.drop 1)).length ≤ 1000000) => cell_any p (restN k (s.drop 1)) hl w h)
  have HP := Lib.hid (show parse s = cellsN (numB (s.take 1)) (s.drop 1) from rfl)
  have HLEN := Lib.hid (fun k => show (restN k (s.drop 1)).length ≤ 1000000 by
    have h : ∀ k, (restN k (s.drop 1)).length ≤ (s.drop 1).length := by
      intro k
      induction k with
      | zero => exact Nat.le_refl _
      | succ k ih =>
        refine Nat.le_trans ?_ ih
        rw [restN]
        unfold rest1
        split
        · unfold tail1 mid1; simp only [List.length_drop]; omega
        · unfold tail1 mid1; simp only [List.length_drop]; omega
    have := h k
    rw [List.length_drop] at this
    omega)
  rw [HP.out]
  generalize numB (s.take 1) = n at *
  generalize s.drop 1 = r at *
  have hn' : (n : Int) < 256 := by omega
  have hL := cellsN_length n r
  unfold Made
  rw [hL]
  clear hs hL HP
  go_enter Tryz.func101, Tryz.ntmps101
  go_wp2_with fail
  obtain ⟨p, hp⟩ : ∃ p, p = w.heap.size := ⟨_, rfl⟩
  rw [← hp] at HR HB ⊢
  have HPW := Lib.hid (show p ≤ w.heap.size by omega)
  have HPE := Lib.hid hp
  clear hp
  generalize w.alloc (.cells #[.string (str s)] 145) = W at *
  refine (N1.out _ _ HR.out).mono ?_; rintro e w1 ⟨rfl, ht⟩
  have H1 := Lib.hid (show Rd w1 p r ∧ Below p w w1 from ⟨ht.1, HB.out.trans (below_grownBy ht.2 (Nat.le_trans HPW.out HB.out.size) (Nat.le_refl _))⟩)
  clear ht HR HB
  go_wp2_with fail
  go_loopw [4, 8] (fun v x wr => ∃ k : Nat, k ≤ n ∧ x = .int .i64 k ∧ ∃ A c, v = .slice A k c ∧ Hid (Rd wr p (restN k r) ∧ wr.ownsRow (p + 1) 42 4 (.slice A k c) k (ccs (cellsN k r)) ∧ Below p w wr)) (fun _ x _ => n - (intOf x).toNat)
  case atStart => exact ⟨0, Nat.zero_le _, rfl, none, 0, rfl, H1.out.1, World.ownsRow_nil _ _ _ _, H1.out.2⟩
  case round =>
    obtain ⟨k, hk, rfl, A, c, rfl, hq⟩ := hrel
    have HQ := Lib.hid hq
    clear hq
    by_cases hlt : k < n
    · have b1 : (k : Int) < (n : Int) := by omega
      have b2 : (k : Int) < 256 := by omega
      go_wp2_with fail
      refine (CE.out _ _ k HQ.out.out.1 (HLEN.out k)).mono ?_; rintro e w2 ⟨rfl, ht⟩
      have HT := Lib.hid ht
      have HO := Lib.hid (own_after ht HQ.out.out.2.1)
      clear ht
      generalize hce : cell1 (restN k r) = ce
      have HCE := Lib.hid hce
      clear hce
      unfold cvC cv
      go_wp2_with (at_builtin; refine wpList_append_own _ rfl _ _ 26 rfl (p + 1) 42 i0 (.agg #[.string ⟨#[]⟩, .string ⟨#[]⟩, .int .i64 0, .int .i64 0]) 4 48 Tryz.underlying26 hi hz0 hz1 hz2 rfl (by decide) _ _ _ rfl (HO.out.alloc _) ⟨w2.heap.size, 0, none⟩ 1 1 (ccell ce) rfl rfl (news_four _ _ _ _ _ _) (ccell_one ce) (by unfold maxLen; omega) (by omega) (by have := HT.out.1.lt; simp; omega) ?_; intro v' w3 hown hgrow _; obtain ⟨A', c', rfl⟩ := own_shape hown)
      have HN := Lib.hid (cell_step (v := .slice A k c) (l := cellsN k r) HQ.out.out.2.2 HPW.out HT.out hgrow HQ.out.out.2.1)
      have HO2 := Lib.hid hown
      clear hown hgrow
      go_wp2_with fail
      go_roundw
      case rel => exact ⟨k + 1, by omega, by go_num, A', c', rfl, HN.out.1, by rw [cellsN, ccs_append, HCE.out, ccs_single]; exact HO2.out, HN.out.2⟩
      case measure => simp [intOf]; omega
    · obtain rfl : n = k := by omega
      go_wp2_with fail
      go_ret
      refine ⟨A, c, rfl, ?_, HQ.out.out.2.2.mono (Nat.le_of_eq HPE.out.symm)⟩
      have := HQ.out.out.2.1
      unfold Own
      rw [cellsN_length]
      exact own_base this (by rw [← HPE.out]; omega)
end Go.Proofs.YtljegjcajlkgiaaGreat
