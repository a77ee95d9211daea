/- The contract of Name: the table of names, as the program lays it. -/
import Derived.Test.YtkopgohmocjbbaaDoorShelf
namespace Go.Proofs.YtkopgohmocjbbaaDoor
open Go.ChangeShapes Go.WideShapes Go.ChangeAt Go.RowKit
set_option linter.unusedVariables false
set_option linter.unusedSimpArgs false
def nmL : List BA := [[102, 114, 101, 101], [100, 105, 114], [109, 97, 112], [98, 117, 99, 107, 101, 116], [111, 118, 101, 114, 102, 108, 111, 119], [98, 108, 111, 98]]
def nm (k : Int) : BA := if 0 ≤ k ∧ k ≤ 5 then nmL.getD k.toNat [] else []
/-- The table's cells. -/
def NamesAt (w : World) : Prop := ∀ j, j < 6 → w.cell? ⟨0, j, none⟩ = some (.string (str (nmL.getD j [])))
theorem NamesAt.below {w w' : World} {B : Nat} (h : NamesAt w) (hb : Below B w w') (hB : w.heap.size ≤ B) : NamesAt w' := fun j hj => by
  have hc := h j hj
  exact (hb.cell (p := ⟨0, j, none⟩) (Nat.lt_of_lt_of_le (World.block_lt_of_cell? w _ hc) hB)).trans hc
theorem NamesAt.kept {w w' : World} (h : NamesAt w) (hb : Below w.heap.size w w') : NamesAt w' := h.below hb (Nat.le_refl _)
set_option maxHeartbeats 1000000 in
theorem name_any (k : Int) (w : World) (hn : NamesAt w) : Calls Tryd.prog 16 #[.int .i64 k] w fun e w' => e = .returned (.string (str (nm k))) ∧ w = w' := by
  have W := Lib.hid (within_any k 5)
  by_cases h : 0 ≤ k ∧ k ≤ 5
  · rw [decide_eq_true h] at W
    have e : nm k = nmL.getD k.toNat [] := by unfold nm; rw [if_pos h]
    rw [e]
    have n0 := hn 0 (by omega)
    have n1 := hn 1 (by omega)
    have n2 := hn 2 (by omega)
    have n3 := hn 3 (by omega)
    have n4 := hn 4 (by omega)
    have n5 := hn 5 (by omega)
    clear e hn
    have hk : k = 0 ∨ k = 1 ∨ k = 2 ∨ k = 3 ∨ k = 4 ∨ k = 5 := by omega
    clear h
    rcases hk with rfl | rfl | rfl | rfl | rfl | rfl
    all_goals
      go_enter Tryd.func16, Tryd.ntmps16
      go_wp2_with fail
      refine (W.out _).mono ?_; rintro e w1 ⟨rfl, rfl⟩
      go_wp2_with fail
      go_ret
      exact ⟨rfl, rfl⟩
  · rw [decide_eq_false h] at W
    have e : nm k = [] := by unfold nm; rw [if_neg h]
    rw [e, show str [] = ByteArray.mk #[] from rfl]
    clear e hn h
    go_enter Tryd.func16, Tryd.ntmps16
    go_wp2_with fail
    refine (W.out _).mono ?_; rintro e w1 ⟨rfl, rfl⟩
    go_wp2_with fail
    go_ret
    exact ⟨rfl, rfl⟩
end Go.Proofs.YtkopgohmocjbbaaDoor
