/- The contract of Name: the table of names, as the program lays it. -/
import Derived.Test.YtbmnagfjpenemaaGreatDoorRight
import Derived.LaidMore
import Derived.LaidLaws
import Derived.LaidHandle
import Derived.OpenShut
import Derived.Stop.Joined
import Derived.Lib.SmallJoins
namespace Go.Proofs.YtbmnagfjpenemaaGreatDoor
open Go.ChangeShapes Go.WideShapes Go.ChangeAt Go.RowKit Go.Joins
set_option linter.unusedVariables false
set_option linter.unusedSimpArgs false
set_option maxRecDepth 100000
def nmL : List BA := [[], [117, 112, 100, 97, 116, 101], [117, 110, 100, 111, 110, 101], [115, 116, 114, 117, 99, 116], [99, 111, 109, 109, 105, 116], [101, 110, 100], [97, 98, 111, 114, 116], [99, 104, 101, 99, 107]]
def nm (k : Int) : BA := if 1 ≤ k ∧ k ≤ 7 then nmL.getD k.toNat [] else []
/-- The table's cells. -/
def NamesAt (w : World) : Prop := ∀ j, j < 8 → w.cell? ⟨0, j, none⟩ = some (.string (str (nmL.getD j [])))
theorem NamesAt.below {w w' : World} {B : Nat} (h : NamesAt w) (hb : Below B w w') (hB : w.heap.size ≤ B) : NamesAt w' := fun j hj => by
  have hc := h j hj
  exact (hb.cell (p := ⟨0, j, none⟩) (Nat.lt_of_lt_of_le (World.block_lt_of_cell? w _ hc) hB)).trans hc
theorem NamesAt.kept {w w' : World} (h : NamesAt w) (hb : Below w.heap.size w w') : NamesAt w' := h.below hb (Nat.le_refl _)
set_option maxHeartbeats 1000000 in
theorem name_any (k : Int) (w : World) (hn : NamesAt w) : Calls Tryz.prog 11 #[.int .i64 k] w fun e w' => e = .returned (.string (str (nm k))) ∧ w = w' := by
  have W := Lib.hid (fun w => kind_is k w)
  by_cases h : 1 ≤ k ∧ k ≤ 7
  · rw [show rightK k = true from decide_eq_true h] at W
    have e : nm k = nmL.getD k.toNat [] := by unfold nm; rw [if_pos h]
    rw [e]
    have n1 := hn 1 (by omega)
    have n2 := hn 2 (by omega)
    have n3 := hn 3 (by omega)
    have n4 := hn 4 (by omega)
    have n5 := hn 5 (by omega)
    have n6 := hn 6 (by omega)
    have n7 := hn 7 (by omega)
    clear e hn
    have hk : k = 1 ∨ k = 2 ∨ k = 3 ∨ k = 4 ∨ k = 5 ∨ k = 6 ∨ k = 7 := by omega
    clear h
    rcases hk with rfl | rfl | rfl | rfl | rfl | rfl | rfl
    all_goals
      go_enter Tryz.func11, Tryz.ntmps11
      go_wp2_with fail
      refine (W.out _).mono ?_; rintro e w1 ⟨rfl, rfl⟩
      go_wp2_with fail
      go_ret
      exact ⟨rfl, rfl⟩
  · rw [show rightK k = false from decide_eq_false h] at W
    have e : nm k = [] := by unfold nm; rw [if_neg h]
    rw [e, show str [] = ByteArray.mk #[] from rfl]
    clear e hn h
    go_enter Tryz.func11, Tryz.ntmps11
    go_wp2_with fail
    refine (W.out _).mono ?_; rintro e w1 ⟨rfl, rfl⟩
    go_wp2_with fail
    go_ret
    exact ⟨rfl, rfl⟩
/-! What the rows' condition on the table of names gives the walks. -/
def laidL : List (String × DataW Unit) := [("honeycomb/record.names", Rows.laid_honeycomb_record_names)]
theorem own : ownKnob Tryz.prog.godebug = none := by kernel_rfl
theorem laidOut : laidOutB Tryz.prog = true := by kernel_rfl
theorem gNames : Tryz.prog.globalNamed "honeycomb/record.names" = some 0 := by kernel_rfl
theorem tNames : (Tryz.prog.globals[0]?).map (·.type) = some 85 := by kernel_rfl
theorem door_met (os : Os) (args : Array Value) : laidMetH Tryz.prog laidL ((World.doorLaid Tryz.prog 400 os).forCall (fun _ _ => 0) ⟨#[], args, []⟩).memory :=
  laidMetH_of_parts3 (fuel := 8) (laidMet_of_run' 8 (by kernel_rfl) (by kernel_rfl)) (by kernel_rfl) (by kernel_rfl)
theorem of_laid {W : World} (h : laidMetH Tryz.prog laidL W) : NamesAt W := by
  rw [MakeChecks.laidMetH_plain _ _ _ (by kernel_rfl)] at h
  obtain ⟨ps, ⟨g0, t0, cs0, f0, p0, q0, hg0, ht0, hv0, hd0, _, _⟩, _, _⟩ := h
  obtain rfl := Option.some.inj (gNames.symm.trans hg0)
  obtain rfl := Option.some.inj (tNames.symm.trans ht0)
  obtain ⟨xs, m1, rfl, hx1, hlen, hn, hel⟩ := DataW.trod_array Tryz.underlying85 hd0
  have c1 : Tryz.prog.cellsOf 9 = 1 := by kernel_rfl
  have c8 : Tryz.prog.cellsOf 85 = 8 := by kernel_rfl
  rw [c8] at hlen
  simp only [Prod.mk.injEq, Rows.laid_honeycomb_record_names, DataW.agg.injEq] at hx1
  match xs, hn, hx1, hel with
  | [y0, y1, y2, y3, y4, y5, y6, y7], _, hx1, hel =>
    simp only [List.map_cons, List.map_nil, List.cons.injEq, and_true] at hx1
    obtain ⟨⟨z0, z1, z2, z3, z4, z5, z6, z7⟩, -⟩ := hx1
    have key : ∀ (i : Nat) (y : DataW Unit × List MemPlace) (l : BA), i < 8 → [y0, y1, y2, y3, y4, y5, y6, y7][i]? = some y → DataW.lit (.string l) = y.1 → W.cell? ⟨0, i, none⟩ = some (.string (str l)) := fun i y l hi hy hz => by
      have h0 := hel i hi
      rw [c1, hy, Nat.mul_one] at h0
      obtain ⟨s, e1, e2, _⟩ := DataW.trod_string Tryz.underlying9 h0
      have hs : s = str l := by
        rw [e2] at hz
        injection hz with hz
        injection hz with hz
        rw [hz, str_data]
      have hc := World.var?_cell hg0 hv0 i
      have hi' : i < cs0.toList.length := by omega
      have e3 : cs0[i]? = some (.string s) := by
        rw [List.drop_eq_getElem_cons hi'] at e1
        simp only [List.take_succ_cons, List.take_zero, List.cons.injEq, and_true] at e1
        rw [Array.getElem?_eq_getElem (by simpa using hi'), ← e1]
        simp
      rw [hs] at e3
      simpa [e3] using hc
    intro j hj
    have hj' : j = 0 ∨ j = 1 ∨ j = 2 ∨ j = 3 ∨ j = 4 ∨ j = 5 ∨ j = 6 ∨ j = 7 := by omega
    rcases hj' with rfl | rfl | rfl | rfl | rfl | rfl | rfl | rfl
    · exact key 0 y0 _ (by omega) rfl z0
    · exact key 1 y1 _ (by omega) rfl z1
    · exact key 2 y2 _ (by omega) rfl z2
    · exact key 3 y3 _ (by omega) rfl z3
    · exact key 4 y4 _ (by omega) rfl z4
    · exact key 5 y5 _ (by omega) rfl z5
    · exact key 6 y6 _ (by omega) rfl z6
    · exact key 7 y7 _ (by omega) rfl z7
end Go.Proofs.YtbmnagfjpenemaaGreatDoor
