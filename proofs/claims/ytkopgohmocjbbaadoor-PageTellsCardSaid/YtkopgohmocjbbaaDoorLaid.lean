/- What the rows' condition on the table of names gives the walks; arguments that are pages. -/
import Derived.Test.YtkopgohmocjbbaaDoorRows
import Derived.Test.YtkopgohmocjbbaaDoorAlive
import Derived.LaidMore
import Derived.LaidLaws
import Derived.LaidHandle
import Derived.OpenShut
import Derived.Stop.Joined
import Derived.Lib.SmallJoins
namespace Go.Proofs.YtkopgohmocjbbaaDoor
open Go.ChangeShapes Go.WideShapes Go.ChangeAt Go.RowKit Go.Joins
set_option linter.unusedVariables false
def laidL : List (String × DataW Unit) := [("honeycomb/page.names", Rows.laid_honeycomb_page_names)]
theorem own : ownKnob Tryd.prog.godebug = none := by kernel_rfl
theorem laidOut : laidOutB Tryd.prog = true := by kernel_rfl
theorem gNames : Tryd.prog.globalNamed "honeycomb/page.names" = some 0 := by kernel_rfl
theorem tNames : (Tryd.prog.globals[0]?).map (·.type) = some 43 := by kernel_rfl
theorem door_met (os : Os) (args : Array Value) : laidMetH Tryd.prog laidL ((World.doorLaid Tryd.prog 400 os).forCall (fun _ _ => 0) ⟨#[], args, []⟩).memory :=
  laidMetH_of_parts3 (fuel := 8) (laidMet_of_run' 8 (by kernel_rfl) (by kernel_rfl)) (by kernel_rfl) (by kernel_rfl)
theorem of_laid {W : World} (h : laidMetH Tryd.prog laidL W) : NamesAt W := by
  rw [MakeChecks.laidMetH_plain _ _ _ (by kernel_rfl)] at h
  obtain ⟨ps, ⟨g0, t0, cs0, f0, p0, q0, hg0, ht0, hv0, hd0, _, _⟩, _, _⟩ := h
  obtain rfl := Option.some.inj (gNames.symm.trans hg0)
  obtain rfl := Option.some.inj (tNames.symm.trans ht0)
  obtain ⟨xs, m1, rfl, hx1, hlen, hn, hel⟩ := DataW.trod_array Tryd.underlying43 hd0
  have c1 : Tryd.prog.cellsOf 9 = 1 := by kernel_rfl
  have c6 : Tryd.prog.cellsOf 43 = 6 := by kernel_rfl
  rw [c6] at hlen
  simp only [Prod.mk.injEq, Rows.laid_honeycomb_page_names, DataW.agg.injEq] at hx1
  match xs, hn, hx1, hel with
  | [y0, y1, y2, y3, y4, y5], _, hx1, hel =>
    simp only [List.map_cons, List.map_nil, List.cons.injEq, and_true] at hx1
    obtain ⟨⟨z0, z1, z2, z3, z4, z5⟩, -⟩ := hx1
    have key : ∀ (i : Nat) (y : DataW Unit × List MemPlace) (l : BA), i < 6 → [y0, y1, y2, y3, y4, y5][i]? = some y → DataW.lit (.string l) = y.1 → W.cell? ⟨0, i, none⟩ = some (.string (str l)) := fun i y l hi hy hz => by
      have h0 := hel i hi
      rw [c1, hy, Nat.mul_one] at h0
      obtain ⟨s, e1, e2, _⟩ := DataW.trod_string Tryd.underlying9 h0
      have hs : s = str l := by
        rw [e2] at hz
        injection hz with hz
        injection hz with hz
        rw [hz, str_data]
      have hc := World.var?_cell hg0 hv0 i
      have hi' : i < cs0.toList.length := by omega
      have e3 : cs0[i]? = some (.string s) := by
        rw [List.drop_eq_getElem_cons hi'] at e1
        simp only [List.take_succ_cons, List.take_zero, List.cons.injEq, and_true] at e1
        rw [Array.getElem?_eq_getElem (by simpa using hi'), ← e1]
        simp
      rw [hs] at e3
      simpa [e3] using hc
    intro j hj
    have hj' : j = 0 ∨ j = 1 ∨ j = 2 ∨ j = 3 ∨ j = 4 ∨ j = 5 := by omega
    rcases hj' with rfl | rfl | rfl | rfl | rfl | rfl
    · exact key 0 y0 _ (by omega) rfl z0
    · exact key 1 y1 _ (by omega) rfl z1
    · exact key 2 y2 _ (by omega) rfl z2
    · exact key 3 y3 _ (by omega) rfl z3
    · exact key 4 y4 _ (by omega) rfl z4
    · exact key 5 y5 _ (by omega) rfl z5
/-- A page that came in: its four fields; and shut again, in any world. -/
theorem open_page {H : Type} {enc : TypeId × Value → H} {W : World} {v : Value} {d : DataW H} {p : List MemPlace} {b0 : Nat} {sp : Nat → Bool} {hd : Bool}
    (hv : Value.okWide Tryd.prog W .any b0 23 v) (h : DataW.Trod enc Tryd.prog W 0 sp hd 23 v d p) :
    ∃ (k dp n : Int) (b : ByteArray), v = pv k dp n b ∧ (Lit.int .i64 k).wf = true ∧ (Lit.int .i64 dp).wf = true ∧ (Lit.int .i64 n).wf = true ∧ b.size ≤ maxLen ∧ ∀ (W' : World) (sp' : Nat → Bool), DataW.Trod enc Tryd.prog W' 0 sp' hd 23 v d p := by
  obtain ⟨v0, v1, v2, v3, y0, y1, y2, y3, n, rfl, rfl, rfl, h0, h1, h2, h3⟩ := open_agg4 Tryd.underlying23 (by kernel_rfl) (by kernel_rfl) hv h
  obtain ⟨k0, e0, x0, g0⟩ := DataW.trod_int Tryd.underlying3 h0
  obtain ⟨k1, e1, x1, g1⟩ := DataW.trod_int Tryd.underlying3 h1
  obtain ⟨k2, e2, x2, g2⟩ := DataW.trod_int Tryd.underlying3 h2
  obtain ⟨s, e3, x3, g3⟩ := DataW.trod_string Tryd.underlying9 h3
  simp only [List.cons.injEq, and_true] at e0 e1 e2 e3
  subst e0 e1 e2 e3 x0 x1 x2 x3
  refine ⟨k0, k1, k2, s, rfl, g0, g1, g2, g3, fun W' sp' => ?_⟩
  exact shut_agg4 Tryd.underlying23 (by kernel_rfl) (by kernel_rfl) (field_of_Trod (shut_int Tryd.underlying3 g0) rfl) (field_of_Trod (shut_int Tryd.underlying3 g1) rfl) (field_of_Trod (shut_int Tryd.underlying3 g2) rfl) (field_of_Trod (Go.ChangeMaps.shut_string Tryd.underlying9 g3) rfl)
end Go.Proofs.YtkopgohmocjbbaaDoor
