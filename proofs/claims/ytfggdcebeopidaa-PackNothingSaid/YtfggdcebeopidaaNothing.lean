/- For every number k the law PackNothing returns true: where nothing was written there are no bytes, and nothing is read of them; nothing else is assumed. -/
import Derived.Test.YtfggdcebeopidaaRows
import Derived.Test.YtfggdcebeopidaaAlive
import Derived.Lib.Hide
import Derived.WalkLawsBesides
import Derived.WalkSpells
import Derived.Deep.QuietTactic
import Derived.BigQuiet
import Derived.WalkKit
import Derived.ProofKit
import Derived.OpenShut
import Derived.ShutString
namespace Go.Proofs.Ytfggdcebeopidaa.packNothing
open Go.ChangeShapes Go.WideShapes Go.ChangeAt Go.RowKit
open Go.ChangeMaps (open_string shut_string)
set_option linter.unusedVariables false

theorem own : ownKnob Try.prog.godebug = none := by kernel_rfl

/-! The walk: the Go text returns true and leaves what was there as it was. -/
theorem walk (a0 : Int) (w0 : (Lit.int .i64 a0).wf = true) (w : World) :
    Calls Try.prog 9 #[.int .i64 a0] w fun e w' => e = .returned (.bool true) ∧ Below w.heap.size w w' := by
  go_enter Try.func9, Try.ntmps9
  go_wp2_with fail
  refine (alive_yes _).mono ?_; rintro e w1 ⟨rfl, hb1⟩
  have B1 := Lib.hid hb1
  clear hb1
  go_wp2_with fail
  refine (done_good w.heap.size _ _ _ (Wr.new w.heap.size w1 (by have := B1.out.size; omega))).mono ?_; rintro e w2' ⟨rfl, hw2⟩
  have B2 := Lib.hid (show Below w.heap.size w w2' by rw [← hw2]; exact B1.out.alloc B1.out.size _)
  clear hw2
  go_wp2_with fail
  refine (from_any [] _).mono ?_; rintro e w3 ⟨rfl, hw3⟩
  have B3 := Lib.hid (show Below w.heap.size w w3 by rw [← hw3]; exact B2.out.alloc B2.out.size _)
  have R3 := Lib.hid (show Rd w3 w2'.heap.size [] true by rw [← hw3]; exact Rd.new _ _)
  have Hz := Lib.hid B2.out.size
  have Z3 := Lib.hid B3.out.size
  have hse : (str []).toList.isEmpty = true := by rw [str_toList]; rfl
  generalize w2'.heap.size = q at *
  clear hw3
  go_wp2_with fail
  refine (end_yes q _ R3.out).mono ?_; rintro e w6 ⟨rfl, rfl⟩
  go_wp2_with fail
  refine (bad_no q _ _ R3.out).mono ?_; rintro e w6 ⟨rfl, rfl⟩
  go_wp2_with fail
  · refine (rnum_short w.heap.size q [] _ (by decide) Z3.out R3.out).mono ?_; rintro e w4 ⟨rfl, hr4⟩
    have H4 := Lib.hid hr4
    clear hr4
    go_wp2_with fail
    refine (bad_yes q _ _ H4.out.1).mono ?_; rintro e w6 ⟨rfl, rfl⟩
    go_wp2_with fail
    refine (end_bad q _ _ H4.out.1).mono ?_; rintro e w6 ⟨rfl, rfl⟩
    go_wp2_with fail
    go_ret
    exact ⟨rfl, B3.out.trans (H4.out.2.below Hz.out)⟩
  · refine (rlong_short w.heap.size q [] _ (by decide) Z3.out R3.out).mono ?_; rintro e w4 ⟨rfl, hr4⟩
    have H4 := Lib.hid hr4
    clear hr4
    go_wp2_with fail
    refine (bad_yes q _ _ H4.out.1).mono ?_; rintro e w6 ⟨rfl, rfl⟩
    go_wp2_with fail
    refine (end_bad q _ _ H4.out.1).mono ?_; rintro e w6 ⟨rfl, rfl⟩
    go_wp2_with fail
    go_ret
    exact ⟨rfl, B3.out.trans (H4.out.2.below Hz.out)⟩
  · refine (rtext_few w.heap.size q [] _ (by decide) Z3.out R3.out).mono ?_; rintro e w4 ⟨rfl, hr4⟩
    have H4 := Lib.hid hr4
    clear hr4
    go_wp2_with fail
    refine (bad_yes q _ _ H4.out.1).mono ?_; rintro e w6 ⟨rfl, rfl⟩
    go_wp2_with fail
    refine (end_bad q _ _ H4.out.1).mono ?_; rintro e w6 ⟨rfl, rfl⟩
    go_wp2_with fail
    go_ret
    exact ⟨rfl, B3.out.trans (H4.out.2.below Hz.out)⟩

/-! The row's step. -/
set_option maxRecDepth 100000 in
theorem lifted (os : Os) (started : os.Started) (H : Type) (enc : TypeId × Value → H) :
    ReturnsInHanded {} Try.checked os 9 .any (Rows.packNothingSpec.pre6 enc Try.prog Try.f9 Rows.packNothingRow.domain false) (Rows.packNothingSpec.post enc Try.prog Try.f9 false true false false) := by
  refine returnsInHanded_of_change (C := Try.checked) own started (by kernel_rfl) Try.func9
    (ChangeSpec.witness6 (enc := enc) (C := Try.checked) false ⟨#[], #[.int .i64 0], []⟩ 8 (by kernel_rfl) (by kernel_rfl) (by kernel_rfl) (by kernel_rfl)) ?_
  intro W base args ds gs before hval0 hW hcnd _
  have hval : ∀ (j : Nat) t v, Try.f9.params[j]? = some t → args[j]? = some v → Value.okWide Try.prog W .any base t v := hval0
  have hW' := hW
  obtain ⟨p, q, hA0, hV, rfl, hfz, hnd⟩ := hW
  have hA : DataW.TrodAll enc Try.prog W 0 (fun _ => true) true Try.f9.params.toList args.toList ds p := hA0
  rw [Try.params9] at hA hval
  obtain ⟨v0, vs0, d0, ds0, p0, q0, hargs, rfl, rfl, h0, r0⟩ := trodAll_cons hA
  obtain ⟨rfl, rfl, rfl⟩ := trodAll_nil r0
  obtain rfl : args = #[v0] := by cases args; simp_all
  obtain ⟨rfl, rfl⟩ := trodVars_none hV
  obtain ⟨a0, rfl, rfl, rfl, w0⟩ := open_int Try.underlying3 (hval 0 3 v0 rfl rfl) h0
  clear hA0 hval0
  simp only [List.append_nil] at hW'
  refine (walk a0 w0 W).mono fun e W' ⟨he, hg⟩ => ?_
  subst he
  exact ⟨_, rfl, post_of_below (pa := []) (pv := []) hW' (fun _ _ _ => (trodAll_cons_mk (shut_bool Try.underlying4 _) trodAll_mk0)) (fun sp _ => (trodAll_cons_mk (shut_int Try.underlying3 w0) trodAll_mk0)) (fun _ _ => rfl) rfl
    hg (ok_one (by kernel_rfl) rfl (okWide_bool_mk Try.underlying4 _))⟩

theorem over : Rows.packNothingRow.holds Try.pinned (OpenSpec.ofChange Rows.packNothingSpec) :=
  OpenClaim.holds_of_wide 9 Try.f9 rfl rfl rfl rfl rfl rfl rfl ⟨rfl, rfl, rfl, rfl, rfl⟩ rfl rfl rfl rfl rfl (by kernel_rfl) Try.func9 (by kernel_rfl)
    (of_decide_eq_true (by kernel_rfl)) (by unfold Func.isWrapper; first | (rw [if_pos (by decide +kernel)]; kernel_rfl) | (rw [if_neg (by decide +kernel)]; exact ⟨rfl, rfl⟩))
    (fun os started H enc _ => lifted os started H enc)

/-- The statement. -/
theorem proved : Rows.PackNothingSaid :=
  over
end Go.Proofs.Ytfggdcebeopidaa.packNothing
