/- For every string and every number n the law FnvZero returns true: no bits are 0, one bit is 0 or 1, too many bits are all 31; nothing else is assumed. -/
import Derived.Test.YtfcchijkopgchaaRows
import Derived.Test.YtfcchijkopgchaaWalks
import Derived.Lib.Hide
import Derived.WalkLawsBesides
import Derived.WalkSpells
import Derived.Deep.QuietTactic
import Derived.BigQuiet
import Derived.WalkKit
import Derived.ProofKit
import Derived.OpenShut
import Derived.ShutString
namespace Go.Proofs.Ytfcchijkopgchaa.fnvZero
open Go.ChangeShapes Go.WideShapes Go.ChangeAt Go.RowKit
open Go.ChangeMaps (open_string shut_string)
set_option linter.unusedVariables false

theorem own : ownKnob Try.prog.godebug = none := by kernel_rfl

theorem bits_zero (s : ByteArray) (d : Int) (w : World) (hs : s.size ≤ maxLen) (hd : d ≤ 0) :
    Calls Try.prog 12 #[.string s, .int .i64 d] w fun e w' => e = .returned (.int .i64 0) ∧ Drew w w' :=
  (bits_drew s d w hs).mono fun _ _ ⟨he, hw⟩ => ⟨by rw [he, hbits_nil s.data.toList d hd]; rfl, hw⟩
theorem bits_all (s : ByteArray) (d : Int) (w : World) (hs : s.size ≤ maxLen) (hd : 31 ≤ d) :
    Calls Try.prog 12 #[.string s, .int .i64 d] w fun e w' => e = .returned (.int .i64 (hbits s.data.toList 31)) ∧ Drew w w' :=
  (bits_drew s d w hs).mono fun _ _ ⟨he, hw⟩ => ⟨by rw [he, hbits_all s.data.toList d hd], hw⟩
theorem bits_one (s : ByteArray) (w : World) (hs : s.size ≤ maxLen) :
    Calls Try.prog 12 #[.string s, .int .i64 1] w fun e w' => (e = .returned (.int .i64 0) ∨ e = .returned (.int .i64 1)) ∧ Drew w w' :=
  (bits_drew s 1 w hs).mono fun _ _ ⟨he, hw⟩ => ⟨by
    rcases hbits_one s.data.toList with h | h
    · left; rw [he, h]; rfl
    · right; rw [he, h]; rfl, hw⟩

/-! The walk: the Go text returns true and leaves what was there as it was. -/
theorem walk (a0 : ByteArray) (a1 : Int) (w0 : a0.size ≤ maxLen) (w1 : (Lit.int .i64 a1).wf = true) (w : World) :
    Calls Try.prog 6 #[.string a0, .int .i64 a1] w fun e w' => e = .returned (.bool true) ∧ Grown w w' := by
  by_cases h1 : a0.size ≤ 100
  · by_cases h2 : 31 ≤ a1
    · have hb := (wf_hi a1 w1)
      go_enter Try.func6, Try.ntmps6
      go_wp2_with fail
      refine (alive_yes _).mono ?_; rintro e wa ⟨rfl, hda⟩
      go_wp2_with fail
      refine (bits_one _ _ w0).mono ?_; rintro e wb ⟨rfl | rfl, hdb⟩
      all_goals
        go_wp2_with fail
        refine (bits_zero _ _ _ w0 (by omega)).mono ?_; rintro e wc ⟨rfl, hdc⟩
        go_wp2_with fail
        refine (bits_zero _ _ _ w0 (by omega)).mono ?_; rintro e wd ⟨rfl, hdd⟩
        go_wp2_with fail
        refine (bits_all _ _ _ w0 (by omega)).mono ?_; rintro e we ⟨rfl, hde⟩
        go_wp2_with fail
        refine (bits_all _ _ _ w0 (by omega)).mono ?_; rintro e wf ⟨rfl, hdf⟩
        go_wp2_with fail
        go_ret
        exact ⟨rfl, grown_drew (((((hda.trans hdb).trans hdc).trans hdd).trans hde).trans hdf)⟩
    · go_enter Try.func6, Try.ntmps6
      go_wp2_with fail
      refine (alive_yes _).mono ?_; rintro e w1 ⟨rfl, hd⟩
      go_wp2_with fail
      go_ret
      exact ⟨rfl, grown_drew hd⟩
  · go_enter Try.func6, Try.ntmps6
    go_wp2_with fail
    refine (alive_yes _).mono ?_; rintro e w1 ⟨rfl, hd⟩
    go_wp2_with fail
    go_ret
    exact ⟨rfl, grown_drew hd⟩

/-! The row's step. -/
set_option maxRecDepth 100000 in
theorem lifted (os : Os) (started : os.Started) (H : Type) (enc : TypeId × Value → H) :
    ReturnsInHanded {} Try.checked os 6 .any (Rows.fnvZeroSpec.pre6 enc Try.prog Try.f6 Rows.fnvZeroRow.domain false) (Rows.fnvZeroSpec.post enc Try.prog Try.f6 false true false false) := by
  refine returnsInHanded_of_change (C := Try.checked) own started (by kernel_rfl) Try.func6
    (ChangeSpec.witness6 (enc := enc) (C := Try.checked) false ⟨#[], #[.string ByteArray.empty, .int .i64 0], []⟩ 8 (by kernel_rfl) (by kernel_rfl) (by kernel_rfl) (by kernel_rfl)) ?_
  intro W base args ds gs before hval0 hW hcnd _
  have hval : ∀ (j : Nat) t v, Try.f6.params[j]? = some t → args[j]? = some v → Value.okWide Try.prog W .any base t v := hval0
  have hW' := hW
  obtain ⟨p, q, hA0, hV, rfl, hfz, hnd⟩ := hW
  have hA : DataW.TrodAll enc Try.prog W 0 (fun _ => true) true Try.f6.params.toList args.toList ds p := hA0
  rw [Try.params6] at hA hval
  obtain ⟨v0, vs0, d0, ds0, p0, q0, hargs, rfl, rfl, h0, r0⟩ := trodAll_cons hA
  obtain ⟨v1, vs1, d1, ds1, p1, q1, rfl, rfl, rfl, h1, r1⟩ := trodAll_cons r0
  obtain ⟨rfl, rfl, rfl⟩ := trodAll_nil r1
  obtain rfl : args = #[v0, v1] := by cases args; simp_all
  obtain ⟨rfl, rfl⟩ := trodVars_none hV
  obtain ⟨a0, rfl, rfl, rfl, w0⟩ := open_string Try.underlying9 (hval 0 9 v0 rfl rfl) h0
  obtain ⟨a1, rfl, rfl, rfl, w1⟩ := open_int Try.underlying3 (hval 1 3 v1 rfl rfl) h1
  clear hA0 hval0
  simp only [List.append_nil] at hW'
  refine (walk a0 a1 w0 w1 W).mono fun e W' ⟨he, hg⟩ => ?_
  subst he
  exact ⟨_, rfl, post_of_same (pa := []) (pv := []) hW' (fun _ _ _ => (trodAll_cons_mk (shut_bool Try.underlying4 _) trodAll_mk0)) (fun sp _ => (trodAll_cons_mk (shut_string Try.underlying9 w0) (trodAll_cons_mk (shut_int Try.underlying3 w1) trodAll_mk0))) (fun _ _ => rfl) rfl
    (hg.frame _) hg.2.1 (ok_one (by kernel_rfl) rfl (okWide_bool_mk Try.underlying4 _))⟩

theorem over : Rows.fnvZeroRow.holds Try.pinned (OpenSpec.ofChange Rows.fnvZeroSpec) :=
  OpenClaim.holds_of_wide 6 Try.f6 rfl rfl rfl rfl rfl rfl rfl ⟨rfl, rfl, rfl, rfl, rfl⟩ rfl rfl rfl rfl rfl (by kernel_rfl) Try.func6 (by kernel_rfl)
    (of_decide_eq_true (by kernel_rfl)) (by unfold Func.isWrapper; first | (rw [if_pos (by decide +kernel)]; kernel_rfl) | (rw [if_neg (by decide +kernel)]; exact ⟨rfl, rfl⟩))
    (fun os started H enc _ => lifted os started H enc)

/-- The statement. -/
theorem proved : Rows.FnvZeroSaid :=
  over
end Go.Proofs.Ytfcchijkopgchaa.fnvZero
