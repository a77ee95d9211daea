/- No cells are a body of zeros, which has none; zeros are a body just if they are 240, for every number of them. -/
import Derived.Test.YtnbfieidledfmaaRows
import Derived.Test.YtnbfieidledfmaaBase
import Derived.Deep.RegionHeld3
import Derived.StillTailTactics
import Derived.BigQuiet
import Derived.Laws.MakeOwn
import Derived.Deep.DeepCutAuto
import Derived.Deep.RegionLaw
import Derived.Lib.Hide
import Derived.WalkKit
import Derived.ProofKit
import Derived.OpenShut
import Derived.ChangeOld
import Derived.Below
import Derived.Carry
namespace Go.Proofs.Ytnbfieidledfmaa.cellNone
open Go.ChangeShapes Go.WideShapes Go.ChangeAt Go.RowKit
set_option linter.unusedVariables false

theorem own : ownKnob Try.prog.godebug = none := by kernel_rfl
theorem laidOut : laidOutB Try.prog = true := by kernel_rfl


set_option maxRecDepth 100000 in
set_option maxHeartbeats 8000000 in
theorem walk (a0 : Int) (w : World) (w0 : (Lit.int .i64 a0).wf = true) :
    Calls Try.prog 8 #[.int .i64 a0] w fun e w' => e = .returned (.bool true) ∧ Below w.heap.size w w' := by
  by_cases c0 : a0 < 0
  · as_aux_lemma =>
      have HB0 := Lib.hid (Below.refl w.heap.size w)
      have AL := Lib.hid alive_yes
      go_enter Try.func8, Try.ntmps8
      go_wp2_with fail
      refine (AL.out _).mono ?_; rintro e w1 ⟨rfl, hb⟩
      have HB1 := Lib.hid (HB0.out.trans (hb.mono (Below.size HB0.out)))
      clear hb HB0 
      go_wp2_with fail
      go_ret
      exact ⟨rfl, HB1.out⟩
  · by_cases c1 : 300 < a0
    · as_aux_lemma =>
        have HB0 := Lib.hid (Below.refl w.heap.size w)
        have AL := Lib.hid alive_yes
        go_enter Try.func8, Try.ntmps8
        go_wp2_with fail
        refine (AL.out _).mono ?_; rintro e w1 ⟨rfl, hb⟩
        have HB1 := Lib.hid (HB0.out.trans (hb.mono (Below.size HB0.out)))
        clear hb HB0 
        go_wp2_with fail
        go_ret
        exact ⟨rfl, HB1.out⟩
    · obtain ⟨n, rfl⟩ : ∃ n : Nat, a0 = (n : Int) := ⟨a0.toNat, by omega⟩
      have hn : n ≤ 300 := by omega
      clear w0
      have PU := Lib.hid (fun w => put_any (c := 0) (n := 0) w (Ces.nil 0 w none) rfl (by omega) (Nat.zero_le _))
      have FI := Lib.hid (fun w => fits_walk (c := 0) (n := 0) w (Ces.nil 0 w none) rfl (by omega) (Nat.zero_le _))
      have ho : putOk [] = true := by decide
      have hb : bodyOf [] = zs 240 := by decide +kernel
      have hf : fitsB [] = true := by decide
      rw [show putS [] = zs 240 by unfold putS; rw [ho]; exact hb, ho] at PU
      rw [hf] at FI
      have hg := getOk_body ho
      rw [hb] at hg
      have GE := Lib.hid (fun w => get_any (zs 240) (by rw [zs_length]; omega) w)
      have GN := Lib.hid (fun w => get_any (zs n) (by rw [zs_length]; omega) w)
      unfold Got at GE GN
      rw [hg.1, hg.2] at GE
      have ZN := Lib.hid (fun w => zeros_ok n (by omega) w)
      have ZB := Lib.hid (fun w => zeros_ok 240 (by omega) w)
      have hgn : getOk (zs n) = decide (n = 240) := by
        by_cases e : n = 240
        · rw [e, hg.1]; rfl
        · rw [getOk_none (by rw [zs_length]; exact e), decide_eq_false e]
      rw [hgn] at GN
      have hd : decide ((n : Int) = 240) = decide (n = 240) := by
        by_cases e : n = 240
        · rw [decide_eq_true e, decide_eq_true (by omega)]
        · rw [decide_eq_false e, decide_eq_false (by omega)]
      have hd2 : ((n : Int) == 240) = decide (n = 240) := by rw [← hd]; rfl
      clear hgn hg hf ho hb
      have hse : ((str (zs 240)).toList == (str (zs 240)).toList) = true := by simp
      generalize decide (n = 240) = g at *
      generalize str (zs n) = Zn at *
      generalize str (zs 240) = Zb at *
      generalize (getS (zs n)) = gl at *
      have HB0 := Lib.hid (Below.refl w.heap.size w)
      have AL := Lib.hid alive_yes
      go_enter Try.func8, Try.ntmps8
      go_wp2_with fail
      refine (AL.out _).mono ?_; rintro e w1 ⟨rfl, hb⟩
      have HB1 := Lib.hid (HB0.out.trans (hb.mono (Below.size HB0.out)))
      clear hb HB0 
      go_wp2_with fail
      refine (PU.out _).mono ?_; rintro e w2 ⟨rfl, hb⟩
      have HB2 := Lib.hid (HB1.out.trans (hb.mono (Below.size HB1.out)))
      clear hb HB1 
      go_wp2_with fail
      refine (GE.out _).mono ?_; rintro e w3 ⟨A3, c3, rfl, _, hb⟩
      have HB3 := Lib.hid (HB2.out.trans (hb.mono (Below.size HB2.out)))
      clear hb HB2
      go_wp2_with fail
      refine (ZN.out _).mono ?_; rintro e w4 ⟨rfl, hb⟩
      have HB4 := Lib.hid (HB3.out.trans (hb.mono (Below.size HB3.out)))
      clear hb HB3 
      go_wp2_with fail
      refine (GN.out _).mono ?_; rintro e w5 ⟨A5, c5, rfl, _, hb⟩
      have HB5 := Lib.hid (HB4.out.trans (hb.mono (Below.size HB4.out)))
      clear hb HB4
      go_wp2_with fail
      refine (ZB.out _).mono ?_; rintro e w6 ⟨rfl, hb⟩
      have HB6 := Lib.hid (HB5.out.trans (hb.mono (Below.size HB5.out)))
      clear hb HB5 
      go_wp2_with fail
      refine (FI.out _).mono ?_; rintro e w7 ⟨rfl, hb⟩
      have HB7 := Lib.hid (HB6.out.trans (hb.mono (Below.size HB6.out)))
      clear hb HB6 
      go_wp2_with fail
      go_ret
      exact ⟨rfl, HB7.out⟩

/-! The row's step. -/
set_option maxRecDepth 100000 in
theorem lifted (os : Os) (started : os.Started) (H : Type) (enc : TypeId × Value → H) :
    ReturnsInHanded {} Try.checked os 8 .any (Rows.cellNoneSpec.pre6 enc Try.prog Try.f8 Rows.cellNoneRow.domain false) (Rows.cellNoneSpec.post enc Try.prog Try.f8 false true false false) := by
  refine returnsInHanded_of_change (C := Try.checked) own started (by kernel_rfl) Try.func8
    (ChangeSpec.witness6 (enc := enc) (C := Try.checked) false ⟨#[], #[.int .i64 0], []⟩ 8 (by kernel_rfl) (by kernel_rfl) (by kernel_rfl) (by kernel_rfl)) ?_
  intro W base args ds gs before hval0 hW hcnd _
  have hval : ∀ (j : Nat) t v, Try.f8.params[j]? = some t → args[j]? = some v → Value.okWide Try.prog W .any base t v := hval0
  have hW' := hW
  obtain ⟨p, q, hA0, hV, rfl, hfz, hnd⟩ := hW
  have hA : DataW.TrodAll enc Try.prog W 0 (fun _ => true) true Try.f8.params.toList args.toList ds p := hA0
  rw [Try.params8] at hA hval
  obtain ⟨v0, vs0, d0, ds0, p0, q0, hargs, rfl, rfl, h0, r0⟩ := trodAll_cons hA
  obtain ⟨rfl, rfl, rfl⟩ := trodAll_nil r0
  obtain rfl : args = #[v0] := by cases args; simp_all
  obtain ⟨rfl, rfl⟩ := trodVars_none hV
  obtain ⟨a0, rfl, rfl, rfl, w0⟩ := open_int Try.underlying3 (hval 0 3 v0 rfl rfl) h0
  clear hA0 hval0
  refine (walk a0 W w0).mono fun e W' ⟨he, bel⟩ => ?_
  subst he
  exact ⟨_, rfl, _, _, _, [], _, [], hW', trodAll_mk1 (shut_bool Try.underlying4 _), (trodAll_cons_mk (shut_int Try.underlying3 w0) trodAll_mk0), rfl, bel.frame _, fun h => by cases h⟩

theorem over : Rows.cellNoneRow.holds Try.pinned (OpenSpec.ofChange Rows.cellNoneSpec) :=
  OpenClaim.holds_of_wide 8 Try.f8 rfl rfl rfl rfl rfl rfl rfl ⟨rfl, rfl, rfl, rfl, rfl⟩ rfl rfl rfl rfl rfl (by kernel_rfl) Try.func8 (by kernel_rfl)
    (of_decide_eq_true (by kernel_rfl)) (by unfold Func.isWrapper; first | (rw [if_pos (by decide +kernel)]; kernel_rfl) | (rw [if_neg (by decide +kernel)]; exact ⟨rfl, rfl⟩))
    (fun os started H enc _ => lifted os started H enc)

/-- The statement. -/
theorem proved : Rows.CellNoneSaid := over
end Go.Proofs.Ytnbfieidledfmaa.cellNone
