/- A log that does not lie on its disk, or has no epoch, is not opened. -/
import Derived.Test.YtnjggoeahaglbaaGreatRows
import Derived.Test.YtnjggoeahaglbaaGreatLal
import Derived.Deep.RegionHeld3
import Derived.Deep.QuietTactic
import Derived.LoopTactic
import Derived.StillTailTactics
import Derived.BigQuiet
import Derived.Deep.DeepCutAuto
import Derived.Deep.RegionLaw
import Derived.Deep.CutBlock
import Derived.Lib.Hide
import Derived.WalkKit
import Derived.ProofKit
import Derived.OpenShut
import Derived.ChangeOld
import Derived.Below
import Derived.Carry
namespace Go.Proofs.YtnjggoeahaglbaaGreat.walErrors
open Go.ChangeShapes Go.WideShapes Go.ChangeAt Go.RowKit
open Wa Fr
set_option linter.unusedVariables false

theorem own : ownKnob Tryz.prog.godebug = none := by kernel_rfl
theorem laidOut : laidOutB Tryz.prog = true := by kernel_rfl


set_option maxRecDepth 100000 in
set_option maxHeartbeats 100000000 in
theorem walk (a0 a1 a2 : Int) (w : World) (w0i : (Lit.int .i64 a0).wf = true) (w1i : (Lit.int .i64 a1).wf = true) (w2i : (Lit.int .i64 a2).wf = true) :
    Calls Tryz.prog 8 #[.int .i64 a0, .int .i64 a1, .int .i64 a2] w fun e w' => e = .returned (.bool true) ∧ Below w.heap.size w w' := by
  have AL := Lib.hid Wa.alive_yes
  have NW := Lib.hid (fun u => Dk.new_d 100 (by omega) (by omega) u)
  go_enter Tryz.func8, Tryz.ntmps8
  go_wp2_with fail
  refine (AL.out _).mono ?_; rintro e w1 ⟨rfl, hb⟩
  have HB1 := Lib.hid hb
  clear hb AL
  go_wp2_with fail
  refine (NW.out _).mono ?_; rintro e w2 ⟨rfl, hD, hL⟩
  have HB2 := Lib.hid (HB1.out.trans (hL.below.mono HB1.out.size))
  have HD := Lib.hid hD
  have HS := Lib.hid hL.size
  clear hD hL NW
  unfold Dk.ptr
  generalize w1.heap.size + 1 = p at *
  have wr0 := int_range w0i
  have wr1 := int_range w1i
  have wr2 := int_range w2i
  by_cases t0 : 1 ≤ a1
  case neg =>
    as_aux_lemma =>
      have OA := Lib.hid (fun u (hd : Dk.Disk w1.heap.size p (Dk.blank 100) u) => open_arg a0 a1 a2 u hd (by decide) (wf_rng w2i) (by left; exact decide_eq_false (by have : (Dk.blank 100).last.length = 100 := List.length_replicate ..; rw [this]; omega)))
      go_wp2_with fail
      refine (OA.out _ HD.out).mono ?_; rintro e u ⟨rfl, rfl⟩
      go_wp2_with fail
      go_ret
      exact ⟨by trivial, HB2.out⟩
  by_cases t1 : a1 ≤ 4000
  case neg =>
    as_aux_lemma =>
      have OA := Lib.hid (fun u (hd : Dk.Disk w1.heap.size p (Dk.blank 100) u) => open_arg a0 a1 a2 u hd (by decide) (wf_rng w2i) (by left; exact decide_eq_false (by have : (Dk.blank 100).last.length = 100 := List.length_replicate ..; rw [this]; omega)))
      go_wp2_with fail
      refine (OA.out _ HD.out).mono ?_; rintro e u ⟨rfl, rfl⟩
      go_wp2_with fail
      go_ret
      exact ⟨by trivial, HB2.out⟩
  by_cases t2 : 0 ≤ a0
  case neg =>
    as_aux_lemma =>
      have OA := Lib.hid (fun u (hd : Dk.Disk w1.heap.size p (Dk.blank 100) u) => open_arg a0 a1 a2 u hd (by decide) (wf_rng w2i) (by left; exact decide_eq_false (by have : (Dk.blank 100).last.length = 100 := List.length_replicate ..; rw [this]; omega)))
      go_wp2_with fail
      refine (OA.out _ HD.out).mono ?_; rintro e u ⟨rfl, rfl⟩
      go_wp2_with fail
      go_ret
      exact ⟨by trivial, HB2.out⟩
  have hw : IntKind.i64.wrap (100 - min a1 100) = 100 - min a1 100 := IntWalk.i64_in _ (by omega)
  by_cases t3 : a0 ≤ 100 - min a1 100
  case neg =>
    as_aux_lemma =>
      have OA := Lib.hid (fun u (hd : Dk.Disk w1.heap.size p (Dk.blank 100) u) => open_arg a0 a1 a2 u hd (by decide) (wf_rng w2i) (by left; exact decide_eq_false (by have : (Dk.blank 100).last.length = 100 := List.length_replicate ..; rw [this]; omega)))
      go_wp2_with fail
      refine (OA.out _ HD.out).mono ?_; rintro e u ⟨rfl, rfl⟩
      go_wp2_with fail
      go_ret
      exact ⟨by trivial, HB2.out⟩
  by_cases t4 : a1 ≤ 100
  case neg =>
    as_aux_lemma =>
      have OA := Lib.hid (fun u (hd : Dk.Disk w1.heap.size p (Dk.blank 100) u) => open_arg a0 a1 a2 u hd (by decide) (wf_rng w2i) (by left; exact decide_eq_false (by have : (Dk.blank 100).last.length = 100 := List.length_replicate ..; rw [this]; omega)))
      go_wp2_with fail
      refine (OA.out _ HD.out).mono ?_; rintro e u ⟨rfl, rfl⟩
      go_wp2_with fail
      go_ret
      exact ⟨by trivial, HB2.out⟩
  by_cases t5 : 1 ≤ a2
  case neg =>
    as_aux_lemma =>
      have OA := Lib.hid (fun u (hd : Dk.Disk w1.heap.size p (Dk.blank 100) u) => open_arg a0 a1 a2 u hd (by decide) (wf_rng w2i) (by right; omega))
      go_wp2_with fail
      refine (OA.out _ HD.out).mono ?_; rintro e u ⟨rfl, rfl⟩
      go_wp2_with fail
      go_ret
      exact ⟨by trivial, HB2.out⟩
  by_cases t6 : a2 ≤ 4294967295
  case neg =>
    as_aux_lemma =>
      have OA := Lib.hid (fun u (hd : Dk.Disk w1.heap.size p (Dk.blank 100) u) => open_arg a0 a1 a2 u hd (by decide) (wf_rng w2i) (by right; omega))
      go_wp2_with fail
      refine (OA.out _ HD.out).mono ?_; rintro e u ⟨rfl, rfl⟩
      go_wp2_with fail
      go_ret
      exact ⟨by trivial, HB2.out⟩
  obtain ⟨f, rfl⟩ := Int.eq_ofNat_of_zero_le t2
  obtain ⟨s, rfl⟩ := Int.eq_ofNat_of_zero_le (show (0 : Int) ≤ a1 by omega)
  obtain ⟨I1, O1⟩ := blank_inv (f := f) (s := s) (n := 100) (ep := a2) (by omega) (by omega) (by omega) (by omega) (by omega)
  have hbl : (Dk.blank 100).last.length = 100 := List.length_replicate ..
  have OP := Lib.hid (ls_open f s a2 w2 HD.out HS.out rfl rfl (by omega) (by rw [hbl]; omega) (by rw [hbl]; omega) (by omega) O1)
  rw [blank_opG] at OP
  have II := Lib.hid I1
  clear I1 O1 hbl
  go_wp2_with fail
  refine OP.out.mono ?_; rintro e w3 ⟨q, rfl, hl, hb⟩
  have S3 := Lib.hid hl
  have HB3 := Lib.hid (HB2.out.trans (hb.mono HB2.out.size))
  have LA := Lib.hid (show Calls Tryz.prog 28 #[.pointer (some ⟨q, 0, none⟩)] w3 fun e w' => e = .returned (.int .i64 0) ∧ w3 = w' from ls_last w3 S3.out)
  have LF := Lib.hid (show Calls Tryz.prog 30 #[.pointer (some ⟨q, 0, none⟩)] w3 fun e w' => e = .returned (.int .i64 ((s : Int) - 0 - 0)) ∧ Below w3.heap.size w3 w' from ls_left w3 S3.out II.out)
  have EP := Lib.hid (fun u (hb : Below w3.heap.size w3 u) => (show Calls Tryz.prog 32 #[.pointer (some ⟨q, 0, none⟩)] u fun e w' => e = .returned (.int .i64 a2) ∧ u = w' from ls_epoch u (S3.out.kept hb)))
  have hs0 : (s : Int) - 0 - 0 = (s : Int) := by omega
  rw [hs0] at LF
  clear hl hb OP HD HB2 S3 II hs0
  go_wp2_with fail
  refine LA.out.mono ?_; rintro e u ⟨rfl, rfl⟩
  go_wp2_with fail
  refine LF.out.mono ?_; rintro e u ⟨rfl, hb⟩
  have EP2 := Lib.hid (EP.out _ hb)
  have HB4 := Lib.hid (HB3.out.trans (hb.mono HB3.out.size))
  clear hb EP
  go_wp2_with fail
  refine EP2.out.mono ?_; rintro e u ⟨rfl, rfl⟩
  go_wp2_with fail
  go_ret
  exact ⟨by trivial, HB4.out⟩

/-! The row's step. -/
set_option maxRecDepth 100000 in
theorem lifted (os : Os) (started : os.Started) (H : Type) (enc : TypeId × Value → H) :
    ReturnsInHanded {} Tryz.checked os 8 .any (Rows.walErrorsSpec.pre6 enc Tryz.prog Tryz.f8 Rows.walErrorsRow.domain false) (Rows.walErrorsSpec.post enc Tryz.prog Tryz.f8 false true false false) := by
  refine returnsInHanded_of_change (C := Tryz.checked) own started (by kernel_rfl) Tryz.func8
    (ChangeSpec.witness6 (enc := enc) (C := Tryz.checked) false ⟨#[], #[.int .i64 0, .int .i64 0, .int .i64 0], []⟩ 8 (by kernel_rfl) (by kernel_rfl) (by kernel_rfl) (by kernel_rfl)) ?_
  intro W base args ds gs before hval0 hW hcnd _
  have hval : ∀ (j : Nat) t v, Tryz.f8.params[j]? = some t → args[j]? = some v → Value.okWide Tryz.prog W .any base t v := hval0
  have hW' := hW
  obtain ⟨p, q, hA0, hV, rfl, hfz, hnd⟩ := hW
  have hA : DataW.TrodAll enc Tryz.prog W 0 (fun _ => true) true Tryz.f8.params.toList args.toList ds p := hA0
  rw [Tryz.params8] at hA hval
  obtain ⟨v0, vs0, d0, ds0, p0, q0, hargs, rfl, rfl, h0, r0⟩ := trodAll_cons hA
  obtain ⟨v1, vs1, d1, ds1, p1, q1, rfl, rfl, rfl, h1, r1⟩ := trodAll_cons r0
  obtain ⟨v2, vs2, d2, ds2, p2, q2, rfl, rfl, rfl, h2, r2⟩ := trodAll_cons r1
  obtain ⟨rfl, rfl, rfl⟩ := trodAll_nil r2
  obtain rfl : args = #[v0, v1, v2] := by cases args; simp_all
  obtain ⟨rfl, rfl⟩ := trodVars_none hV
  obtain ⟨a0, rfl, rfl, rfl, w0⟩ := open_int Tryz.underlying3 (hval 0 3 v0 rfl rfl) h0
  obtain ⟨a1, rfl, rfl, rfl, w1⟩ := open_int Tryz.underlying3 (hval 1 3 v1 rfl rfl) h1
  obtain ⟨a2, rfl, rfl, rfl, w2⟩ := open_int Tryz.underlying3 (hval 2 3 v2 rfl rfl) h2
  clear hA0 hval0
  refine (walk a0 a1 a2 W w0 w1 w2).mono fun e W' ⟨he, bel⟩ => ?_
  subst he
  exact ⟨_, rfl, _, _, _, [], _, [], hW', trodAll_mk1 (shut_bool Tryz.underlying4 _), (trodAll_cons_mk (shut_int Tryz.underlying3 w0) (trodAll_cons_mk (shut_int Tryz.underlying3 w1) (trodAll_cons_mk (shut_int Tryz.underlying3 w2) trodAll_mk0))), rfl, bel.frame _, fun h => by cases h⟩

theorem over : Rows.walErrorsRow.holds Tryz.pinned (OpenSpec.ofChange Rows.walErrorsSpec) :=
  OpenClaim.holds_of_wide 8 Tryz.f8 rfl rfl rfl rfl rfl rfl rfl ⟨rfl, rfl, rfl, rfl, rfl⟩ rfl rfl rfl rfl rfl (by kernel_rfl) Tryz.func8 (by kernel_rfl)
    (of_decide_eq_true (by kernel_rfl)) (by unfold Func.isWrapper; first | (rw [if_pos (by decide +kernel)]; kernel_rfl) | (rw [if_neg (by decide +kernel)]; exact ⟨rfl, rfl⟩))
    (fun os started H enc _ => lifted os started H enc)

/-- The statement. -/
theorem proved : Rows.WalErrorsSaid := over
end Go.Proofs.YtnjggoeahaglbaaGreat.walErrors
