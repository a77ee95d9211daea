/- Of a value of two pages the pages that may not be, are there twice, too few, or too many, are refused; all others are taken. -/
import Derived.Test.YtoladghpoddlgaaRows
import Derived.Test.YtoladghpoddlgaaLaws
import Derived.LoopTactic
import Derived.StillTailTactics
import Derived.BigQuiet
import Derived.Deep.DeepCutAuto
import Derived.Deep.RegionLaw
import Derived.Deep.CutBlock
import Derived.Lib.Hide
import Derived.WalkKit
import Derived.ProofKit
import Derived.OpenShut
import Derived.ChangeOld
import Derived.Below
import Derived.Carry
namespace Go.Proofs.Ytoladghpoddlgaa.blobPlaces
open Go.ChangeShapes Go.WideShapes Go.ChangeAt Go.RowKit
set_option linter.unusedVariables false

theorem own : ownKnob Try.prog.godebug = none := by kernel_rfl
theorem laidOut : laidOutB Try.prog = true := by kernel_rfl


set_option maxRecDepth 100000 in
set_option maxHeartbeats 100000000 in
theorem walk (a0 a1 a2 : Int) (w : World) (w0 : (Lit.int .i64 a0).wf = true) (w1 : (Lit.int .i64 a1).wf = true) (w2 : (Lit.int .i64 a2).wf = true) :
    Calls Try.prog 6 #[.int .i64 a0, .int .i64 a1, .int .i64 a2] w fun e w' => e = .returned (.bool true) ∧ Below w.heap.size w w' := by
  have AL := Lib.hid alive_yes
  by_cases c0 : a0 ≤ 200
  · as_aux_lemma =>
      have g0 : decide (a0 ≤ 200) = true := decide_eq_true c0
      have HB0 := Lib.hid (Below.refl w.heap.size w)
      go_enter Try.func6, Try.ntmps6
      go_wp2_with fail
      refine (AL.out _).mono ?_; rintro e w1 ⟨rfl, hb⟩
      have HB1 := Lib.hid (HB0.out.trans (hb.mono (Below.size HB0.out)))
      clear hb HB0 
      go_wp2_with fail
      go_ret
      exact ⟨rfl, HB1.out⟩
  · by_cases c1 : a0 > 400
    · as_aux_lemma =>
        have g0 : decide (a0 ≤ 200) = false := decide_eq_false c0
        have g1 : decide (a0 > 400) = true := decide_eq_true c1
        have g2 : decide (400 < a0) = true := decide_eq_true c1
        have HB0 := Lib.hid (Below.refl w.heap.size w)
        go_enter Try.func6, Try.ntmps6
        go_wp2_with fail
        refine (AL.out _).mono ?_; rintro e w1 ⟨rfl, hb⟩
        have HB1 := Lib.hid (HB0.out.trans (hb.mono (Below.size HB0.out)))
        clear hb HB0 
        go_wp2_with fail
        go_ret
        exact ⟨rfl, HB1.out⟩
    · obtain ⟨N, hN⟩ : ∃ N : Nat, a0 = (N : Int) := ⟨a0.toNat, by omega⟩
      subst hN
      have n1 : 200 < N := by omega
      have n2 : N ≤ 400 := by omega
      have P2 := Lib.hid (fun w => put_ask2 (zs N) a1 a2 w)
      rw [putOk_pair (by rw [zs_length]; exact n1) (by rw [zs_length]; exact n2)] at P2
      have hpg : pagesN (zs N).length = 2 := by rw [zs_length]; exact pagesN_two (by omega) (by omega)
      have P1 := Lib.hid (fun w => put_ask1 (zs N) a1 w)
      rw [putOk_len_no (l := [a1]) (by rw [hpg]; simp)] at P1
      have P3 := Lib.hid (fun w => put_ask3 (zs N) a1 a2 7 w)
      rw [putOk_len_no (l := [a1, a2, 7]) (by rw [hpg]; simp)] at P3
      have P0 := Lib.hid (fun w => put_ask0 (zs N) w)
      have IA := Lib.hid (fun w => in_any a1 w)
      have IB := Lib.hid (fun w => in_any a2 w)
      have MK := Lib.hid (fun w => make_str N (by omega) w)
      clear hpg
      generalize str (zs N) = s at *
      generalize rightN a1 = ra at *
      generalize rightN a2 = rb at *
      obtain ⟨d, hd⟩ : ∃ d, d = decide (a2 ≠ a1) := ⟨_, rfl⟩
      rw [← hd] at P2
      have HD := Lib.hid (show (a1 != a2) = d from by
        rw [hd]
        by_cases h : a1 = a2
        · rw [h]; simp
        · rw [bne_iff_ne.2 h, decide_eq_true (show a2 ≠ a1 from fun e => h e.symm)])
      clear hd
      have g0 : decide ((N : Int) ≤ 200) = false := decide_eq_false (by omega)
      have g1 : decide ((N : Int) > 400) = false := decide_eq_false (by omega)
      clear n1 n2
      have HB0 := Lib.hid (Below.refl w.heap.size w)
      go_enter Try.func6, Try.ntmps6
      go_wp2_with fail
      refine (AL.out _).mono ?_; rintro e w1 ⟨rfl, hb⟩
      have HB1 := Lib.hid (HB0.out.trans (hb.mono (Below.size HB0.out)))
      clear hb HB0 
      obtain ⟨w9, hmk, hcv, hb⟩ := MK.out w1
      have HB9 := Lib.hid (HB1.out.trans (hb.mono (Below.size HB1.out)))
      clear hb HB1
      go_wp2_with fail
      clear hmk hcv
      refine (P2.out _).mono ?_; rintro e w10 ⟨A10, k10, c10, rfl, hb⟩
      have HB10 := Lib.hid (HB9.out.trans (hb.mono (Below.size HB9.out)))
      clear hb HB9
      go_wp2_with fail
      refine (P1.out _).mono ?_; rintro e w11 ⟨A11, k11, c11, rfl, hb⟩
      have HB11 := Lib.hid (HB10.out.trans (hb.mono (Below.size HB10.out)))
      clear hb HB10
      go_wp2_with fail
      refine (P3.out _).mono ?_; rintro e w12 ⟨A12, k12, c12, rfl, hb⟩
      have HB12 := Lib.hid (HB11.out.trans (hb.mono (Below.size HB11.out)))
      clear hb HB11
      go_wp2_with fail
      refine (P0.out _).mono ?_; rintro e w13 ⟨A13, k13, c13, rfl, hb⟩
      have HB13 := Lib.hid (HB12.out.trans (hb.mono (Below.size HB12.out)))
      clear hb HB12
      have dd := HD.out
      cases ra with
      | false =>
        as_aux_lemma =>
          go_wp2_with fail
          refine (IA.out _).mono ?_; rintro e wx ⟨rfl, rfl⟩
          go_wp2_with fail
          go_ret
          exact ⟨rfl, HB13.out⟩
      | true =>
        cases rb with
        | false =>
          as_aux_lemma =>
            go_wp2_with fail
            refine (IA.out _).mono ?_; rintro e wx ⟨rfl, rfl⟩
            go_wp2_with fail
            refine (IB.out _).mono ?_; rintro e wx ⟨rfl, rfl⟩
            go_wp2_with fail
            go_ret
            exact ⟨rfl, HB13.out⟩
        | true =>
          as_aux_lemma =>
            cases d with
            | false =>
              go_wp2_with fail
              refine (IA.out _).mono ?_; rintro e wx ⟨rfl, rfl⟩
              go_wp2_with fail
              refine (IB.out _).mono ?_; rintro e wx ⟨rfl, rfl⟩
              go_wp2_with fail
              go_ret
              exact ⟨rfl, HB13.out⟩
            | true =>
              go_wp2_with fail
              refine (IA.out _).mono ?_; rintro e wx ⟨rfl, rfl⟩
              go_wp2_with fail
              refine (IB.out _).mono ?_; rintro e wx ⟨rfl, rfl⟩
              go_wp2_with fail
              go_ret
              exact ⟨rfl, HB13.out⟩

/-! The row's step. -/
set_option maxRecDepth 100000 in
theorem lifted (os : Os) (started : os.Started) (H : Type) (enc : TypeId × Value → H) :
    ReturnsInHanded {} Try.checked os 6 .any (Rows.blobPlacesSpec.pre6 enc Try.prog Try.f6 Rows.blobPlacesRow.domain false) (Rows.blobPlacesSpec.post enc Try.prog Try.f6 false true false false) := by
  refine returnsInHanded_of_change (C := Try.checked) own started (by kernel_rfl) Try.func6
    (ChangeSpec.witness6 (enc := enc) (C := Try.checked) false ⟨#[], #[.int .i64 0, .int .i64 0, .int .i64 0], []⟩ 8 (by kernel_rfl) (by kernel_rfl) (by kernel_rfl) (by kernel_rfl)) ?_
  intro W base args ds gs before hval0 hW hcnd _
  have hval : ∀ (j : Nat) t v, Try.f6.params[j]? = some t → args[j]? = some v → Value.okWide Try.prog W .any base t v := hval0
  have hW' := hW
  obtain ⟨p, q, hA0, hV, rfl, hfz, hnd⟩ := hW
  have hA : DataW.TrodAll enc Try.prog W 0 (fun _ => true) true Try.f6.params.toList args.toList ds p := hA0
  rw [Try.params6] at hA hval
  obtain ⟨v0, vs0, d0, ds0, p0, q0, hargs, rfl, rfl, h0, r0⟩ := trodAll_cons hA
  obtain ⟨v1, vs1, d1, ds1, p1, q1, rfl, rfl, rfl, h1, r1⟩ := trodAll_cons r0
  obtain ⟨v2, vs2, d2, ds2, p2, q2, rfl, rfl, rfl, h2, r2⟩ := trodAll_cons r1
  obtain ⟨rfl, rfl, rfl⟩ := trodAll_nil r2
  obtain rfl : args = #[v0, v1, v2] := by cases args; simp_all
  obtain ⟨rfl, rfl⟩ := trodVars_none hV
  obtain ⟨a0, rfl, rfl, rfl, w0⟩ := open_int Try.underlying3 (hval 0 3 v0 rfl rfl) h0
  obtain ⟨a1, rfl, rfl, rfl, w1⟩ := open_int Try.underlying3 (hval 1 3 v1 rfl rfl) h1
  obtain ⟨a2, rfl, rfl, rfl, w2⟩ := open_int Try.underlying3 (hval 2 3 v2 rfl rfl) h2
  clear hA0 hval0
  refine (walk a0 a1 a2 W w0 w1 w2).mono fun e W' ⟨he, bel⟩ => ?_
  subst he
  exact ⟨_, rfl, _, _, _, [], _, [], hW', trodAll_mk1 (shut_bool Try.underlying4 _), (trodAll_cons_mk (shut_int Try.underlying3 w0) (trodAll_cons_mk (shut_int Try.underlying3 w1) (trodAll_cons_mk (shut_int Try.underlying3 w2) trodAll_mk0))), rfl, bel.frame _, fun h => by cases h⟩

theorem over : Rows.blobPlacesRow.holds Try.pinned (OpenSpec.ofChange Rows.blobPlacesSpec) :=
  OpenClaim.holds_of_wide 6 Try.f6 rfl rfl rfl rfl rfl rfl rfl ⟨rfl, rfl, rfl, rfl, rfl⟩ rfl rfl rfl rfl rfl (by kernel_rfl) Try.func6 (by kernel_rfl)
    (of_decide_eq_true (by kernel_rfl)) (by unfold Func.isWrapper; first | (rw [if_pos (by decide +kernel)]; kernel_rfl) | (rw [if_neg (by decide +kernel)]; exact ⟨rfl, rfl⟩))
    (fun os started H enc _ => lifted os started H enc)

/-- The statement. -/
theorem proved : Rows.BlobPlacesSaid := over
end Go.Proofs.Ytoladghpoddlgaa.blobPlaces
