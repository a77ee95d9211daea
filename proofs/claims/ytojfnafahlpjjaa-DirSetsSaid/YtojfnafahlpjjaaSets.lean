/- One entry of few bits, set, is all entries whose places end in these bits, and no others. -/
import Derived.Test.YtojfnafahlpjjaaRows
import Derived.Test.YtojfnafahlpjjaaLaws
import Derived.LoopTactic
import Derived.StillTailTactics
import Derived.BigQuiet
import Derived.Deep.DeepCutAuto
import Derived.Deep.RegionLaw
import Derived.Deep.CutBlock
import Derived.Lib.Hide
import Derived.WalkKit
import Derived.ProofKit
import Derived.OpenShut
import Derived.ChangeOld
import Derived.Below
import Derived.Carry
namespace Go.Proofs.Ytojfnafahlpjjaa.dirSets
open Go.ChangeShapes Go.WideShapes Go.ChangeAt Go.RowKit
set_option linter.unusedVariables false

theorem own : ownKnob Try.prog.godebug = none := by kernel_rfl
theorem laidOut : laidOutB Try.prog = true := by kernel_rfl


set_option maxRecDepth 100000 in
set_option maxHeartbeats 100000000 in
theorem walk (a0 a1 a2 : Int) (w : World) (w0 : (Lit.int .i64 a0).wf = true) (w1 : (Lit.int .i64 a1).wf = true) (w2 : (Lit.int .i64 a2).wf = true) :
    Calls Try.prog 5 #[.int .i64 a0, .int .i64 a1, .int .i64 a2] w fun e w' => e = .returned (.bool true) ∧ Below w.heap.size w w' := by
  have AL := Lib.hid alive_yes
  have HB0 := Lib.hid (Below.refl w.heap.size w)
  by_cases c0 : a0 < 0
  · as_aux_lemma =>
      have d0 : decide (a0 < 0) = true := decide_eq_true c0
      go_enter Try.func5, Try.ntmps5
      go_wp2_with fail
      refine (AL.out _).mono ?_; rintro e w1 ⟨rfl, hb⟩
      have HB1 := Lib.hid (HB0.out.trans (hb.mono (Below.size HB0.out)))
      clear hb HB0 
      go_wp2_with fail
      go_ret
      exact ⟨rfl, HB1.out⟩
  · have d0 : decide (a0 < 0) = false := decide_eq_false c0
    by_cases c1 : 5 < a0
    · as_aux_lemma =>
        have d1 : decide (a0 > 5) = true := decide_eq_true c1
        go_enter Try.func5, Try.ntmps5
        go_wp2_with fail
        refine (AL.out _).mono ?_; rintro e w1 ⟨rfl, hb⟩
        have HB1 := Lib.hid (HB0.out.trans (hb.mono (Below.size HB0.out)))
        clear hb HB0 
        go_wp2_with fail
        go_ret
        exact ⟨rfl, HB1.out⟩
    · have d1 : decide (a0 > 5) = false := decide_eq_false c1
      by_cases c2 : a2 < 3
      · as_aux_lemma =>
          have d2 : decide (a2 < 3) = true := decide_eq_true c2
          go_enter Try.func5, Try.ntmps5
          go_wp2_with fail
          refine (AL.out _).mono ?_; rintro e w1 ⟨rfl, hb⟩
          have HB1 := Lib.hid (HB0.out.trans (hb.mono (Below.size HB0.out)))
          clear hb HB0 
          go_wp2_with fail
          go_ret
          exact ⟨rfl, HB1.out⟩
      · have d2 : decide (a2 < 3) = false := decide_eq_false c2
        by_cases c3 : 64 ≤ a2
        · as_aux_lemma =>
            have d3 : decide (a2 ≥ 64) = true := decide_eq_true c3
            go_enter Try.func5, Try.ntmps5
            go_wp2_with fail
            refine (AL.out _).mono ?_; rintro e w1 ⟨rfl, hb⟩
            have HB1 := Lib.hid (HB0.out.trans (hb.mono (Below.size HB0.out)))
            clear hb HB0 
            go_wp2_with fail
            go_ret
            exact ⟨rfl, HB1.out⟩
        · have d3 : decide (a2 ≥ 64) = false := decide_eq_false c3
          obtain ⟨d, rfl⟩ : ∃ d : Nat, a0 = (d : Int) := ⟨a0.toNat, by omega⟩
          have hd5 : d ≤ 5 := by omega
          have hn : 2 ≤ a2 ∧ a2 < 64 := ⟨by omega, by omega⟩
          have hn3 : 3 ≤ a2 := by omega
          have hp := pow_le hd5
          have r1 := int_range w1
          have MK := i64_mask d hd5 a1 r1.1 r1.2
          have HMI := Lib.hid (fun (i : Nat) (hi : i ≤ 1000) => i64_mask d hd5 (i : Int) (by omega) (by omega))
          obtain ⟨b, hb⟩ : ∃ b : Nat, a1 % ((2 ^ d : Nat) : Int) = (b : Int) := ⟨(a1 % ((2 ^ d : Nat) : Int)).toNat, (Int.toNat_of_nonneg (Int.emod_nonneg _ (by omega))).symm⟩
          have hbl : b < 2 ^ d := by have := Int.emod_lt_of_pos a1 (show (0 : Int) < ((2 ^ d : Nat) : Int) by omega); omega
          rw [hb] at MK
          clear hb r1
          have hg5 := reps_good (x := 2) ⟨by decide, by decide⟩ (k := 5) (by omega)
          have NE := Lib.hid (fun w => (show Calls Try.prog 9 #[.int .i64 2] w fun q w' => q = .returned (.tuple #[pv 1 0 0 (mkD (reps 2 0)), .bool true]) ∧ Below w.heap.size w w' from new_ok 2 ⟨by decide, by decide⟩ w))
          have DO := Lib.hid (fun (k : Nat) (hk : k < 5) w => (show Calls Try.prog 12 #[pv 1 k 0 (mkD (reps 2 k))] w fun q w' => q = .returned (.tuple #[pv 1 ((k : Int) + 1) 0 (mkD (reps 2 (k + 1))), .int .i64 0]) ∧ Below w.heap.size w w' from by
            have h := double_ok 0 (reps 2 k) k (reps_good ⟨by decide, by decide⟩ (by omega)) hk w
            rw [reps_double] at h
            exact h))
          have SE := Lib.hid (fun w => set_ok 0 (reps 2 5) 5 hg5 b d a2 hd5 hbl hn w)
          have hgS := hg5.set (bits := b) (depth := d) hn
          have AA := Lib.hid (fun w => all_some 0 (setS (reps 2 5) b d a2) 5 hgS w)
          have hlS : (setS (reps 2 5) b d a2).length = 32 := hgS.2.1
          rw [hlS] at AA
          have HGT := Lib.hid (fun (i : Nat) (hi : i < 32) => (show (setS (reps 2 5) b d a2).getD i 0 = if i % 2 ^ d = b then a2 else 2 from by rw [setS_getD (by rw [hg5.2.1]; exact hi), reps_getD 2 hi]))
          have HCA := Lib.hid (cntM_all d (by omega) b (by omega) hbl)
          have HCS := Lib.hid (cntM_succ d b)
          have HCL := Lib.hid (cntM_le d b)
          have SH := shl_val d (by omega)
          have SH2 : wrap64 ((2 : Int) ^ d) = ((2 ^ d : Nat) : Int) := by rw [← SH, Int.toNat_natCast, Nat.min_eq_left (by omega)]
          obtain ⟨m, hm⟩ : ∃ m, m = 5 - d := ⟨_, rfl⟩
          have hm5 : (5 : Int) - (d : Int) = (m : Int) := by omega
          have hmw : IntKind.i64.wrap ((5 : Int) - (d : Int)) = (m : Int) := by rw [hm5]; exact IntWalk.i64_in _ (by omega)
          have SM := shl_val m (by omega)
          have SM2 : wrap64 ((2 : Int) ^ m) = ((2 ^ m : Nat) : Int) := by rw [← SM, Int.toNat_natCast, Nat.min_eq_left (by omega)]
          rw [← hm] at HCA
          have hpm := pow_le (e := m) (by omega)
          obtain ⟨HMOD, hHMOD⟩ : ∃ f : Nat → Nat, f = fun i => i % 2 ^ d := ⟨_, rfl⟩
          have HMI2 := Lib.hid (fun (i : Nat) (hi : i ≤ 1000) => (show bits .and .i64 (i : Int) (((2 ^ d : Nat) : Int) - 1) = ((HMOD i : Nat) : Int) from by rw [HMI.out i hi, hHMOD]; rfl))
          have HGT2 := Lib.hid (fun (i : Nat) (hi : i < 32) => (show (setS (reps 2 5) b d a2).getD i 0 = if HMOD i = b then a2 else 2 from by rw [HGT.out i hi, hHMOD]))
          have HCS2 := Lib.hid (fun i => (show cntM d b (i + 1) = cntM d b i + if HMOD i = b then 1 else 0 from by rw [HCS.out i, hHMOD]))
          clear HMI HGT HCS hHMOD hg5 hgS hlS hbl
          generalize cntM d b = cnt at *
          generalize 2 ^ d = N at *
          generalize 2 ^ m = M at *
          have e3 : IntKind.i64.wrap ((N : Int) - 1) = (N : Int) - 1 := IntWalk.i64_in _ (by omega)
          have x2 : ((2 : Int) == a2) = false := by rw [beq_eq_false_iff_ne]; omega
          have x2n : (2 : Int) ≠ a2 := by omega
          unfold pv at *
          obtain ⟨sS, hsS⟩ : ∃ s, s = str (mkD (setS (reps 2 5) b d a2)) := ⟨_, rfl⟩
          rw [← hsS] at SE AA
          obtain ⟨S, hS⟩ : ∃ S, S = setS (reps 2 5) b d a2 := ⟨_, rfl⟩
          rw [← hS] at AA HGT2
          have HLS := Lib.hid (show S.length = 32 from by rw [hS]; unfold setS; rw [tabF_length]; rfl)
          obtain ⟨pg, hpg⟩ : ∃ pg : Nat → ByteArray, pg = fun k => str (mkD (reps 2 k)) := ⟨_, rfl⟩
          have NE1 := Lib.hid (show ∀ w, Calls Try.prog 9 #[.int .i64 2] w fun q w' => q = .returned (.tuple #[.agg #[.int .i64 1, .int .i64 0, .int .i64 0, .string (pg 0)], .bool true]) ∧ Below w.heap.size w w' from by rw [hpg]; exact NE.out)
          have DO1 := Lib.hid (show ∀ (k : Nat), k < 5 → ∀ w, Calls Try.prog 12 #[.agg #[.int .i64 1, .int .i64 k, .int .i64 0, .string (pg k)]] w fun q w' => q = .returned (.tuple #[.agg #[.int .i64 1, .int .i64 ((k : Int) + 1), .int .i64 0, .string (pg (k + 1))], .int .i64 0]) ∧ Below w.heap.size w w' from by rw [hpg]; exact DO.out)
          have SE1 := Lib.hid (show ∀ w, Calls Try.prog 15 #[.agg #[.int .i64 1, .int .i64 5, .int .i64 0, .string (pg 5)], .int .i64 b, .int .i64 d, .int .i64 a2] w fun q w' => q = .returned (.tuple #[.agg #[.int .i64 1, .int .i64 5, .int .i64 0, .string sS], .int .i64 0]) ∧ Below w.heap.size w w' from by rw [hpg]; exact SE.out)
          clear NE DO SE hsS hS hpg hp hpm hm SH SM
          have c5 : decide ((d : Int) > 5) = false := decide_eq_false (by omega)
          have c6 : decide (a2 ≥ 64) = false := decide_eq_false (by omega)
          have c7 : ¬ (64 ≤ a2) := by omega
          have c8 : ¬ (a2 < 3) := by omega
          have c9 : ¬ (5 < (d : Int)) := by omega
          go_enter Try.func5, Try.ntmps5
          go_wp2_with fail
          refine (AL.out _).mono ?_; rintro e w1 ⟨rfl, hb⟩
          have HB1 := Lib.hid (HB0.out.trans (hb.mono (Below.size HB0.out)))
          clear hb HB0 
          go_wp2_with fail
          refine (NE1.out _).mono ?_; rintro e w2 ⟨rfl, hb⟩
          have HB2 := Lib.hid (HB1.out.trans (hb.mono (Below.size HB1.out)))
          clear hb HB1 
          have HSZ := Lib.hid HB2.out.size
          have hal := (Below.refl (w2).heap.size (w2)).alloc (Nat.le_refl _) (.cells #[.int .i64 1, .int .i64 0, .int .i64 0, .string (pg 0)] 23)
          have P2 := Lib.hid (PBox.new (w2) (1) (0) (0) ((pg 0)))
          replace HB2 := Lib.hid (HB2.out.trans (hal.mono (Below.size HB2.out)))
          clear hal
          go_wp2_with fail
          obtain ⟨bP, hbP⟩ : ∃ bP, bP = (w2).heap.size := ⟨_, rfl⟩
          rw [← hbP] at P2 ⊢
          have HLP := Lib.hid hbP
          clear hbP
          generalize (w2).alloc (.cells #[.int .i64 1, .int .i64 0, .int .i64 0, .string (pg 0)] 23) = v2 at *
          have HLE := Lib.hid (show w.heap.size ≤ bP by rw [HLP.out]; exact HSZ.out)
          go_loopw [9] (fun u wr => ∃ k : Nat, k ≤ 5 ∧ u = .int .i64 k ∧ Hid (PBox wr bP 1 k 0 (pg k) ∧ Below w.heap.size w wr)) (fun u _ => 5 - (intOf u).toNat)
          case atStart => exact ⟨0, Nat.zero_le _, rfl, P2.out, HB2.out⟩
          case round =>
            obtain ⟨k, hk, rfl, hq⟩ := hrel
            clear P2 HB2
            have P0 := Lib.hid hq.out.1
            have HB0 := Lib.hid hq.out.2
            clear hq
            have k0 : (0 : Int) ≤ (k : Int) := by omega
            by_cases hlt : k < 5
            · have k1 : (k : Int) < 5 := by omega
              have DK := Lib.hid (DO1.out k hlt)
              obtain ⟨oP0, oP1, oP2, oP3⟩ := P0.out.cells
              go_wp2_with fail
              clear oP0 oP1 oP2 oP3
              refine (DK.out _).mono ?_; rintro e w1 ⟨rfl, hb⟩
              have P1 := Lib.hid (P0.out.kept hb)
              have HB1 := Lib.hid (HB0.out.trans (hb.mono (Below.size HB0.out)))
              clear hb HB0 P0
              clear DK
              obtain ⟨⟨oP0, oP1, oP2, oP3⟩, fP0, fP1, fP2, fP3⟩ := And.intro P1.out.cells P1.out.free
              go_wp2_with fail
              clear oP0 oP1 oP2 oP3 fP0 fP1 fP2 fP3
              have P9 := Lib.hid (P1.out.set4 1 ((k : Int) + 1) 0 (pg (k + 1)))
              have HB9 := Lib.hid (below_set4 (u0 := .int .i64 1) (u1 := .int .i64 ((k : Int) + 1)) (u2 := .int .i64 0) (u3 := .string (pg (k + 1))) HB1.out HLE.out)
              generalize (((w1.setCell ⟨bP, 0, none⟩ (.int .i64 1)).setCell ⟨bP, 1, none⟩ (.int .i64 ((k : Int) + 1))).setCell ⟨bP, 2, none⟩ (.int .i64 0)).setCell ⟨bP, 3, none⟩ (.string (pg (k + 1))) = V9 at *
              clear P1 HB1
              go_roundw
              case rel => exact ⟨k + 1, by omega, by go_num, by rw [show (((k + 1 : Nat)) : Int) = (k : Int) + 1 by omega]; exact P9.out, HB9.out⟩
              case measure => simp [intOf]; omega
            · obtain rfl : k = 5 := by omega
              obtain ⟨oP0, oP1, oP2, oP3⟩ := P0.out.cells
              go_wp2_with fail
              clear oP0 oP1 oP2 oP3
              refine (SE1.out _).mono ?_; rintro e w1 ⟨rfl, hb⟩
              have P1 := Lib.hid (P0.out.kept hb)
              have HB1 := Lib.hid (HB0.out.trans (hb.mono (Below.size HB0.out)))
              clear hb HB0 P0
              have hal := (Below.refl (w1).heap.size (w1)).alloc (Nat.le_refl _) (.cells #[.int .i64 1, .int .i64 5, .int .i64 0, .string sS] 23)
              replace P1 := Lib.hid (P1.out.kept hal)
              have Q1 := Lib.hid (PBox.new (w1) (1) (5) (0) (sS))
              replace HB1 := Lib.hid (HB1.out.trans (hal.mono (Below.size HB1.out)))
              clear hal
              go_wp2_with fail
              obtain ⟨bQ, hbQ⟩ : ∃ bQ, bQ = (w1).heap.size := ⟨_, rfl⟩
              rw [← hbQ] at Q1 ⊢
              have HLQ := Lib.hid hbQ
              clear hbQ
              generalize (w1).alloc (.cells #[.int .i64 1, .int .i64 5, .int .i64 0, .string sS] 23) = v1 at *
              refine (AA.out _).mono ?_; rintro e w8 ⟨g, rfl, -, hg8, hb⟩
              have TB := Lib.hid hg8
              have HB8 := Lib.hid (HB1.out.trans (hb.mono (Below.size HB1.out)))
              clear hg8 hb HB1 P1 Q1 AA SE1 DO1
              go_wp2_with fail
              go_loopw [13, 64] (fun v u wr => ∃ i : Nat, i ≤ 32 ∧ u = .int .i64 i ∧ v = .int .i64 ((cnt i : Nat) : Int) ∧ wr = w8) (fun _ u _ => 32 - (intOf u).toNat)
              case atStart => exact ⟨0, Nat.zero_le _, rfl, by have := HCL.out 0; rw [show cnt 0 = 0 by omega]; rfl, by trivial⟩
              case round =>
                obtain ⟨i, hi, rfl, rfl, hwz⟩ := hrel
                subst hwz
                have i0 : (0 : Int) ≤ (i : Int) := by omega
                have hcl := HCL.out i
                by_cases hlt : i < 32
                · have i1 : (i : Int) < 32 := by omega
                  have cx := TB.out.cell (i := i) (by have := HLS.out; omega)
                  have mi := HMI2.out i (by omega)
                  have e1 : IntKind.i64.wrap ((i : Int) + 1) = (i : Int) + 1 := IntWalk.i64_in _ (by omega)
                  have hst := HCS2.out i
                  have hgt := HGT2.out i hlt
                  rw [hgt] at cx
                  generalize HMOD i = r at *
                  obtain ⟨ci, hci⟩ : ∃ ci, ci = cnt i := ⟨_, rfl⟩
                  rw [← hci] at hst hcl ⊢
                  clear hgt hci
                  by_cases hr : r = b
                  · rw [if_pos hr] at cx hst
                    have HST := Lib.hid hst
                    subst hr
                    clear hst
                    have e2 : IntKind.i64.wrap ((ci : Int) + 1) = (ci : Int) + 1 := IntWalk.i64_in _ (by omega)
                    go_wp2_with fail
                    go_roundw
                    case rel => exact ⟨i + 1, by omega, by go_num, by rw [HST.out]; go_num, by trivial⟩
                    case measure => simp [intOf]; omega
                  · rw [if_neg hr] at cx hst
                    have HST := Lib.hid hst
                    have rb : ((r : Int) == (b : Int)) = false := by rw [beq_eq_false_iff_ne]; omega
                    have rb2 : (r : Int) ≠ (b : Int) := by omega
                    clear hst
                    go_wp2_with fail
                    go_roundw
                    case rel => exact ⟨i + 1, by omega, by go_num, by rw [HST.out]; go_num, by trivial⟩
                    case measure => simp [intOf]; omega
                · obtain rfl : i = 32 := by omega
                  have HCQ := HCA.out
                  rw [HCQ]
                  clear HCQ hcl
                  go_wp2_with fail
                  go_ret
                  exact ⟨rfl, HB8.out⟩

/-! The row's step. -/
set_option maxRecDepth 100000 in
theorem lifted (os : Os) (started : os.Started) (H : Type) (enc : TypeId × Value → H) :
    ReturnsInHanded {} Try.checked os 5 .any (Rows.dirSetsSpec.pre6 enc Try.prog Try.f5 Rows.dirSetsRow.domain false) (Rows.dirSetsSpec.post enc Try.prog Try.f5 false true false false) := by
  refine returnsInHanded_of_change (C := Try.checked) own started (by kernel_rfl) Try.func5
    (ChangeSpec.witness6 (enc := enc) (C := Try.checked) false ⟨#[], #[.int .i64 0, .int .i64 0, .int .i64 0], []⟩ 8 (by kernel_rfl) (by kernel_rfl) (by kernel_rfl) (by kernel_rfl)) ?_
  intro W base args ds gs before hval0 hW hcnd _
  have hval : ∀ (j : Nat) t v, Try.f5.params[j]? = some t → args[j]? = some v → Value.okWide Try.prog W .any base t v := hval0
  have hW' := hW
  obtain ⟨p, q, hA0, hV, rfl, hfz, hnd⟩ := hW
  have hA : DataW.TrodAll enc Try.prog W 0 (fun _ => true) true Try.f5.params.toList args.toList ds p := hA0
  rw [Try.params5] at hA hval
  obtain ⟨v0, vs0, d0, ds0, p0, q0, hargs, rfl, rfl, h0, r0⟩ := trodAll_cons hA
  obtain ⟨v1, vs1, d1, ds1, p1, q1, rfl, rfl, rfl, h1, r1⟩ := trodAll_cons r0
  obtain ⟨v2, vs2, d2, ds2, p2, q2, rfl, rfl, rfl, h2, r2⟩ := trodAll_cons r1
  obtain ⟨rfl, rfl, rfl⟩ := trodAll_nil r2
  obtain rfl : args = #[v0, v1, v2] := by cases args; simp_all
  obtain ⟨rfl, rfl⟩ := trodVars_none hV
  obtain ⟨a0, rfl, rfl, rfl, w0⟩ := open_int Try.underlying3 (hval 0 3 v0 rfl rfl) h0
  obtain ⟨a1, rfl, rfl, rfl, w1⟩ := open_int Try.underlying3 (hval 1 3 v1 rfl rfl) h1
  obtain ⟨a2, rfl, rfl, rfl, w2⟩ := open_int Try.underlying3 (hval 2 3 v2 rfl rfl) h2
  clear hA0 hval0
  refine (walk a0 a1 a2 W w0 w1 w2).mono fun e W' ⟨he, bel⟩ => ?_
  subst he
  exact ⟨_, rfl, _, _, _, [], _, [], hW', trodAll_mk1 (shut_bool Try.underlying4 _), (trodAll_cons_mk (shut_int Try.underlying3 w0) (trodAll_cons_mk (shut_int Try.underlying3 w1) (trodAll_cons_mk (shut_int Try.underlying3 w2) trodAll_mk0))), rfl, bel.frame _, fun h => by cases h⟩

theorem over : Rows.dirSetsRow.holds Try.pinned (OpenSpec.ofChange Rows.dirSetsSpec) :=
  OpenClaim.holds_of_wide 5 Try.f5 rfl rfl rfl rfl rfl rfl rfl ⟨rfl, rfl, rfl, rfl, rfl⟩ rfl rfl rfl rfl rfl (by kernel_rfl) Try.func5 (by kernel_rfl)
    (of_decide_eq_true (by kernel_rfl)) (by unfold Func.isWrapper; first | (rw [if_pos (by decide +kernel)]; kernel_rfl) | (rw [if_neg (by decide +kernel)]; exact ⟨rfl, rfl⟩))
    (fun os started H enc _ => lifted os started H enc)

/-- The statement. -/
theorem proved : Rows.DirSetsSaid := over
end Go.Proofs.Ytojfnafahlpjjaa.dirSets
