/- Doubled and halved a directory is as it was; doubled five times it may not be doubled again; one entry, set, is that one alone. -/
import Derived.Test.YtojfnafahlpjjaaRows
import Derived.Test.YtojfnafahlpjjaaNeq
import Derived.LoopTactic
import Derived.StillTailTactics
import Derived.BigQuiet
import Derived.Deep.DeepCutAuto
import Derived.Deep.RegionLaw
import Derived.Deep.CutBlock
import Derived.Lib.Hide
import Derived.WalkKit
import Derived.ProofKit
import Derived.OpenShut
import Derived.ChangeOld
import Derived.Below
import Derived.Carry
namespace Go.Proofs.Ytojfnafahlpjjaa.dirTurns
open Go.ChangeShapes Go.WideShapes Go.ChangeAt Go.RowKit
set_option linter.unusedVariables false

theorem own : ownKnob Try.prog.godebug = none := by kernel_rfl
theorem laidOut : laidOutB Try.prog = true := by kernel_rfl


set_option maxRecDepth 100000 in
set_option maxHeartbeats 100000000 in
theorem walk (a0 a1 a2 a3 : Int) (w : World) (w0 : (Lit.int .i64 a0).wf = true) (w1 : (Lit.int .i64 a1).wf = true) (w2 : (Lit.int .i64 a2).wf = true) (w3 : (Lit.int .i64 a3).wf = true) :
    Calls Try.prog 4 #[.int .i64 a0, .int .i64 a1, .int .i64 a2, .int .i64 a3] w fun e w' => e = .returned (.bool true) ∧ Below w.heap.size w w' := by
  have AL := Lib.hid alive_yes
  have HB0 := Lib.hid (Below.refl w.heap.size w)
  by_cases x0 : a0 < 2
  · as_aux_lemma =>
      have dx0 : decide (a0 < 2) = true := decide_eq_true x0
      go_enter Try.func4, Try.ntmps4
      go_wp2_with fail
      refine (AL.out _).mono ?_; rintro e w1 ⟨rfl, hb⟩
      have HB1 := Lib.hid (HB0.out.trans (hb.mono (Below.size HB0.out)))
      clear hb HB0 
      go_wp2_with fail
      go_ret
      exact ⟨rfl, HB1.out⟩
  · have dx0 : decide (a0 < 2) = false := decide_eq_false x0
    by_cases x1 : 64 ≤ a0
    · as_aux_lemma =>
        have dx1 : decide (a0 ≥ 64) = true := decide_eq_true x1
        go_enter Try.func4, Try.ntmps4
        go_wp2_with fail
        refine (AL.out _).mono ?_; rintro e w1 ⟨rfl, hb⟩
        have HB1 := Lib.hid (HB0.out.trans (hb.mono (Below.size HB0.out)))
        clear hb HB0 
        go_wp2_with fail
        go_ret
        exact ⟨rfl, HB1.out⟩
    · have dx1 : decide (a0 ≥ 64) = false := decide_eq_false x1
      by_cases x2 : a1 < 0
      · as_aux_lemma =>
          have dx2 : decide (a1 < 0) = true := decide_eq_true x2
          go_enter Try.func4, Try.ntmps4
          go_wp2_with fail
          refine (AL.out _).mono ?_; rintro e w1 ⟨rfl, hb⟩
          have HB1 := Lib.hid (HB0.out.trans (hb.mono (Below.size HB0.out)))
          clear hb HB0 
          go_wp2_with fail
          go_ret
          exact ⟨rfl, HB1.out⟩
      · have dx2 : decide (a1 < 0) = false := decide_eq_false x2
        by_cases x3 : 5 < a1
        · as_aux_lemma =>
            have dx3 : decide (a1 > 5) = true := decide_eq_true x3
            go_enter Try.func4, Try.ntmps4
            go_wp2_with fail
            refine (AL.out _).mono ?_; rintro e w1 ⟨rfl, hb⟩
            have HB1 := Lib.hid (HB0.out.trans (hb.mono (Below.size HB0.out)))
            clear hb HB0 
            go_wp2_with fail
            go_ret
            exact ⟨rfl, HB1.out⟩
        · have dx3 : decide (a1 > 5) = false := decide_eq_false x3
          by_cases x4 : a3 < 2
          · as_aux_lemma =>
              have dx4 : decide (a3 < 2) = true := decide_eq_true x4
              go_enter Try.func4, Try.ntmps4
              go_wp2_with fail
              refine (AL.out _).mono ?_; rintro e w1 ⟨rfl, hb⟩
              have HB1 := Lib.hid (HB0.out.trans (hb.mono (Below.size HB0.out)))
              clear hb HB0 
              go_wp2_with fail
              go_ret
              exact ⟨rfl, HB1.out⟩
          · have dx4 : decide (a3 < 2) = false := decide_eq_false x4
            by_cases x5 : 64 ≤ a3
            · as_aux_lemma =>
                have dx5 : decide (a3 ≥ 64) = true := decide_eq_true x5
                go_enter Try.func4, Try.ntmps4
                go_wp2_with fail
                refine (AL.out _).mono ?_; rintro e w1 ⟨rfl, hb⟩
                have HB1 := Lib.hid (HB0.out.trans (hb.mono (Below.size HB0.out)))
                clear hb HB0 
                go_wp2_with fail
                go_ret
                exact ⟨rfl, HB1.out⟩
            · have dx5 : decide (a3 ≥ 64) = false := decide_eq_false x5
              obtain ⟨d, rfl⟩ : ∃ d : Nat, a1 = (d : Int) := ⟨a1.toNat, by omega⟩
              have hd5 : d ≤ 5 := by omega
              have hf : 2 ≤ a0 ∧ a0 < 64 := ⟨by omega, by omega⟩
              have hn : 2 ≤ a3 ∧ a3 < 64 := ⟨by omega, by omega⟩
              have hp := pow_le hd5
              have r2 := int_range w2
              obtain ⟨b, hb⟩ : ∃ b : Nat, b = ((a2.tmod ((2 ^ d : Nat) : Int) + ((2 ^ d : Nat) : Int)).tmod ((2 ^ d : Nat) : Int)).toNat := ⟨_, rfl⟩
              have hNp : (0 : Int) < ((2 ^ d : Nat) : Int) := by omega
              have hm1 := Int.tmod_lt_of_pos a2 hNp
              have hm2 : -((2 ^ d : Nat) : Int) < a2.tmod ((2 ^ d : Nat) : Int) := by
                have := Int.tmod_lt_of_pos (-a2) hNp
                rw [Int.neg_tmod] at this
                omega
              have hm3 := Int.tmod_lt_of_pos (a2.tmod ((2 ^ d : Nat) : Int) + ((2 ^ d : Nat) : Int)) hNp
              have hm4 := Int.tmod_nonneg (a := a2.tmod ((2 ^ d : Nat) : Int) + ((2 ^ d : Nat) : Int)) ((2 ^ d : Nat) : Int) (by omega)
              have hbl : b < 2 ^ d := by omega
              have hbi : (a2.tmod ((2 ^ d : Nat) : Int) + ((2 ^ d : Nat) : Int)).tmod ((2 ^ d : Nat) : Int) = (b : Int) := by omega
              have hw1 : wrap64 (a2.tmod ((2 ^ d : Nat) : Int)) = a2.tmod ((2 ^ d : Nat) : Int) := IntWalk.wrap64_in _ (by omega)
              have hw2 : IntKind.i64.wrap (a2.tmod ((2 ^ d : Nat) : Int) + ((2 ^ d : Nat) : Int)) = a2.tmod ((2 ^ d : Nat) : Int) + ((2 ^ d : Nat) : Int) := IntWalk.i64_in _ (by omega)
              have hw3 : wrap64 (a2.tmod ((2 ^ d : Nat) : Int) + ((2 ^ d : Nat) : Int)) = a2.tmod ((2 ^ d : Nat) : Int) + ((2 ^ d : Nat) : Int) := IntWalk.wrap64_in _ (by omega)
              have hw4 : wrap64 ((b : Nat) : Int) = (b : Int) := IntWalk.wrap64_in _ (by omega)
              have HW5 := Lib.hid (And.intro hw1 (And.intro hw2 (And.intro hw3 (And.intro hw4 hbi))))
              clear hb hm1 hm2 hm3 hm4 hw1 hw2 hw3 hw4 hbi r2
              have NE := Lib.hid (fun w => (show Calls Try.prog 9 #[.int .i64 a0] w fun q w' => q = .returned (.tuple #[pv 1 0 0 (mkD (reps a0 0)), .bool true]) ∧ Below w.heap.size w w' from new_ok a0 hf w))
              have DO := Lib.hid (fun (k : Nat) (hk : k < 5) w => (show Calls Try.prog 12 #[pv 1 k 0 (mkD (reps a0 k))] w fun q w' => q = .returned (.tuple #[pv 1 ((k : Int) + 1) 0 (mkD (reps a0 (k + 1))), .int .i64 0]) ∧ Below w.heap.size w w' from by
                have h := double_ok 0 (reps a0 k) k (reps_good hf (by omega)) hk w
                rw [reps_double] at h
                exact h))
              have HA := Lib.hid (fun (k : Nat) (hk : k < 5) w => (show Calls Try.prog 13 #[pv 1 ((k : Int) + 1) 0 (mkD (reps a0 (k + 1)))] w fun q w' => q = .returned (.tuple #[pv 1 k 0 (mkD (reps a0 k)), .int .i64 0]) ∧ Below w.heap.size w w' from by
                have h := halve_ok 0 (reps a0 (k + 1)) k (reps_good hf (by omega)) (by rw [reps_take, reps_drop]) w
                rw [reps_take] at h
                exact h))
              have DE := Lib.hid (fun (k : Nat) (hk : k < 5) w => (show Calls Try.prog 19 #[pv 1 ((k : Int) + 1) 0 (mkD (reps a0 (k + 1)))] w fun q w' => q = .returned (.int .i64 ((k : Int) + 1)) ∧ Below w.heap.size w w' from depth_some 0 (reps a0 (k + 1)) (k + 1) (reps_good hf (by omega)) w))
              have DF := Lib.hid (fun w => (show Calls Try.prog 12 #[pv 1 5 0 (mkD (reps a0 5))] w fun q w' => q = .returned (.tuple #[pv 0 0 0 [], .int .i64 13]) ∧ Below w.heap.size w w' from double_full 0 (reps a0 5) 5 (reps_good hf (by omega)) rfl w))
              have hgd := reps_good hf hd5
              have SE := Lib.hid (fun w => set_ok 0 (reps a0 d) d hgd b d a3 (Nat.le_refl _) hbl hn w)
              have hgS := hgd.set (bits := b) (depth := d) hn
              have hlS : (setS (reps a0 d) b d a3).length = 2 ^ d := hgS.2.1
              have AI := Lib.hid (fun (i : Nat) (hi : i < 2 ^ d) w => (show Calls Try.prog 18 #[pv 1 d 0 (mkD (setS (reps a0 d) b d a3)), .int .i64 i] w fun q w' => q = .returned (.tuple #[.int .i64 (if i = b then a3 else a0), .bool true]) ∧ Below w.heap.size w w' from by
                have h := at_in 0 (setS (reps a0 d) b d a3) d hgS i (by rw [hlS]; exact hi) w
                rw [setS_getD (by rw [hgd.2.1]; exact hi), reps_getD a0 hi, Nat.mod_eq_of_lt hi] at h
                exact h))
              have AO := Lib.hid (fun w => at_out 0 (setS (reps a0 d) b d a3) d hgS ((2 ^ d : Nat) : Int) (by rw [hlS]; omega) w)
              have SH2 : wrap64 ((2 : Int) ^ d) = ((2 ^ d : Nat) : Int) := by rw [← shl_val d (by omega), Int.toNat_natCast, Nat.min_eq_left (by omega)]
              have hp1 := hp.1
              have hp2 := hp.2
              clear hgd hgS hlS hbl hp hNp
              generalize 2 ^ d = N at *
              have n0 : ((N : Int) == 0) = false := by rw [beq_eq_false_iff_ne]; omega
              have n1 : (N : Int) ≠ 0 := by omega
              unfold pv at *
              rw [show str [] = ByteArray.mk #[] from rfl] at DF
              obtain ⟨sS, hsS⟩ : ∃ s, s = str (mkD (setS (reps a0 d) b d a3)) := ⟨_, rfl⟩
              rw [← hsS] at SE AI AO
              obtain ⟨pg, hpg⟩ : ∃ pg : Nat → ByteArray, pg = fun k => str (mkD (reps a0 k)) := ⟨_, rfl⟩
              have NE1 := Lib.hid (show ∀ w, Calls Try.prog 9 #[.int .i64 a0] w fun q w' => q = .returned (.tuple #[.agg #[.int .i64 1, .int .i64 0, .int .i64 0, .string (pg 0)], .bool true]) ∧ Below w.heap.size w w' from by rw [hpg]; exact NE.out)
              have DO1 := Lib.hid (show ∀ (k : Nat), k < 5 → ∀ w, Calls Try.prog 12 #[.agg #[.int .i64 1, .int .i64 k, .int .i64 0, .string (pg k)]] w fun q w' => q = .returned (.tuple #[.agg #[.int .i64 1, .int .i64 ((k : Int) + 1), .int .i64 0, .string (pg (k + 1))], .int .i64 0]) ∧ Below w.heap.size w w' from by rw [hpg]; exact DO.out)
              have HA1 := Lib.hid (show ∀ (k : Nat), k < 5 → ∀ w, Calls Try.prog 13 #[.agg #[.int .i64 1, .int .i64 ((k : Int) + 1), .int .i64 0, .string (pg (k + 1))]] w fun q w' => q = .returned (.tuple #[.agg #[.int .i64 1, .int .i64 k, .int .i64 0, .string (pg k)], .int .i64 0]) ∧ Below w.heap.size w w' from by rw [hpg]; exact HA.out)
              have DE1 := Lib.hid (show ∀ (k : Nat), k < 5 → ∀ w, Calls Try.prog 19 #[.agg #[.int .i64 1, .int .i64 ((k : Int) + 1), .int .i64 0, .string (pg (k + 1))]] w fun q w' => q = .returned (.int .i64 ((k : Int) + 1)) ∧ Below w.heap.size w w' from by rw [hpg]; exact DE.out)
              have DF1 := Lib.hid (show ∀ w, Calls Try.prog 12 #[.agg #[.int .i64 1, .int .i64 5, .int .i64 0, .string (pg 5)]] w fun q w' => q = .returned (.tuple #[.agg #[.int .i64 0, .int .i64 0, .int .i64 0, .string ⟨#[]⟩], .int .i64 13]) ∧ Below w.heap.size w w' from by rw [hpg]; exact DF.out)
              have SE1 := Lib.hid (show ∀ w, Calls Try.prog 15 #[.agg #[.int .i64 1, .int .i64 d, .int .i64 0, .string (pg d)], .int .i64 b, .int .i64 d, .int .i64 a3] w fun q w' => q = .returned (.tuple #[.agg #[.int .i64 1, .int .i64 d, .int .i64 0, .string sS], .int .i64 0]) ∧ Below w.heap.size w w' from by rw [hpg]; exact SE.out)
              clear NE DO HA DE DF SE hsS hpg
              have c1 : ¬ (64 ≤ a0) := by omega
              have c2 : ¬ (a0 < 2) := by omega
              have c3 : ¬ (5 < (d : Int)) := by omega
              have c4 : ¬ (a3 < 2) := by omega
              have c5 : ¬ (64 ≤ a3) := by omega
              clear hf hn
              go_enter Try.func4, Try.ntmps4
              go_wp2_with fail
              refine (AL.out _).mono ?_; rintro e w1 ⟨rfl, hb⟩
              have HB1 := Lib.hid (HB0.out.trans (hb.mono (Below.size HB0.out)))
              clear hb HB0 
              go_wp2_with fail
              refine (NE1.out _).mono ?_; rintro e w2 ⟨rfl, hb⟩
              have HB2 := Lib.hid (HB1.out.trans (hb.mono (Below.size HB1.out)))
              clear hb HB1 
              have HSZ := Lib.hid HB2.out.size
              have hal := (Below.refl (w2).heap.size (w2)).alloc (Nat.le_refl _) (.cells #[.int .i64 1, .int .i64 0, .int .i64 0, .string (pg 0)] 23)
              have P2 := Lib.hid (PBox.new (w2) (1) (0) (0) ((pg 0)))
              replace HB2 := Lib.hid (HB2.out.trans (hal.mono (Below.size HB2.out)))
              clear hal
              go_wp2_with fail
              obtain ⟨bP, hbP⟩ : ∃ bP, bP = (w2).heap.size := ⟨_, rfl⟩
              rw [← hbP] at P2 ⊢
              have HLP := Lib.hid hbP
              clear hbP
              generalize (w2).alloc (.cells #[.int .i64 1, .int .i64 0, .int .i64 0, .string (pg 0)] 23) = v2 at *
              have HLE := Lib.hid (show w.heap.size ≤ bP by rw [HLP.out]; exact HSZ.out)
              go_loopw [11] (fun u wr => ∃ k : Nat, k ≤ d ∧ u = .int .i64 k ∧ Hid (PBox wr bP 1 k 0 (pg k) ∧ Below w.heap.size w wr)) (fun u _ => d - (intOf u).toNat)
              case atStart => exact ⟨0, Nat.zero_le _, rfl, P2.out, HB2.out⟩
              case round =>
                obtain ⟨k, hk, rfl, hq⟩ := hrel
                clear P2 HB2
                have P0 := Lib.hid hq.out.1
                have HB0 := Lib.hid hq.out.2
                clear hq
                have k0 : (0 : Int) ≤ (k : Int) := by omega
                by_cases hlt : k < d
                · have k1 : (k : Int) < (d : Int) := by omega
                  have DK := Lib.hid (DO1.out k (by omega))
                  have HK := Lib.hid (HA1.out k (by omega))
                  have EK := Lib.hid (DE1.out k (by omega))
                  have NQ := neq_same 1 k 0 (pg k)
                  have e1 : IntKind.i64.wrap ((k : Int) + 1) = (k : Int) + 1 := IntWalk.i64_in _ (by omega)
                  obtain ⟨oP0, oP1, oP2, oP3⟩ := P0.out.cells
                  go_wp2_with fail
                  clear oP0 oP1 oP2 oP3
                  refine (DK.out _).mono ?_; rintro e w1 ⟨rfl, hb⟩
                  have P1 := Lib.hid (P0.out.kept hb)
                  have HB1 := Lib.hid (HB0.out.trans (hb.mono (Below.size HB0.out)))
                  clear hb HB0 P0
                  have hal := (Below.refl (w1).heap.size (w1)).alloc (Nat.le_refl _) (.cells #[.int .i64 1, .int .i64 ((k : Int) + 1), .int .i64 0, .string (pg (k + 1))] 23)
                  replace P1 := Lib.hid (P1.out.kept hal)
                  have Q1 := Lib.hid (PBox.new (w1) (1) (((k : Int) + 1)) (0) ((pg (k + 1))))
                  replace HB1 := Lib.hid (HB1.out.trans (hal.mono (Below.size HB1.out)))
                  clear hal
                  obtain ⟨oP0, oP1, oP2, oP3⟩ := P1.out.cells
                  go_wp2_with fail
                  clear oP0 oP1 oP2 oP3
                  obtain ⟨bQ, hbQ⟩ : ∃ bQ, bQ = (w1).heap.size := ⟨_, rfl⟩
                  rw [← hbQ] at Q1 ⊢
                  have HLQ := Lib.hid hbQ
                  clear hbQ
                  generalize (w1).alloc (.cells #[.int .i64 1, .int .i64 ((k : Int) + 1), .int .i64 0, .string (pg (k + 1))] 23) = v1 at *
                  refine (HK.out _).mono ?_; rintro e w2 ⟨rfl, hb⟩
                  have P2 := Lib.hid (P1.out.kept hb)
                  have Q2 := Lib.hid (Q1.out.kept hb)
                  have HB2 := Lib.hid (HB1.out.trans (hb.mono (Below.size HB1.out)))
                  clear hb HB1 P1 Q1
                  have hal := (Below.refl (w2).heap.size (w2)).alloc (Nat.le_refl _) (.cells #[.int .i64 1, .int .i64 k, .int .i64 0, .string (pg k)] 23)
                  replace P2 := Lib.hid (P2.out.kept hal)
                  replace Q2 := Lib.hid (Q2.out.kept hal)
                  have R2 := Lib.hid (PBox.new (w2) (1) (k) (0) ((pg k)))
                  replace HB2 := Lib.hid (HB2.out.trans (hal.mono (Below.size HB2.out)))
                  clear hal
                  obtain ⟨oP0, oP1, oP2, oP3⟩ := P2.out.cells
                  obtain ⟨oQ0, oQ1, oQ2, oQ3⟩ := Q2.out.cells
                  go_wp2_with fail
                  clear oP0 oP1 oP2 oP3 oQ0 oQ1 oQ2 oQ3
                  obtain ⟨bR, hbR⟩ : ∃ bR, bR = (w2).heap.size := ⟨_, rfl⟩
                  rw [← hbR] at R2 ⊢
                  have HLR := Lib.hid hbR
                  clear hbR
                  generalize (w2).alloc (.cells #[.int .i64 1, .int .i64 k, .int .i64 0, .string (pg k)] 23) = v2 at *
                  obtain ⟨oP0, oP1, oP2, oP3⟩ := P2.out.cells
                  obtain ⟨oQ0, oQ1, oQ2, oQ3⟩ := Q2.out.cells
                  obtain ⟨oR0, oR1, oR2, oR3⟩ := R2.out.cells
                  go_wp2_with fail
                  clear oP0 oP1 oP2 oP3 oQ0 oQ1 oQ2 oQ3 oR0 oR1 oR2 oR3
                  refine (EK.out _).mono ?_; rintro e w3 ⟨rfl, hb⟩
                  have P3 := Lib.hid (P2.out.kept hb)
                  have Q3 := Lib.hid (Q2.out.kept hb)
                  have R3 := Lib.hid (R2.out.kept hb)
                  have HB3 := Lib.hid (HB2.out.trans (hb.mono (Below.size HB2.out)))
                  clear hb HB2 P2 Q2 R2
                  clear DK HK EK
                  obtain ⟨⟨oP0, oP1, oP2, oP3⟩, fP0, fP1, fP2, fP3⟩ := And.intro P3.out.cells P3.out.free
                  obtain ⟨oQ0, oQ1, oQ2, oQ3⟩ := Q3.out.cells
                  go_wp2_with fail
                  clear oP0 oP1 oP2 oP3 fP0 fP1 fP2 fP3
                  clear oQ0 oQ1 oQ2 oQ3
                  have P9 := Lib.hid (P3.out.set4 1 ((k : Int) + 1) 0 (pg (k + 1)))
                  have HB9 := Lib.hid (below_set4 (u0 := .int .i64 1) (u1 := .int .i64 ((k : Int) + 1)) (u2 := .int .i64 0) (u3 := .string (pg (k + 1))) HB3.out HLE.out)
                  generalize (((w3.setCell ⟨bP, 0, none⟩ (.int .i64 1)).setCell ⟨bP, 1, none⟩ (.int .i64 ((k : Int) + 1))).setCell ⟨bP, 2, none⟩ (.int .i64 0)).setCell ⟨bP, 3, none⟩ (.string (pg (k + 1))) = V9 at *
                  clear P3 HB3
                  go_roundw
                  case rel => exact ⟨k + 1, by omega, by go_num, by rw [show (((k + 1 : Nat)) : Int) = (k : Int) + 1 by omega]; exact P9.out, HB9.out⟩
                  case measure => simp [intOf]; omega
                · obtain rfl : d = k := by omega
                  have k1 : ¬ (d : Int) < (d : Int) := by omega
                  by_cases h5 : d = 5
                  · have h5b : (d : Int) = 5 := by omega
                    have hd5c : ((d : Int) == 5) = true := by rw [beq_iff_eq]; omega
                    have DF2 := Lib.hid (show ∀ w, Calls Try.prog 12 #[.agg #[.int .i64 1, .int .i64 d, .int .i64 0, .string (pg d)]] w fun q w' => q = .returned (.tuple #[.agg #[.int .i64 0, .int .i64 0, .int .i64 0, .string ⟨#[]⟩], .int .i64 13]) ∧ Below w.heap.size w w' from by rw [h5b, h5]; exact DF1.out)
                    clear h5 h5b
                    obtain ⟨oP0, oP1, oP2, oP3⟩ := P0.out.cells
                    go_wp2_with fail
                    clear oP0 oP1 oP2 oP3
                    refine (DF2.out _).mono ?_; rintro e w1 ⟨rfl, hb⟩
                    have P1 := Lib.hid (P0.out.kept hb)
                    have HB1 := Lib.hid (HB0.out.trans (hb.mono (Below.size HB0.out)))
                    clear hb HB0 P0
                    have hal := (Below.refl (w1).heap.size (w1)).alloc (Nat.le_refl _) (.cells #[.int .i64 0, .int .i64 0, .int .i64 0, .string ⟨#[]⟩] 23)
                    replace P1 := Lib.hid (P1.out.kept hal)
                    have X1 := Lib.hid (PBox.new (w1) (0) (0) (0) (⟨#[]⟩))
                    replace HB1 := Lib.hid (HB1.out.trans (hal.mono (Below.size HB1.out)))
                    clear hal
                    obtain ⟨oP0, oP1, oP2, oP3⟩ := P1.out.cells
                    go_upto_region 20 with fail
                    clear oP0 oP1 oP2 oP3
                    obtain ⟨bX, hbX⟩ : ∃ bX, bX = (w1).heap.size := ⟨_, rfl⟩
                    rw [← hbX] at X1 ⊢
                    have HLX := Lib.hid hbX
                    clear hbX
                    generalize (w1).alloc (.cells #[.int .i64 0, .int .i64 0, .int .i64 0, .string ⟨#[]⟩] 23) = v1 at *
                    clear X1
                    obtain ⟨hv1, hv2, hv3, hv4, hv5⟩ := HW5.out
                    try rw [hv1]
                    try rw [hv2]
                    try rw [hv3]
                    try rw [hv5]
                    try rw [hv4]
                    clear hv1 hv2 hv3 hv4 hv5 HW5
                    obtain ⟨oP0, oP1, oP2, oP3⟩ := P1.out.cells
                    go_wp2_with fail
                    clear oP0 oP1 oP2 oP3
                    refine (SE1.out _).mono ?_; rintro e w2 ⟨rfl, hb⟩
                    have P2 := Lib.hid (P1.out.kept hb)
                    have HB2 := Lib.hid (HB1.out.trans (hb.mono (Below.size HB1.out)))
                    clear hb HB1 P1
                    clear SE1
                    have hal := (Below.refl (w2).heap.size (w2)).alloc (Nat.le_refl _) (.cells #[.int .i64 1, .int .i64 d, .int .i64 0, .string sS] 23)
                    replace P2 := Lib.hid (P2.out.kept hal)
                    have Q2 := Lib.hid (PBox.new (w2) (1) (d) (0) (sS))
                    replace HB2 := Lib.hid (HB2.out.trans (hal.mono (Below.size HB2.out)))
                    clear hal
                    go_wp2_with fail
                    obtain ⟨bQ, hbQ⟩ : ∃ bQ, bQ = (w2).heap.size := ⟨_, rfl⟩
                    rw [← hbQ] at Q2 ⊢
                    have HLQ := Lib.hid hbQ
                    clear hbQ
                    generalize (w2).alloc (.cells #[.int .i64 1, .int .i64 d, .int .i64 0, .string sS] 23) = v2 at *
                    clear P2
                    go_loopw [22] (fun u wr => ∃ i : Nat, i ≤ N ∧ u = .int .i64 i ∧ Hid (PBox wr bQ 1 d 0 sS ∧ Below w.heap.size w wr)) (fun u _ => N - (intOf u).toNat)
                    case atStart => exact ⟨0, Nat.zero_le _, rfl, Q2.out, HB2.out⟩
                    case round =>
                      obtain ⟨i, hi, rfl, hq⟩ := hrel
                      clear Q2 HB2
                      have Q0 := Lib.hid hq.out.1
                      have HB0 := Lib.hid hq.out.2
                      clear hq
                      have i0 : (0 : Int) ≤ (i : Int) := by omega
                      by_cases hlt : i < N
                      · have i1 : (i : Int) < (N : Int) := by omega
                        have AK := Lib.hid (AI.out i hlt)
                        have e1 : IntKind.i64.wrap ((i : Int) + 1) = (i : Int) + 1 := IntWalk.i64_in _ (by omega)
                        by_cases hib : i = b
                        · subst hib
                          rw [if_pos rfl] at AK
                          obtain ⟨oQ0, oQ1, oQ2, oQ3⟩ := Q0.out.cells
                          go_wp2_with fail
                          clear oQ0 oQ1 oQ2 oQ3
                          refine (AK.out _).mono ?_; rintro e w1 ⟨rfl, hb⟩
                          have Q1 := Lib.hid (Q0.out.kept hb)
                          have HB1 := Lib.hid (HB0.out.trans (hb.mono (Below.size HB0.out)))
                          clear hb HB0 Q0
                          clear AK
                          go_wp2_with fail
                          go_roundw
                          case rel => exact ⟨i + 1, by omega, by go_num, Q1.out, HB1.out⟩
                          case measure => simp [intOf]; omega
                        · rw [if_neg hib] at AK
                          have ib : ((i : Int) == (b : Int)) = false := by rw [beq_eq_false_iff_ne]; omega
                          have ib2 : (i : Int) ≠ (b : Int) := by omega
                          obtain ⟨oQ0, oQ1, oQ2, oQ3⟩ := Q0.out.cells
                          go_wp2_with fail
                          clear oQ0 oQ1 oQ2 oQ3
                          refine (AK.out _).mono ?_; rintro e w1 ⟨rfl, hb⟩
                          have Q1 := Lib.hid (Q0.out.kept hb)
                          have HB1 := Lib.hid (HB0.out.trans (hb.mono (Below.size HB0.out)))
                          clear hb HB0 Q0
                          clear AK
                          go_wp2_with fail
                          go_roundw
                          case rel => exact ⟨i + 1, by omega, by go_num, Q1.out, HB1.out⟩
                          case measure => simp [intOf]; omega
                      · obtain rfl : N = i := by omega
                        have i1 : ¬ (N : Int) < (N : Int) := by omega
                        obtain ⟨oQ0, oQ1, oQ2, oQ3⟩ := Q0.out.cells
                        go_wp2_with fail
                        clear oQ0 oQ1 oQ2 oQ3
                        refine (AO.out _).mono ?_; rintro e w1 ⟨rfl, hb⟩
                        have Q1 := Lib.hid (Q0.out.kept hb)
                        have HB1 := Lib.hid (HB0.out.trans (hb.mono (Below.size HB0.out)))
                        clear hb HB0 Q0
                        go_wp2_with fail
                        go_ret
                        exact ⟨rfl, HB1.out⟩
                  · have h5b : ((d : Int) == 5) = false := by rw [beq_eq_false_iff_ne]; omega
                    have h5c : (d : Int) ≠ 5 := by omega
                    obtain ⟨oP0, oP1, oP2, oP3⟩ := P0.out.cells
                    go_upto_region 20 with fail
                    clear oP0 oP1 oP2 oP3
                    obtain ⟨hv1, hv2, hv3, hv4, hv5⟩ := HW5.out
                    try rw [hv1]
                    try rw [hv2]
                    try rw [hv3]
                    try rw [hv5]
                    try rw [hv4]
                    clear hv1 hv2 hv3 hv4 hv5 HW5
                    obtain ⟨oP0, oP1, oP2, oP3⟩ := P0.out.cells
                    go_wp2_with fail
                    clear oP0 oP1 oP2 oP3
                    refine (SE1.out _).mono ?_; rintro e w1 ⟨rfl, hb⟩
                    have P1 := Lib.hid (P0.out.kept hb)
                    have HB1 := Lib.hid (HB0.out.trans (hb.mono (Below.size HB0.out)))
                    clear hb HB0 P0
                    clear SE1
                    have hal := (Below.refl (w1).heap.size (w1)).alloc (Nat.le_refl _) (.cells #[.int .i64 1, .int .i64 d, .int .i64 0, .string sS] 23)
                    replace P1 := Lib.hid (P1.out.kept hal)
                    have Q1 := Lib.hid (PBox.new (w1) (1) (d) (0) (sS))
                    replace HB1 := Lib.hid (HB1.out.trans (hal.mono (Below.size HB1.out)))
                    clear hal
                    go_wp2_with fail
                    obtain ⟨bQ, hbQ⟩ : ∃ bQ, bQ = (w1).heap.size := ⟨_, rfl⟩
                    rw [← hbQ] at Q1 ⊢
                    have HLQ := Lib.hid hbQ
                    clear hbQ
                    generalize (w1).alloc (.cells #[.int .i64 1, .int .i64 d, .int .i64 0, .string sS] 23) = v1 at *
                    clear P1
                    go_loopw [22] (fun u wr => ∃ i : Nat, i ≤ N ∧ u = .int .i64 i ∧ Hid (PBox wr bQ 1 d 0 sS ∧ Below w.heap.size w wr)) (fun u _ => N - (intOf u).toNat)
                    case atStart => exact ⟨0, Nat.zero_le _, rfl, Q1.out, HB1.out⟩
                    case round =>
                      obtain ⟨i, hi, rfl, hq⟩ := hrel
                      clear Q1 HB1
                      have Q0 := Lib.hid hq.out.1
                      have HB0 := Lib.hid hq.out.2
                      clear hq
                      have i0 : (0 : Int) ≤ (i : Int) := by omega
                      by_cases hlt : i < N
                      · have i1 : (i : Int) < (N : Int) := by omega
                        have AK := Lib.hid (AI.out i hlt)
                        have e1 : IntKind.i64.wrap ((i : Int) + 1) = (i : Int) + 1 := IntWalk.i64_in _ (by omega)
                        by_cases hib : i = b
                        · subst hib
                          rw [if_pos rfl] at AK
                          obtain ⟨oQ0, oQ1, oQ2, oQ3⟩ := Q0.out.cells
                          go_wp2_with fail
                          clear oQ0 oQ1 oQ2 oQ3
                          refine (AK.out _).mono ?_; rintro e w1 ⟨rfl, hb⟩
                          have Q1 := Lib.hid (Q0.out.kept hb)
                          have HB1 := Lib.hid (HB0.out.trans (hb.mono (Below.size HB0.out)))
                          clear hb HB0 Q0
                          clear AK
                          go_wp2_with fail
                          go_roundw
                          case rel => exact ⟨i + 1, by omega, by go_num, Q1.out, HB1.out⟩
                          case measure => simp [intOf]; omega
                        · rw [if_neg hib] at AK
                          have ib : ((i : Int) == (b : Int)) = false := by rw [beq_eq_false_iff_ne]; omega
                          have ib2 : (i : Int) ≠ (b : Int) := by omega
                          obtain ⟨oQ0, oQ1, oQ2, oQ3⟩ := Q0.out.cells
                          go_wp2_with fail
                          clear oQ0 oQ1 oQ2 oQ3
                          refine (AK.out _).mono ?_; rintro e w1 ⟨rfl, hb⟩
                          have Q1 := Lib.hid (Q0.out.kept hb)
                          have HB1 := Lib.hid (HB0.out.trans (hb.mono (Below.size HB0.out)))
                          clear hb HB0 Q0
                          clear AK
                          go_wp2_with fail
                          go_roundw
                          case rel => exact ⟨i + 1, by omega, by go_num, Q1.out, HB1.out⟩
                          case measure => simp [intOf]; omega
                      · obtain rfl : N = i := by omega
                        have i1 : ¬ (N : Int) < (N : Int) := by omega
                        obtain ⟨oQ0, oQ1, oQ2, oQ3⟩ := Q0.out.cells
                        go_wp2_with fail
                        clear oQ0 oQ1 oQ2 oQ3
                        refine (AO.out _).mono ?_; rintro e w1 ⟨rfl, hb⟩
                        have Q1 := Lib.hid (Q0.out.kept hb)
                        have HB1 := Lib.hid (HB0.out.trans (hb.mono (Below.size HB0.out)))
                        clear hb HB0 Q0
                        go_wp2_with fail
                        go_ret
                        exact ⟨rfl, HB1.out⟩

/-! The row's step. -/
set_option maxRecDepth 100000 in
theorem lifted (os : Os) (started : os.Started) (H : Type) (enc : TypeId × Value → H) :
    ReturnsInHanded {} Try.checked os 4 .any (Rows.dirTurnsSpec.pre6 enc Try.prog Try.f4 Rows.dirTurnsRow.domain false) (Rows.dirTurnsSpec.post enc Try.prog Try.f4 false true false false) := by
  refine returnsInHanded_of_change (C := Try.checked) own started (by kernel_rfl) Try.func4
    (ChangeSpec.witness6 (enc := enc) (C := Try.checked) false ⟨#[], #[.int .i64 0, .int .i64 0, .int .i64 0, .int .i64 0], []⟩ 8 (by kernel_rfl) (by kernel_rfl) (by kernel_rfl) (by kernel_rfl)) ?_
  intro W base args ds gs before hval0 hW hcnd _
  have hval : ∀ (j : Nat) t v, Try.f4.params[j]? = some t → args[j]? = some v → Value.okWide Try.prog W .any base t v := hval0
  have hW' := hW
  obtain ⟨p, q, hA0, hV, rfl, hfz, hnd⟩ := hW
  have hA : DataW.TrodAll enc Try.prog W 0 (fun _ => true) true Try.f4.params.toList args.toList ds p := hA0
  rw [Try.params4] at hA hval
  obtain ⟨v0, vs0, d0, ds0, p0, q0, hargs, rfl, rfl, h0, r0⟩ := trodAll_cons hA
  obtain ⟨v1, vs1, d1, ds1, p1, q1, rfl, rfl, rfl, h1, r1⟩ := trodAll_cons r0
  obtain ⟨v2, vs2, d2, ds2, p2, q2, rfl, rfl, rfl, h2, r2⟩ := trodAll_cons r1
  obtain ⟨v3, vs3, d3, ds3, p3, q3, rfl, rfl, rfl, h3, r3⟩ := trodAll_cons r2
  obtain ⟨rfl, rfl, rfl⟩ := trodAll_nil r3
  obtain rfl : args = #[v0, v1, v2, v3] := by cases args; simp_all
  obtain ⟨rfl, rfl⟩ := trodVars_none hV
  obtain ⟨a0, rfl, rfl, rfl, w0⟩ := open_int Try.underlying3 (hval 0 3 v0 rfl rfl) h0
  obtain ⟨a1, rfl, rfl, rfl, w1⟩ := open_int Try.underlying3 (hval 1 3 v1 rfl rfl) h1
  obtain ⟨a2, rfl, rfl, rfl, w2⟩ := open_int Try.underlying3 (hval 2 3 v2 rfl rfl) h2
  obtain ⟨a3, rfl, rfl, rfl, w3⟩ := open_int Try.underlying3 (hval 3 3 v3 rfl rfl) h3
  clear hA0 hval0
  refine (walk a0 a1 a2 a3 W w0 w1 w2 w3).mono fun e W' ⟨he, bel⟩ => ?_
  subst he
  exact ⟨_, rfl, _, _, _, [], _, [], hW', trodAll_mk1 (shut_bool Try.underlying4 _), (trodAll_cons_mk (shut_int Try.underlying3 w0) (trodAll_cons_mk (shut_int Try.underlying3 w1) (trodAll_cons_mk (shut_int Try.underlying3 w2) (trodAll_cons_mk (shut_int Try.underlying3 w3) trodAll_mk0)))), rfl, bel.frame _, fun h => by cases h⟩

theorem over : Rows.dirTurnsRow.holds Try.pinned (OpenSpec.ofChange Rows.dirTurnsSpec) :=
  OpenClaim.holds_of_wide 4 Try.f4 rfl rfl rfl rfl rfl rfl rfl ⟨rfl, rfl, rfl, rfl, rfl⟩ rfl rfl rfl rfl rfl (by kernel_rfl) Try.func4 (by kernel_rfl)
    (of_decide_eq_true (by kernel_rfl)) (by unfold Func.isWrapper; first | (rw [if_pos (by decide +kernel)]; kernel_rfl) | (rw [if_neg (by decide +kernel)]; exact ⟨rfl, rfl⟩))
    (fun os started H enc _ => lifted os started H enc)

/-- The statement. -/
theorem proved : Rows.DirTurnsSaid := over
end Go.Proofs.Ytojfnafahlpjjaa.dirTurns
