/- A page that is taken, and given back, leaves the map as it was. -/
import Derived.Test.YtkbbpdpalfpchaaDoorRows
import Derived.Test.YtkbbpdpalfpchaaDoorCards
import Derived.Test.YtkbbpdpalfpchaaDoorTie
import Derived.Test.YtkbbpdpalfpchaaDoorLaws
import Derived.LoopTactic
import Derived.StillTailTactics
import Derived.BigQuiet
import Derived.Deep.DeepCutAuto
import Derived.Deep.RegionLaw
import Derived.Deep.CutBlock
import Derived.Lib.Hide
import Derived.WalkKit
import Derived.ProofKit
import Derived.OpenShut
import Derived.ChangeOld
import Derived.Below
import Derived.Carry
import Derived.LaidMore
import Derived.Lay
import Derived.SevenTiedAt
namespace Go.Proofs.YtkbbpdpalfpchaaDoor.spaceBack
open Go.ChangeShapes Go.WideShapes Go.ChangeAt Go.RowKit
set_option linter.unusedVariables false
set_option linter.unusedSimpArgs false

set_option maxRecDepth 100000 in
set_option maxHeartbeats 16000000 in
theorem walk (a0 : Int) (A1 : Option Addr) (n0 c1 : Nat) (l1 : List Opp) (w : World) (w0 : (Lit.int .i64 a0).wf = true) (w1 : OpsL w A1 n0 l1) (e1 : n0 ≤ maxLen) :
    Calls Tryd.prog 7 #[.int .i64 a0, .slice A1 n0 c1] w fun e w' => e = .returned (.bool true) ∧ Below w.heap.size w w' := by
  have AL := Lib.hid alive_yes
  by_cases c0 : a0 < 8
  · as_aux_lemma =>
      have d0 : decide (a0 < 8) = true := decide_eq_true c0
      have HB0 := Lib.hid (Below.refl w.heap.size w)
      go_enter Tryd.func7, Tryd.ntmps7
      go_wp2_with fail
      refine (AL.out _).mono ?_; rintro e w1 ⟨rfl, hb⟩
      have HB1 := Lib.hid (HB0.out.trans (hb.mono (Below.size HB0.out)))
      clear hb HB0 
      go_wp2_with fail
      go_ret
      exact ⟨rfl, HB1.out⟩
  · have d0 : decide (a0 < 8) = false := decide_eq_false c0
    by_cases c1 : 64 < a0
    · as_aux_lemma =>
        have d1 : decide (64 < a0) = true := decide_eq_true c1
        have d1b : decide (a0 > 64) = true := decide_eq_true c1
        have HB0 := Lib.hid (Below.refl w.heap.size w)
        go_enter Tryd.func7, Tryd.ntmps7
        go_wp2_with fail
        refine (AL.out _).mono ?_; rintro e w1 ⟨rfl, hb⟩
        have HB1 := Lib.hid (HB0.out.trans (hb.mono (Below.size HB0.out)))
        clear hb HB0 
        go_wp2_with fail
        go_ret
        exact ⟨rfl, HB1.out⟩
    · have d1 : decide (64 < a0) = false := decide_eq_false c1
      have d1b : decide (a0 > 64) = false := decide_eq_false c1
      by_cases c2 : 40 < (n0 : Int)
      · as_aux_lemma =>
          have d2 : decide (40 < (n0 : Int)) = true := decide_eq_true c2
          have HB0 := Lib.hid (Below.refl w.heap.size w)
          go_enter Tryd.func7, Tryd.ntmps7
          go_wp2_with fail
          refine (AL.out _).mono ?_; rintro e w1 ⟨rfl, hb⟩
          have HB1 := Lib.hid (HB0.out.trans (hb.mono (Below.size HB0.out)))
          clear hb HB0 
          go_wp2_with fail
          go_ret
          exact ⟨rfl, HB1.out⟩
      · have d2 : decide (40 < (n0 : Int)) = false := decide_eq_false c2
        obtain ⟨N, rfl⟩ : ∃ N : Nat, a0 = (N : Int) := ⟨a0.toNat, by omega⟩
        have h8 : 8 ≤ N := by omega
        have h64 : N ≤ 64 := by omega
        have k8 : ¬ (N : Int) < 8 := by omega
        have k64 : ¬ 64 < (N : Int) := by omega
        have NE := Lib.hid (new_yes N h8 h64)
        rw [newS_fill] at NE
        have hn0 : n0 ≤ 40 := by omega
        have HP := Lib.hid (fun (i : Nat) (hi : i < n0) (w' : World) (hb : Below w.heap.size w w') => w1.at hi hb)
        unfold pv at NE
        clear w1
        have HB0 := Lib.hid (Below.refl w.heap.size w)
        go_enter Tryd.func7, Tryd.ntmps7
        go_wp2_with fail
        refine (AL.out _).mono ?_; rintro e w1 ⟨rfl, hb⟩
        have HB1 := Lib.hid (HB0.out.trans (hb.mono (Below.size HB0.out)))
        clear hb HB0 
        go_wp2_with fail
        clear AL
        refine (NE.out _).mono ?_; rintro e w2 ⟨rfl, hb⟩
        have HB2 := Lib.hid (HB1.out.trans (hb.mono (Below.size HB1.out)))
        clear hb HB1 
        clear NE
        have HSZ := Lib.hid HB2.out.size
        have hal := (Below.refl (w2).heap.size (w2)).alloc (Nat.le_refl _) (.cells #[.int .i64 2, .int .i64 0, .int .i64 0, .string (str (mk (fillS N 2)))] 23)
        have P2 := Lib.hid (PBox.new (w2) (2) (0) (0) ((str (mk (fillS N 2)))))
        replace HB2 := Lib.hid (HB2.out.trans (hal.mono (Below.size HB2.out)))
        clear hal
        go_wp2_with fail
        obtain ⟨bP, hbP⟩ : ∃ bP, bP = (w2).heap.size := ⟨_, rfl⟩
        rw [← hbP] at P2 ⊢
        have HLP := Lib.hid hbP
        clear hbP
        generalize (w2).alloc (.cells #[.int .i64 2, .int .i64 0, .int .i64 0, .string (str (mk (fillS N 2)))] 23) = v2 at *
        have HLE := Lib.hid (show w.heap.size ≤ bP by rw [HLP.out]; exact HSZ.out)
        have HST := Lib.hid (show ∃ m, Good m ∧ m.length = N ∧ PBox v2 bP 2 0 0 (str (mk m)) ∧ Below w.heap.size w v2 from ⟨fillS N 2, fillS_good h8 h64 (by omega) (by omega), fillS_length (by omega), P2.out, HB2.out⟩)
        clear P2 HB2 HLP HSZ
        go_loopw [41] (fun x wr => ∃ k : Nat, k ≤ n0 ∧ x = .int .i64 k ∧ Hid (∃ m, Good m ∧ m.length = N ∧ PBox wr bP 2 0 0 (str (mk m)) ∧ Below w.heap.size w wr)) (fun x _ => n0 - (intOf x).toNat)
        case atStart => exact ⟨0, Nat.zero_le _, rfl, HST.out⟩
        case round =>
          obtain ⟨k, hk, rfl, hq⟩ := hrel
          obtain ⟨m, hm1, hm2, hm3, hm4⟩ := hq.out
          have HM := Lib.hid hm1
          have HN := Lib.hid hm2
          have P0 := Lib.hid hm3
          have HB0 := Lib.hid hm4
          clear hq hm1 hm2 hm3 hm4 HST
          have q0 : (0 : Int) ≤ (k : Int) := by omega
          by_cases hlt : k < n0
          · as_aux_lemma =>
              have q1 : (k : Int) < (n0 : Int) := by omega
              have e1 : IntKind.i64.wrap ((k : Int) + 1) = (k : Int) + 1 := IntWalk.i64_in _ (by omega)
              obtain ⟨b, off, rfl, hbk, c0, c1, hr⟩ := HP.out k hlt wr HB0.out
              generalize l1.getD k nilO = o at *
              obtain ⟨ok, on⟩ := o
              have HON := Lib.hid (show on ≤ 9223372036854775807 from hr.2)
              dsimp only at c0 c1
              clear hbk hr
              have e9 : ∀ z : Int, (z == z) = true := fun z => by simp
              by_cases hf : fst m < m.length
              · as_aux_lemma =>
                  obtain ⟨tb1, tb2, tb3, tb4, tb5⟩ := take_back HM.out hf
                  have hf2 := HM.out.fst2
                  have TK := Lib.hid (take_some 0 0 m HM.out hf)
                  have GV := Lib.hid (give_used 0 0 (fst m) (m.set (fst m) 1) tb4 hf2 tb2)
                  rw [tb1] at GV
                  have UP := Lib.hid (used_any 2 0 0 (fst m : Int) (mk m) (by rw [HM.out.len]; omega) (by have := HM.out.1; omega))
                  rw [marksS_mk HM.out, tb3] at UP
                  have UQ := Lib.hid (used_any 2 0 0 (fst m : Int) (mk (m.set (fst m) 1)) (by rw [tb4.len]; omega) (by have := HM.out.1; omega))
                  rw [marksS_mk tb4, tb2] at UQ
                  have HM1 := Lib.hid tb4
                  have HN1 := Lib.hid (tb5.trans HN.out)
                  have EQ := Lib.hid (neq_same 2 0 0 (str (mk m)))
                  unfold pv at TK GV UP UQ
                  obtain ⟨m1, hm1⟩ : ∃ m1, m1 = m.set (fst m) 1 := ⟨_, rfl⟩
                  rw [← hm1] at TK GV UQ HM1 HN1
                  generalize fst m = f at *
                  generalize str (mk m) = s at *
                  clear tb1 tb2 tb3 tb4 tb5 hf2 hm1 hf HM HN
                  have f0 : (0 : Int) ≤ (f : Int) := by omega
                  have ez := EQ.out
                  by_cases hk2 : ok = 2
                  · by_cases hgv : 2 ≤ on ∧ usedS m1 on = true
                    · as_aux_lemma =>
                        have HPL := Lib.hid P0.out.lt
                        subst hk2
                        have k2b : ((2 : Int) == 2) = true := rfl
                        have GW := Lib.hid (give_ok HM1.out HON.out hgv)
                        have hgd := HM1.out.set (n := on.toNat) (x := 2) (by have := hgv.1; omega) (.inr rfl)
                        have HM2 := Lib.hid hgd
                        have HN2 := Lib.hid (show (m1.set on.toNat 2).length = N by rw [List.length_set]; exact HN1.out)
                        unfold pv at GW
                        clear hgd
                        obtain ⟨s1, hs1⟩ : ∃ s, s = str (mk m1) := ⟨_, rfl⟩
                        rw [← hs1] at TK GV UQ GW
                        obtain ⟨s2, hs2⟩ : ∃ s, s = str (mk (m1.set on.toNat 2)) := ⟨_, rfl⟩
                        rw [← hs2] at GW
                        have HS2 := Lib.hid hs2
                        clear hs2
                        have HS1 := Lib.hid hs1
                        clear hs1 hgv
                        have hal := (Below.refl (wr).heap.size (wr)).alloc (Nat.le_refl _) (.cells #[.int .i64 2, .int .i64 on] 30)
                        replace P0 := Lib.hid (P0.out.kept hal)
                        have O0 := Lib.hid (OBox.new (wr) (2) (on))
                        replace HB0 := Lib.hid (HB0.out.trans (hal.mono (Below.size HB0.out)))
                        clear hal
                        obtain ⟨oP0, oP1, oP2, oP3⟩ := P0.out.cells
                        go_wp2_with fail
                        clear oP0 oP1 oP2 oP3
                        clear c0 c1
                        obtain ⟨bO, hbO⟩ : ∃ bO, bO = (wr).heap.size := ⟨_, rfl⟩
                        rw [← hbO] at O0 ⊢
                        have HLO := Lib.hid hbO
                        clear hbO
                        generalize (wr).alloc (.cells #[.int .i64 2, .int .i64 on] 30) = vo at *
                        have HNO := Lib.hid (show bO ≠ bP by rw [HLO.out]; exact Nat.ne_of_gt HPL.out)
                        refine (TK.out _).mono ?_; rintro e w1 ⟨rfl, hb⟩
                        have P1 := Lib.hid (P0.out.kept hb)
                        have O1 := Lib.hid (O0.out.kept hb)
                        have HB1 := Lib.hid (HB0.out.trans (hb.mono (Below.size HB0.out)))
                        clear hb HB0 P0 O0
                        have hal := (Below.refl (w1).heap.size (w1)).alloc (Nat.le_refl _) (.cells #[.int .i64 2, .int .i64 0, .int .i64 0, .string s1] 23)
                        replace P1 := Lib.hid (P1.out.kept hal)
                        replace O1 := Lib.hid (O1.out.kept hal)
                        have Q1 := Lib.hid (PBox.new (w1) (2) (0) (0) (s1))
                        replace HB1 := Lib.hid (HB1.out.trans (hal.mono (Below.size HB1.out)))
                        clear hal
                        obtain ⟨oP0, oP1, oP2, oP3⟩ := P1.out.cells
                        go_wp2_with fail
                        clear oP0 oP1 oP2 oP3
                        obtain ⟨bQ, hbQ⟩ : ∃ bQ, bQ = (w1).heap.size := ⟨_, rfl⟩
                        rw [← hbQ] at Q1 ⊢
                        have HLQ := Lib.hid hbQ
                        clear hbQ
                        generalize (w1).alloc (.cells #[.int .i64 2, .int .i64 0, .int .i64 0, .string s1] 23) = v1 at *
                        refine (GV.out _).mono ?_; rintro e w2 ⟨rfl, hb⟩
                        have P2 := Lib.hid (P1.out.kept hb)
                        have O2 := Lib.hid (O1.out.kept hb)
                        have Q2 := Lib.hid (Q1.out.kept hb)
                        have HB2 := Lib.hid (HB1.out.trans (hb.mono (Below.size HB1.out)))
                        clear hb HB1 P1 O1 Q1
                        have hal := (Below.refl (w2).heap.size (w2)).alloc (Nat.le_refl _) (.cells #[.int .i64 2, .int .i64 0, .int .i64 0, .string s] 23)
                        replace P2 := Lib.hid (P2.out.kept hal)
                        replace O2 := Lib.hid (O2.out.kept hal)
                        replace Q2 := Lib.hid (Q2.out.kept hal)
                        have R2 := Lib.hid (PBox.new (w2) (2) (0) (0) (s))
                        replace HB2 := Lib.hid (HB2.out.trans (hal.mono (Below.size HB2.out)))
                        clear hal
                        obtain ⟨oP0, oP1, oP2, oP3⟩ := P2.out.cells
                        obtain ⟨oQ0, oQ1, oQ2, oQ3⟩ := Q2.out.cells
                        go_wp2_with fail
                        clear oP0 oP1 oP2 oP3 oQ0 oQ1 oQ2 oQ3
                        obtain ⟨bR, hbR⟩ : ∃ bR, bR = (w2).heap.size := ⟨_, rfl⟩
                        rw [← hbR] at R2 ⊢
                        have HLR := Lib.hid hbR
                        clear hbR
                        generalize (w2).alloc (.cells #[.int .i64 2, .int .i64 0, .int .i64 0, .string s] 23) = v2 at *
                        refine (UP.out _).mono ?_; rintro e w3 ⟨rfl, hb⟩
                        have P3 := Lib.hid (P2.out.kept hb)
                        have O3 := Lib.hid (O2.out.kept hb)
                        have Q3 := Lib.hid (Q2.out.kept hb)
                        have R3 := Lib.hid (R2.out.kept hb)
                        have HB3 := Lib.hid (HB2.out.trans (hb.mono (Below.size HB2.out)))
                        clear hb HB2 P2 O2 Q2 R2
                        obtain ⟨oQ0, oQ1, oQ2, oQ3⟩ := Q3.out.cells
                        go_wp2_with fail
                        clear oQ0 oQ1 oQ2 oQ3
                        refine (UQ.out _).mono ?_; rintro e w4 ⟨rfl, hb⟩
                        have P4 := Lib.hid (P3.out.kept hb)
                        have O4 := Lib.hid (O3.out.kept hb)
                        have Q4 := Lib.hid (Q3.out.kept hb)
                        have R4 := Lib.hid (R3.out.kept hb)
                        have HB4 := Lib.hid (HB3.out.trans (hb.mono (Below.size HB3.out)))
                        clear hb HB3 P3 O3 Q3 R3
                        obtain ⟨⟨oP0, oP1, oP2, oP3⟩, fP0, fP1, fP2, fP3⟩ := And.intro P4.out.cells P4.out.free
                        obtain ⟨oQ0, oQ1, oQ2, oQ3⟩ := Q4.out.cells
                        obtain ⟨oO0, oO1⟩ := O4.out.cells
                        go_upto_region 15 with fail
                        clear oP0 oP1 oP2 oP3 fP0 fP1 fP2 fP3
                        clear oQ0 oQ1 oQ2 oQ3 oO0 oO1
                        have P9 := Lib.hid (P4.out.set4 2 0 0 s1)
                        have O9 := Lib.hid (show OBox ((((w4.setCell ⟨bP, 0, none⟩ (.int .i64 2)).setCell ⟨bP, 1, none⟩ (.int .i64 0)).setCell ⟨bP, 2, none⟩ (.int .i64 0)).setCell ⟨bP, 3, none⟩ (.string s1)) bO 2 on from (heap_set4 _ _ _ _ _ _ _ HNO.out).trans O4.out)
                        have HB9 := Lib.hid (below_set4 (u0 := .int .i64 2) (u1 := .int .i64 0) (u2 := .int .i64 0) (u3 := .string s1) HB4.out HLE.out)
                        generalize (((w4.setCell ⟨bP, 0, none⟩ (.int .i64 2)).setCell ⟨bP, 1, none⟩ (.int .i64 0)).setCell ⟨bP, 2, none⟩ (.int .i64 0)).setCell ⟨bP, 3, none⟩ (.string s1) = V9 at *
                        clear P4 O4 HB4 Q4 R4
                        obtain ⟨oP0, oP1, oP2, oP3⟩ := P9.out.cells
                        obtain ⟨oO0, oO1⟩ := O9.out.cells
                        go_wp2_with fail
                        clear oP0 oP1 oP2 oP3 oO0 oO1
                        refine (GW.out _).mono ?_; rintro e w10 ⟨rfl, hb⟩
                        have P10 := Lib.hid (P9.out.kept hb)
                        have O10 := Lib.hid (O9.out.kept hb)
                        have HB10 := Lib.hid (HB9.out.trans (hb.mono (Below.size HB9.out)))
                        clear hb HB9 P9 O9
                        have hal := (Below.refl (w10).heap.size (w10)).alloc (Nat.le_refl _) (.cells #[.int .i64 2, .int .i64 0, .int .i64 0, .string s2] 23)
                        replace P10 := Lib.hid (P10.out.kept hal)
                        replace O10 := Lib.hid (O10.out.kept hal)
                        have S10 := Lib.hid (PBox.new (w10) (2) (0) (0) (s2))
                        replace HB10 := Lib.hid (HB10.out.trans (hal.mono (Below.size HB10.out)))
                        clear hal
                        obtain ⟨⟨oP0, oP1, oP2, oP3⟩, fP0, fP1, fP2, fP3⟩ := And.intro P10.out.cells P10.out.free
                        go_wp2_with fail
                        go_roundw
                        case rel => exact ⟨k + 1, by omega, by go_num, m1.set on.toNat 2, HM2.out, HN2.out, by rw [← HS2.out]; exact P10.out.set4 _ _ _ _, below_set4 HB10.out HLE.out⟩
                        case measure => simp [intOf]; omega
                    · as_aux_lemma =>
                        have HPL := Lib.hid P0.out.lt
                        subst hk2
                        have k2b : ((2 : Int) == 2) = true := rfl
                        have GW := Lib.hid (give_err HM1.out HON.out hgv)
                        unfold pv at GW
                        obtain ⟨s1, hs1⟩ : ∃ s, s = str (mk m1) := ⟨_, rfl⟩
                        rw [← hs1] at TK GV UQ GW
                        have HS1 := Lib.hid hs1
                        clear hs1 hgv
                        have hal := (Below.refl (wr).heap.size (wr)).alloc (Nat.le_refl _) (.cells #[.int .i64 2, .int .i64 on] 30)
                        replace P0 := Lib.hid (P0.out.kept hal)
                        have O0 := Lib.hid (OBox.new (wr) (2) (on))
                        replace HB0 := Lib.hid (HB0.out.trans (hal.mono (Below.size HB0.out)))
                        clear hal
                        obtain ⟨oP0, oP1, oP2, oP3⟩ := P0.out.cells
                        go_wp2_with fail
                        clear oP0 oP1 oP2 oP3
                        clear c0 c1
                        obtain ⟨bO, hbO⟩ : ∃ bO, bO = (wr).heap.size := ⟨_, rfl⟩
                        rw [← hbO] at O0 ⊢
                        have HLO := Lib.hid hbO
                        clear hbO
                        generalize (wr).alloc (.cells #[.int .i64 2, .int .i64 on] 30) = vo at *
                        have HNO := Lib.hid (show bO ≠ bP by rw [HLO.out]; exact Nat.ne_of_gt HPL.out)
                        refine (TK.out _).mono ?_; rintro e w1 ⟨rfl, hb⟩
                        have P1 := Lib.hid (P0.out.kept hb)
                        have O1 := Lib.hid (O0.out.kept hb)
                        have HB1 := Lib.hid (HB0.out.trans (hb.mono (Below.size HB0.out)))
                        clear hb HB0 P0 O0
                        have hal := (Below.refl (w1).heap.size (w1)).alloc (Nat.le_refl _) (.cells #[.int .i64 2, .int .i64 0, .int .i64 0, .string s1] 23)
                        replace P1 := Lib.hid (P1.out.kept hal)
                        replace O1 := Lib.hid (O1.out.kept hal)
                        have Q1 := Lib.hid (PBox.new (w1) (2) (0) (0) (s1))
                        replace HB1 := Lib.hid (HB1.out.trans (hal.mono (Below.size HB1.out)))
                        clear hal
                        obtain ⟨oP0, oP1, oP2, oP3⟩ := P1.out.cells
                        go_wp2_with fail
                        clear oP0 oP1 oP2 oP3
                        obtain ⟨bQ, hbQ⟩ : ∃ bQ, bQ = (w1).heap.size := ⟨_, rfl⟩
                        rw [← hbQ] at Q1 ⊢
                        have HLQ := Lib.hid hbQ
                        clear hbQ
                        generalize (w1).alloc (.cells #[.int .i64 2, .int .i64 0, .int .i64 0, .string s1] 23) = v1 at *
                        refine (GV.out _).mono ?_; rintro e w2 ⟨rfl, hb⟩
                        have P2 := Lib.hid (P1.out.kept hb)
                        have O2 := Lib.hid (O1.out.kept hb)
                        have Q2 := Lib.hid (Q1.out.kept hb)
                        have HB2 := Lib.hid (HB1.out.trans (hb.mono (Below.size HB1.out)))
                        clear hb HB1 P1 O1 Q1
                        have hal := (Below.refl (w2).heap.size (w2)).alloc (Nat.le_refl _) (.cells #[.int .i64 2, .int .i64 0, .int .i64 0, .string s] 23)
                        replace P2 := Lib.hid (P2.out.kept hal)
                        replace O2 := Lib.hid (O2.out.kept hal)
                        replace Q2 := Lib.hid (Q2.out.kept hal)
                        have R2 := Lib.hid (PBox.new (w2) (2) (0) (0) (s))
                        replace HB2 := Lib.hid (HB2.out.trans (hal.mono (Below.size HB2.out)))
                        clear hal
                        obtain ⟨oP0, oP1, oP2, oP3⟩ := P2.out.cells
                        obtain ⟨oQ0, oQ1, oQ2, oQ3⟩ := Q2.out.cells
                        go_wp2_with fail
                        clear oP0 oP1 oP2 oP3 oQ0 oQ1 oQ2 oQ3
                        obtain ⟨bR, hbR⟩ : ∃ bR, bR = (w2).heap.size := ⟨_, rfl⟩
                        rw [← hbR] at R2 ⊢
                        have HLR := Lib.hid hbR
                        clear hbR
                        generalize (w2).alloc (.cells #[.int .i64 2, .int .i64 0, .int .i64 0, .string s] 23) = v2 at *
                        refine (UP.out _).mono ?_; rintro e w3 ⟨rfl, hb⟩
                        have P3 := Lib.hid (P2.out.kept hb)
                        have O3 := Lib.hid (O2.out.kept hb)
                        have Q3 := Lib.hid (Q2.out.kept hb)
                        have R3 := Lib.hid (R2.out.kept hb)
                        have HB3 := Lib.hid (HB2.out.trans (hb.mono (Below.size HB2.out)))
                        clear hb HB2 P2 O2 Q2 R2
                        obtain ⟨oQ0, oQ1, oQ2, oQ3⟩ := Q3.out.cells
                        go_wp2_with fail
                        clear oQ0 oQ1 oQ2 oQ3
                        refine (UQ.out _).mono ?_; rintro e w4 ⟨rfl, hb⟩
                        have P4 := Lib.hid (P3.out.kept hb)
                        have O4 := Lib.hid (O3.out.kept hb)
                        have Q4 := Lib.hid (Q3.out.kept hb)
                        have R4 := Lib.hid (R3.out.kept hb)
                        have HB4 := Lib.hid (HB3.out.trans (hb.mono (Below.size HB3.out)))
                        clear hb HB3 P3 O3 Q3 R3
                        obtain ⟨⟨oP0, oP1, oP2, oP3⟩, fP0, fP1, fP2, fP3⟩ := And.intro P4.out.cells P4.out.free
                        obtain ⟨oQ0, oQ1, oQ2, oQ3⟩ := Q4.out.cells
                        obtain ⟨oO0, oO1⟩ := O4.out.cells
                        go_upto_region 15 with fail
                        clear oP0 oP1 oP2 oP3 fP0 fP1 fP2 fP3
                        clear oQ0 oQ1 oQ2 oQ3 oO0 oO1
                        have P9 := Lib.hid (P4.out.set4 2 0 0 s1)
                        have O9 := Lib.hid (show OBox ((((w4.setCell ⟨bP, 0, none⟩ (.int .i64 2)).setCell ⟨bP, 1, none⟩ (.int .i64 0)).setCell ⟨bP, 2, none⟩ (.int .i64 0)).setCell ⟨bP, 3, none⟩ (.string s1)) bO 2 on from (heap_set4 _ _ _ _ _ _ _ HNO.out).trans O4.out)
                        have HB9 := Lib.hid (below_set4 (u0 := .int .i64 2) (u1 := .int .i64 0) (u2 := .int .i64 0) (u3 := .string s1) HB4.out HLE.out)
                        generalize (((w4.setCell ⟨bP, 0, none⟩ (.int .i64 2)).setCell ⟨bP, 1, none⟩ (.int .i64 0)).setCell ⟨bP, 2, none⟩ (.int .i64 0)).setCell ⟨bP, 3, none⟩ (.string s1) = V9 at *
                        clear P4 O4 HB4 Q4 R4
                        obtain ⟨oP0, oP1, oP2, oP3⟩ := P9.out.cells
                        obtain ⟨oO0, oO1⟩ := O9.out.cells
                        go_wp2_with fail
                        clear oP0 oP1 oP2 oP3 oO0 oO1
                        refine (GW.out _).mono ?_; rintro e w10 ⟨rfl, hb⟩
                        have P10 := Lib.hid (P9.out.kept hb)
                        have O10 := Lib.hid (O9.out.kept hb)
                        have HB10 := Lib.hid (HB9.out.trans (hb.mono (Below.size HB9.out)))
                        clear hb HB9 P9 O9
                        have hal := (Below.refl (w10).heap.size (w10)).alloc (Nat.le_refl _) (.cells #[.int .i64 0, .int .i64 0, .int .i64 0, .string ⟨#[]⟩] 23)
                        replace P10 := Lib.hid (P10.out.kept hal)
                        replace O10 := Lib.hid (O10.out.kept hal)
                        have S10 := Lib.hid (PBox.new (w10) (0) (0) (0) (⟨#[]⟩))
                        replace HB10 := Lib.hid (HB10.out.trans (hal.mono (Below.size HB10.out)))
                        clear hal
                        obtain ⟨oP0, oP1, oP2, oP3⟩ := P10.out.cells
                        go_wp2_with fail
                        go_roundw
                        case rel => exact ⟨k + 1, by omega, by go_num, m1, HM1.out, HN1.out, by rw [← HS1.out]; exact P10.out, HB10.out⟩
                        case measure => simp [intOf]; omega
                  · as_aux_lemma =>
                      have HPL := Lib.hid P0.out.lt
                      have k2b : (ok == 2) = false := by simpa using hk2
                      obtain ⟨s1, hs1⟩ : ∃ s, s = str (mk m1) := ⟨_, rfl⟩
                      rw [← hs1] at TK GV UQ
                      have HS1 := Lib.hid hs1
                      clear hs1
                      have hal := (Below.refl (wr).heap.size (wr)).alloc (Nat.le_refl _) (.cells #[.int .i64 ok, .int .i64 on] 30)
                      replace P0 := Lib.hid (P0.out.kept hal)
                      have O0 := Lib.hid (OBox.new (wr) (ok) (on))
                      replace HB0 := Lib.hid (HB0.out.trans (hal.mono (Below.size HB0.out)))
                      clear hal
                      obtain ⟨oP0, oP1, oP2, oP3⟩ := P0.out.cells
                      go_wp2_with fail
                      clear oP0 oP1 oP2 oP3
                      clear c0 c1
                      obtain ⟨bO, hbO⟩ : ∃ bO, bO = (wr).heap.size := ⟨_, rfl⟩
                      rw [← hbO] at O0 ⊢
                      have HLO := Lib.hid hbO
                      clear hbO
                      generalize (wr).alloc (.cells #[.int .i64 ok, .int .i64 on] 30) = vo at *
                      have HNO := Lib.hid (show bO ≠ bP by rw [HLO.out]; exact Nat.ne_of_gt HPL.out)
                      refine (TK.out _).mono ?_; rintro e w1 ⟨rfl, hb⟩
                      have P1 := Lib.hid (P0.out.kept hb)
                      have O1 := Lib.hid (O0.out.kept hb)
                      have HB1 := Lib.hid (HB0.out.trans (hb.mono (Below.size HB0.out)))
                      clear hb HB0 P0 O0
                      have hal := (Below.refl (w1).heap.size (w1)).alloc (Nat.le_refl _) (.cells #[.int .i64 2, .int .i64 0, .int .i64 0, .string s1] 23)
                      replace P1 := Lib.hid (P1.out.kept hal)
                      replace O1 := Lib.hid (O1.out.kept hal)
                      have Q1 := Lib.hid (PBox.new (w1) (2) (0) (0) (s1))
                      replace HB1 := Lib.hid (HB1.out.trans (hal.mono (Below.size HB1.out)))
                      clear hal
                      obtain ⟨oP0, oP1, oP2, oP3⟩ := P1.out.cells
                      go_wp2_with fail
                      clear oP0 oP1 oP2 oP3
                      obtain ⟨bQ, hbQ⟩ : ∃ bQ, bQ = (w1).heap.size := ⟨_, rfl⟩
                      rw [← hbQ] at Q1 ⊢
                      have HLQ := Lib.hid hbQ
                      clear hbQ
                      generalize (w1).alloc (.cells #[.int .i64 2, .int .i64 0, .int .i64 0, .string s1] 23) = v1 at *
                      refine (GV.out _).mono ?_; rintro e w2 ⟨rfl, hb⟩
                      have P2 := Lib.hid (P1.out.kept hb)
                      have O2 := Lib.hid (O1.out.kept hb)
                      have Q2 := Lib.hid (Q1.out.kept hb)
                      have HB2 := Lib.hid (HB1.out.trans (hb.mono (Below.size HB1.out)))
                      clear hb HB1 P1 O1 Q1
                      have hal := (Below.refl (w2).heap.size (w2)).alloc (Nat.le_refl _) (.cells #[.int .i64 2, .int .i64 0, .int .i64 0, .string s] 23)
                      replace P2 := Lib.hid (P2.out.kept hal)
                      replace O2 := Lib.hid (O2.out.kept hal)
                      replace Q2 := Lib.hid (Q2.out.kept hal)
                      have R2 := Lib.hid (PBox.new (w2) (2) (0) (0) (s))
                      replace HB2 := Lib.hid (HB2.out.trans (hal.mono (Below.size HB2.out)))
                      clear hal
                      obtain ⟨oP0, oP1, oP2, oP3⟩ := P2.out.cells
                      obtain ⟨oQ0, oQ1, oQ2, oQ3⟩ := Q2.out.cells
                      go_wp2_with fail
                      clear oP0 oP1 oP2 oP3 oQ0 oQ1 oQ2 oQ3
                      obtain ⟨bR, hbR⟩ : ∃ bR, bR = (w2).heap.size := ⟨_, rfl⟩
                      rw [← hbR] at R2 ⊢
                      have HLR := Lib.hid hbR
                      clear hbR
                      generalize (w2).alloc (.cells #[.int .i64 2, .int .i64 0, .int .i64 0, .string s] 23) = v2 at *
                      refine (UP.out _).mono ?_; rintro e w3 ⟨rfl, hb⟩
                      have P3 := Lib.hid (P2.out.kept hb)
                      have O3 := Lib.hid (O2.out.kept hb)
                      have Q3 := Lib.hid (Q2.out.kept hb)
                      have R3 := Lib.hid (R2.out.kept hb)
                      have HB3 := Lib.hid (HB2.out.trans (hb.mono (Below.size HB2.out)))
                      clear hb HB2 P2 O2 Q2 R2
                      obtain ⟨oQ0, oQ1, oQ2, oQ3⟩ := Q3.out.cells
                      go_wp2_with fail
                      clear oQ0 oQ1 oQ2 oQ3
                      refine (UQ.out _).mono ?_; rintro e w4 ⟨rfl, hb⟩
                      have P4 := Lib.hid (P3.out.kept hb)
                      have O4 := Lib.hid (O3.out.kept hb)
                      have Q4 := Lib.hid (Q3.out.kept hb)
                      have R4 := Lib.hid (R3.out.kept hb)
                      have HB4 := Lib.hid (HB3.out.trans (hb.mono (Below.size HB3.out)))
                      clear hb HB3 P3 O3 Q3 R3
                      obtain ⟨⟨oP0, oP1, oP2, oP3⟩, fP0, fP1, fP2, fP3⟩ := And.intro P4.out.cells P4.out.free
                      obtain ⟨oQ0, oQ1, oQ2, oQ3⟩ := Q4.out.cells
                      obtain ⟨oO0, oO1⟩ := O4.out.cells
                      go_upto_region 15 with fail
                      clear oP0 oP1 oP2 oP3 fP0 fP1 fP2 fP3
                      clear oQ0 oQ1 oQ2 oQ3 oO0 oO1
                      have P9 := Lib.hid (P4.out.set4 2 0 0 s1)
                      have O9 := Lib.hid (show OBox ((((w4.setCell ⟨bP, 0, none⟩ (.int .i64 2)).setCell ⟨bP, 1, none⟩ (.int .i64 0)).setCell ⟨bP, 2, none⟩ (.int .i64 0)).setCell ⟨bP, 3, none⟩ (.string s1)) bO ok on from (heap_set4 _ _ _ _ _ _ _ HNO.out).trans O4.out)
                      have HB9 := Lib.hid (below_set4 (u0 := .int .i64 2) (u1 := .int .i64 0) (u2 := .int .i64 0) (u3 := .string s1) HB4.out HLE.out)
                      generalize (((w4.setCell ⟨bP, 0, none⟩ (.int .i64 2)).setCell ⟨bP, 1, none⟩ (.int .i64 0)).setCell ⟨bP, 2, none⟩ (.int .i64 0)).setCell ⟨bP, 3, none⟩ (.string s1) = V9 at *
                      clear P4 O4 HB4 Q4 R4
                      obtain ⟨oP0, oP1, oP2, oP3⟩ := P9.out.cells
                      obtain ⟨oO0, oO1⟩ := O9.out.cells
                      go_wp2_with fail
                      go_roundw
                      case rel => exact ⟨k + 1, by omega, by go_num, m1, HM1.out, HN1.out, by rw [← HS1.out]; exact P9.out, HB9.out⟩
                      case measure => simp [intOf]; omega
              · as_aux_lemma =>
                  have TK := Lib.hid (take_full 0 0 m HM.out (Nat.le_antisymm (fst_le m) (by omega)))
                  rw [show pv 0 0 0 [] = .agg #[.int .i64 0, .int .i64 0, .int .i64 0, .string ⟨#[]⟩] from rfl] at TK
                  unfold pv at TK
                  by_cases hk2 : ok = 2
                  · by_cases hgv : 2 ≤ on ∧ usedS m on = true
                    · as_aux_lemma =>
                        have HPL := Lib.hid P0.out.lt
                        subst hk2
                        have k2b : ((2 : Int) == 2) = true := rfl
                        have GW := Lib.hid (give_ok HM.out HON.out hgv)
                        have hgd := HM.out.set (n := on.toNat) (x := 2) (by have := hgv.1; omega) (.inr rfl)
                        have HM2 := Lib.hid hgd
                        have HN2 := Lib.hid (show (m.set on.toNat 2).length = N by rw [List.length_set]; exact HN.out)
                        unfold pv at GW
                        clear hgd
                        obtain ⟨s1, hs1⟩ : ∃ s, s = str (mk m) := ⟨_, rfl⟩
                        rw [← hs1] at TK P0 GW
                        obtain ⟨s2, hs2⟩ : ∃ s, s = str (mk (m.set on.toNat 2)) := ⟨_, rfl⟩
                        rw [← hs2] at GW
                        have HS2 := Lib.hid hs2
                        clear hs2
                        have HS1 := Lib.hid hs1
                        clear hs1 hgv
                        have hal := (Below.refl (wr).heap.size (wr)).alloc (Nat.le_refl _) (.cells #[.int .i64 2, .int .i64 on] 30)
                        replace P0 := Lib.hid (P0.out.kept hal)
                        have O0 := Lib.hid (OBox.new (wr) (2) (on))
                        replace HB0 := Lib.hid (HB0.out.trans (hal.mono (Below.size HB0.out)))
                        clear hal
                        obtain ⟨oP0, oP1, oP2, oP3⟩ := P0.out.cells
                        go_wp2_with fail
                        clear oP0 oP1 oP2 oP3
                        clear c0 c1
                        obtain ⟨bO, hbO⟩ : ∃ bO, bO = (wr).heap.size := ⟨_, rfl⟩
                        rw [← hbO] at O0 ⊢
                        have HLO := Lib.hid hbO
                        clear hbO
                        generalize (wr).alloc (.cells #[.int .i64 2, .int .i64 on] 30) = vo at *
                        have HNO := Lib.hid (show bO ≠ bP by rw [HLO.out]; exact Nat.ne_of_gt HPL.out)
                        refine (TK.out _).mono ?_; rintro e w1 ⟨rfl, hb⟩
                        have P1 := Lib.hid (P0.out.kept hb)
                        have O1 := Lib.hid (O0.out.kept hb)
                        have HB1 := Lib.hid (HB0.out.trans (hb.mono (Below.size HB0.out)))
                        clear hb HB0 P0 O0
                        have hal := (Below.refl (w1).heap.size (w1)).alloc (Nat.le_refl _) (.cells #[.int .i64 0, .int .i64 0, .int .i64 0, .string ⟨#[]⟩] 23)
                        replace P1 := Lib.hid (P1.out.kept hal)
                        replace O1 := Lib.hid (O1.out.kept hal)
                        have Q1 := Lib.hid (PBox.new (w1) (0) (0) (0) (⟨#[]⟩))
                        replace HB1 := Lib.hid (HB1.out.trans (hal.mono (Below.size HB1.out)))
                        clear hal
                        obtain ⟨oP0, oP1, oP2, oP3⟩ := P1.out.cells
                        obtain ⟨oO0, oO1⟩ := O1.out.cells
                        go_upto_region 15 with fail
                        clear oP0 oP1 oP2 oP3 oO0 oO1
                        obtain ⟨bQ, hbQ⟩ : ∃ bQ, bQ = (w1).heap.size := ⟨_, rfl⟩
                        rw [← hbQ] at Q1 ⊢
                        have HLQ := Lib.hid hbQ
                        clear hbQ
                        generalize (w1).alloc (.cells #[.int .i64 0, .int .i64 0, .int .i64 0, .string ⟨#[]⟩] 23) = v1 at *
                        clear Q1
                        obtain ⟨oP0, oP1, oP2, oP3⟩ := P1.out.cells
                        obtain ⟨oO0, oO1⟩ := O1.out.cells
                        go_wp2_with fail
                        clear oP0 oP1 oP2 oP3 oO0 oO1
                        refine (GW.out _).mono ?_; rintro e w2 ⟨rfl, hb⟩
                        have P2 := Lib.hid (P1.out.kept hb)
                        have O2 := Lib.hid (O1.out.kept hb)
                        have HB2 := Lib.hid (HB1.out.trans (hb.mono (Below.size HB1.out)))
                        clear hb HB1 P1 O1
                        have hal := (Below.refl (w2).heap.size (w2)).alloc (Nat.le_refl _) (.cells #[.int .i64 2, .int .i64 0, .int .i64 0, .string s2] 23)
                        replace P2 := Lib.hid (P2.out.kept hal)
                        replace O2 := Lib.hid (O2.out.kept hal)
                        have S2 := Lib.hid (PBox.new (w2) (2) (0) (0) (s2))
                        replace HB2 := Lib.hid (HB2.out.trans (hal.mono (Below.size HB2.out)))
                        clear hal
                        obtain ⟨⟨oP0, oP1, oP2, oP3⟩, fP0, fP1, fP2, fP3⟩ := And.intro P2.out.cells P2.out.free
                        go_wp2_with fail
                        go_roundw
                        case rel => exact ⟨k + 1, by omega, by go_num, m.set on.toNat 2, HM2.out, HN2.out, by rw [← HS2.out]; exact P2.out.set4 _ _ _ _, below_set4 HB2.out HLE.out⟩
                        case measure => simp [intOf]; omega
                    · as_aux_lemma =>
                        have HPL := Lib.hid P0.out.lt
                        subst hk2
                        have k2b : ((2 : Int) == 2) = true := rfl
                        have GW := Lib.hid (give_err HM.out HON.out hgv)
                        unfold pv at GW
                        obtain ⟨s1, hs1⟩ : ∃ s, s = str (mk m) := ⟨_, rfl⟩
                        rw [← hs1] at TK P0 GW
                        have HS1 := Lib.hid hs1
                        clear hs1 hgv
                        have hal := (Below.refl (wr).heap.size (wr)).alloc (Nat.le_refl _) (.cells #[.int .i64 2, .int .i64 on] 30)
                        replace P0 := Lib.hid (P0.out.kept hal)
                        have O0 := Lib.hid (OBox.new (wr) (2) (on))
                        replace HB0 := Lib.hid (HB0.out.trans (hal.mono (Below.size HB0.out)))
                        clear hal
                        obtain ⟨oP0, oP1, oP2, oP3⟩ := P0.out.cells
                        go_wp2_with fail
                        clear oP0 oP1 oP2 oP3
                        clear c0 c1
                        obtain ⟨bO, hbO⟩ : ∃ bO, bO = (wr).heap.size := ⟨_, rfl⟩
                        rw [← hbO] at O0 ⊢
                        have HLO := Lib.hid hbO
                        clear hbO
                        generalize (wr).alloc (.cells #[.int .i64 2, .int .i64 on] 30) = vo at *
                        have HNO := Lib.hid (show bO ≠ bP by rw [HLO.out]; exact Nat.ne_of_gt HPL.out)
                        refine (TK.out _).mono ?_; rintro e w1 ⟨rfl, hb⟩
                        have P1 := Lib.hid (P0.out.kept hb)
                        have O1 := Lib.hid (O0.out.kept hb)
                        have HB1 := Lib.hid (HB0.out.trans (hb.mono (Below.size HB0.out)))
                        clear hb HB0 P0 O0
                        have hal := (Below.refl (w1).heap.size (w1)).alloc (Nat.le_refl _) (.cells #[.int .i64 0, .int .i64 0, .int .i64 0, .string ⟨#[]⟩] 23)
                        replace P1 := Lib.hid (P1.out.kept hal)
                        replace O1 := Lib.hid (O1.out.kept hal)
                        have Q1 := Lib.hid (PBox.new (w1) (0) (0) (0) (⟨#[]⟩))
                        replace HB1 := Lib.hid (HB1.out.trans (hal.mono (Below.size HB1.out)))
                        clear hal
                        obtain ⟨oP0, oP1, oP2, oP3⟩ := P1.out.cells
                        obtain ⟨oO0, oO1⟩ := O1.out.cells
                        go_upto_region 15 with fail
                        clear oP0 oP1 oP2 oP3 oO0 oO1
                        obtain ⟨bQ, hbQ⟩ : ∃ bQ, bQ = (w1).heap.size := ⟨_, rfl⟩
                        rw [← hbQ] at Q1 ⊢
                        have HLQ := Lib.hid hbQ
                        clear hbQ
                        generalize (w1).alloc (.cells #[.int .i64 0, .int .i64 0, .int .i64 0, .string ⟨#[]⟩] 23) = v1 at *
                        clear Q1
                        obtain ⟨oP0, oP1, oP2, oP3⟩ := P1.out.cells
                        obtain ⟨oO0, oO1⟩ := O1.out.cells
                        go_wp2_with fail
                        clear oP0 oP1 oP2 oP3 oO0 oO1
                        refine (GW.out _).mono ?_; rintro e w2 ⟨rfl, hb⟩
                        have P2 := Lib.hid (P1.out.kept hb)
                        have O2 := Lib.hid (O1.out.kept hb)
                        have HB2 := Lib.hid (HB1.out.trans (hb.mono (Below.size HB1.out)))
                        clear hb HB1 P1 O1
                        have hal := (Below.refl (w2).heap.size (w2)).alloc (Nat.le_refl _) (.cells #[.int .i64 0, .int .i64 0, .int .i64 0, .string ⟨#[]⟩] 23)
                        replace P2 := Lib.hid (P2.out.kept hal)
                        replace O2 := Lib.hid (O2.out.kept hal)
                        have S2 := Lib.hid (PBox.new (w2) (0) (0) (0) (⟨#[]⟩))
                        replace HB2 := Lib.hid (HB2.out.trans (hal.mono (Below.size HB2.out)))
                        clear hal
                        obtain ⟨oP0, oP1, oP2, oP3⟩ := P2.out.cells
                        go_wp2_with fail
                        go_roundw
                        case rel => exact ⟨k + 1, by omega, by go_num, m, HM.out, HN.out, by rw [← HS1.out]; exact P2.out, HB2.out⟩
                        case measure => simp [intOf]; omega
                  · as_aux_lemma =>
                      have HPL := Lib.hid P0.out.lt
                      have k2b : (ok == 2) = false := by simpa using hk2
                      obtain ⟨s1, hs1⟩ : ∃ s, s = str (mk m) := ⟨_, rfl⟩
                      rw [← hs1] at TK P0
                      have HS1 := Lib.hid hs1
                      clear hs1
                      have hal := (Below.refl (wr).heap.size (wr)).alloc (Nat.le_refl _) (.cells #[.int .i64 ok, .int .i64 on] 30)
                      replace P0 := Lib.hid (P0.out.kept hal)
                      have O0 := Lib.hid (OBox.new (wr) (ok) (on))
                      replace HB0 := Lib.hid (HB0.out.trans (hal.mono (Below.size HB0.out)))
                      clear hal
                      obtain ⟨oP0, oP1, oP2, oP3⟩ := P0.out.cells
                      go_wp2_with fail
                      clear oP0 oP1 oP2 oP3
                      clear c0 c1
                      obtain ⟨bO, hbO⟩ : ∃ bO, bO = (wr).heap.size := ⟨_, rfl⟩
                      rw [← hbO] at O0 ⊢
                      have HLO := Lib.hid hbO
                      clear hbO
                      generalize (wr).alloc (.cells #[.int .i64 ok, .int .i64 on] 30) = vo at *
                      have HNO := Lib.hid (show bO ≠ bP by rw [HLO.out]; exact Nat.ne_of_gt HPL.out)
                      refine (TK.out _).mono ?_; rintro e w1 ⟨rfl, hb⟩
                      have P1 := Lib.hid (P0.out.kept hb)
                      have O1 := Lib.hid (O0.out.kept hb)
                      have HB1 := Lib.hid (HB0.out.trans (hb.mono (Below.size HB0.out)))
                      clear hb HB0 P0 O0
                      have hal := (Below.refl (w1).heap.size (w1)).alloc (Nat.le_refl _) (.cells #[.int .i64 0, .int .i64 0, .int .i64 0, .string ⟨#[]⟩] 23)
                      replace P1 := Lib.hid (P1.out.kept hal)
                      replace O1 := Lib.hid (O1.out.kept hal)
                      have Q1 := Lib.hid (PBox.new (w1) (0) (0) (0) (⟨#[]⟩))
                      replace HB1 := Lib.hid (HB1.out.trans (hal.mono (Below.size HB1.out)))
                      clear hal
                      obtain ⟨oP0, oP1, oP2, oP3⟩ := P1.out.cells
                      obtain ⟨oO0, oO1⟩ := O1.out.cells
                      go_upto_region 15 with fail
                      clear oP0 oP1 oP2 oP3 oO0 oO1
                      obtain ⟨bQ, hbQ⟩ : ∃ bQ, bQ = (w1).heap.size := ⟨_, rfl⟩
                      rw [← hbQ] at Q1 ⊢
                      have HLQ := Lib.hid hbQ
                      clear hbQ
                      generalize (w1).alloc (.cells #[.int .i64 0, .int .i64 0, .int .i64 0, .string ⟨#[]⟩] 23) = v1 at *
                      clear Q1
                      obtain ⟨oP0, oP1, oP2, oP3⟩ := P1.out.cells
                      obtain ⟨oO0, oO1⟩ := O1.out.cells
                      go_wp2_with fail
                      go_roundw
                      case rel => exact ⟨k + 1, by omega, by go_num, m, HM.out, HN.out, by rw [← HS1.out]; exact P1.out, HB1.out⟩
                      case measure => simp [intOf]; omega
          · obtain rfl : n0 = k := by omega
            have q1 : ¬ (n0 : Int) < (n0 : Int) := by omega
            have PA := Lib.hid (pages_any 2 0 0 (mk m) (by rw [HM.out.len]; omega))
            rw [marksS_mk HM.out, HN.out] at PA
            unfold pv at PA
            generalize str (mk m) = s at *
            obtain ⟨oP0, oP1, oP2, oP3⟩ := P0.out.cells
            go_wp2_with fail
            clear oP0 oP1 oP2 oP3
            refine (PA.out _).mono ?_; rintro e w1 ⟨rfl, hb⟩
            have P1 := Lib.hid (P0.out.kept hb)
            have HB1 := Lib.hid (HB0.out.trans (hb.mono (Below.size HB0.out)))
            clear hb HB0 P0
            go_wp2_with fail
            go_ret
            exact ⟨rfl, HB1.out⟩

/-! The row's step. -/
set_option maxRecDepth 100000 in
theorem lifted (os : Os) (started : os.Started) (H : Type) (enc : TypeId × Value → H) :
    ReturnsInHanded {} Tryd.checked os 7 .any (fun w args => (Rows.spaceBackSpec.pre enc Tryd.prog Tryd.f7 [] false w args ∧ laidMetH Tryd.prog laidL w) ∧ sizedMet enc Tryd.prog Tryd.f7 (OpenSpec.ofChange Rows.spaceBackSpec) false w args)
      (Rows.spaceBackSpec.post enc Tryd.prog Tryd.f7 false true false false) := by
  refine returnsInHanded_of_change_and (C := Tryd.checked) (X := fun w _ => laidMetH Tryd.prog laidL w) (fun _ _ _ hh h => h.of_heap hh) own started (by kernel_rfl) Tryd.func7
    (ChangeSpec.witness_shaped (enc := enc) (C := Tryd.checked) (os := os) (X := fun w _ => laidMetH Tryd.prog laidL w) false (World.laidAll Tryd.prog os laidL) #[.int .i64 0, .slice none 0 0] 8 (World.laidAll_os _ _ _)
      (World.shaped_of_ZipB (by kernel_rfl) (by kernel_rfl)) (by kernel_rfl) (by kernel_rfl) (by kernel_rfl)
      (by rw [MakeChecks.laidMetH_plain _ _ _ (by kernel_rfl)]; exact laidMet_laidAll _ (by kernel_rfl) (by kernel_rfl))) ?_
  intro W base args ds gs before hval0 hW _ _ hL _
  have hval : ∀ (j : Nat) t v, Tryd.f7.params[j]? = some t → args[j]? = some v → Value.okWide Tryd.prog W .any base t v := hval0
  have hW' := hW
  obtain ⟨p, q, hA0, hV, rfl, hfz, hnd⟩ := hW
  have hA : DataW.TrodAll enc Tryd.prog W 0 (fun _ => true) true Tryd.f7.params.toList args.toList ds p := hA0
  rw [Tryd.params7] at hA hval
  obtain ⟨v0, vs0, d0, ds0, p0, q0, hargs, rfl, rfl, h0, r0⟩ := trodAll_cons hA
  obtain ⟨v1, vs1, d1, ds1, p1, q1, rfl, rfl, rfl, h1, r1⟩ := trodAll_cons r0
  obtain ⟨rfl, rfl, rfl⟩ := trodAll_nil r1
  obtain rfl : args = #[v0, v1] := by cases args; simp_all
  obtain ⟨rfl, rfl⟩ := trodVars_none hV
  obtain ⟨a0, rfl, rfl, rfl, w0⟩ := open_int Tryd.underlying3 (hval 0 3 v0 rfl rfl) h0
  obtain ⟨A1, n1, c1, rfl⟩ := okWide_slice Tryd.underlying24 (hval 1 24 v1 rfl rfl)
  have k1 := h1
  have lt1 : ∀ x ∈ p1, x.block < W.heap.size := by obtain ⟨m, hm⟩ := k1; exact DataW.trod_lt m _ _ _ hm
  obtain ⟨l1, w1, e1, f1⟩ := (by obtain ⟨fuel, hf⟩ := h1; exact ops_read hf (fun _ => rfl) : ∃ l, OpsL W A1 n1 l ∧ n1 ≤ c1 ∧ c1 ≤ maxLen)
  clear hA0 hval0
  refine (walk a0 A1 n1 c1 l1 W w0 w1 (Nat.le_trans e1 f1)).mono fun e W' ⟨he, bel⟩ => ?_
  subst he
  exact ⟨_, rfl, _, _, _, [], _, [], hW', trodAll_mk1 (shut_bool Tryd.underlying4 _), (trodAll_cons_mk (shut_int Tryd.underlying3 w0) (trodAll_cons_mk (Below.trod laidOut (by kernel_rfl) (of_decide_eq_true (by kernel_rfl)) k1 bel lt1) trodAll_mk0)), rfl, bel.frame _, fun h => by cases h⟩

/-- The row's statement. -/
theorem over : Rows.SpaceBackSaid :=
  OpenClaim.holds_of_wide 7 Tryd.f7 rfl rfl rfl rfl rfl rfl rfl ⟨rfl, rfl, rfl, rfl, rfl⟩ rfl rfl rfl rfl rfl (by kernel_rfl) Tryd.func7 (by kernel_rfl)
    (of_decide_eq_true (by kernel_rfl)) (by unfold Func.isWrapper; first | (rw [if_pos (by decide +kernel)]; kernel_rfl) | (rw [if_neg (by decide +kernel)]; exact ⟨rfl, rfl⟩))
    (fun os started H enc _ => lifted os started H enc)

/-- The card. -/
theorem proved : Rows.SpaceBackCardSaid :=
  Claim7.holds_tied_plain_at .later [] [.data, .pinned] true Rows.spaceBackCard.stood.harness false
    over (fun _ h => by cases h) (by kernel_rfl) (fun _ h => by cases h) spaceBack_row_tie rfl ⟨rfl, rfl⟩ (by kernel_rfl) rfl
    (fun f fn hf hfn => by
      obtain rfl : f = 7 := Option.some.inj ((show Tryd.prog.funcNamed "honeycomb/honeycomblaw9.SpaceBack" = some 7 by kernel_rfl).symm.trans hf) |>.symm
      obtain rfl : fn = Tryd.f7 := (Option.some.inj (Tryd.func7.symm.trans hfn)).symm
      exact ⟨by kernel_rfl, fun j t ht => by
        rw [Tryd.params7] at ht
        have hm : t ∈ [3, 24] := by simpa using Array.mem_of_getElem? ht
        have hall : ([3, 24].all fun u => !Tryd.prog.wantsStandIn u) = true := by kernel_rfl
        exact (show Tryd.prog.wantsStandIn t = false by simpa using List.all_eq_true.1 hall t hm)⟩)
    (by kernel_rfl)
end Go.Proofs.YtkbbpdpalfpchaaDoor.spaceBack
