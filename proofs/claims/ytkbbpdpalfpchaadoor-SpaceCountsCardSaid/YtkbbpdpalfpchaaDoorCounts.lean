/- Free pages and used ones are all pages, whatever is taken and given back. -/
import Derived.Test.YtkbbpdpalfpchaaDoorRows
import Derived.Test.YtkbbpdpalfpchaaDoorCards
import Derived.Test.YtkbbpdpalfpchaaDoorTie
import Derived.Test.YtkbbpdpalfpchaaDoorLaws
import Derived.LoopTactic
import Derived.StillTailTactics
import Derived.BigQuiet
import Derived.Deep.DeepCutAuto
import Derived.Deep.RegionLaw
import Derived.Deep.CutBlock
import Derived.Lib.Hide
import Derived.WalkKit
import Derived.ProofKit
import Derived.OpenShut
import Derived.ChangeOld
import Derived.Below
import Derived.Carry
import Derived.LaidMore
import Derived.Lay
import Derived.SevenTiedAt
namespace Go.Proofs.YtkbbpdpalfpchaaDoor.spaceCounts
open Go.ChangeShapes Go.WideShapes Go.ChangeAt Go.RowKit
set_option linter.unusedVariables false
set_option linter.unusedSimpArgs false

set_option maxRecDepth 100000 in
set_option maxHeartbeats 16000000 in
theorem walk (a0 : Int) (A1 : Option Addr) (n0 c1 : Nat) (l1 : List Opp) (w : World) (w0 : (Lit.int .i64 a0).wf = true) (w1 : OpsL w A1 n0 l1) (e1 : n0 ≤ maxLen) :
    Calls Tryd.prog 6 #[.int .i64 a0, .slice A1 n0 c1] w fun e w' => e = .returned (.bool true) ∧ Below w.heap.size w w' := by
  have AL := Lib.hid alive_yes
  by_cases c0 : a0 < 8
  · as_aux_lemma =>
      have d0 : decide (a0 < 8) = true := decide_eq_true c0
      have HB0 := Lib.hid (Below.refl w.heap.size w)
      go_enter Tryd.func6, Tryd.ntmps6
      go_wp2_with fail
      refine (AL.out _).mono ?_; rintro e w1 ⟨rfl, hb⟩
      have HB1 := Lib.hid (HB0.out.trans (hb.mono (Below.size HB0.out)))
      clear hb HB0 
      go_wp2_with fail
      go_ret
      exact ⟨rfl, HB1.out⟩
  · have d0 : decide (a0 < 8) = false := decide_eq_false c0
    by_cases c1 : 64 < a0
    · as_aux_lemma =>
        have d1 : decide (64 < a0) = true := decide_eq_true c1
        have d1b : decide (a0 > 64) = true := decide_eq_true c1
        have HB0 := Lib.hid (Below.refl w.heap.size w)
        go_enter Tryd.func6, Tryd.ntmps6
        go_wp2_with fail
        refine (AL.out _).mono ?_; rintro e w1 ⟨rfl, hb⟩
        have HB1 := Lib.hid (HB0.out.trans (hb.mono (Below.size HB0.out)))
        clear hb HB0 
        go_wp2_with fail
        go_ret
        exact ⟨rfl, HB1.out⟩
    · have d1 : decide (64 < a0) = false := decide_eq_false c1
      have d1b : decide (a0 > 64) = false := decide_eq_false c1
      by_cases c2 : 80 < (n0 : Int)
      · as_aux_lemma =>
          have d2 : decide (80 < (n0 : Int)) = true := decide_eq_true c2
          have HB0 := Lib.hid (Below.refl w.heap.size w)
          go_enter Tryd.func6, Tryd.ntmps6
          go_wp2_with fail
          refine (AL.out _).mono ?_; rintro e w1 ⟨rfl, hb⟩
          have HB1 := Lib.hid (HB0.out.trans (hb.mono (Below.size HB0.out)))
          clear hb HB0 
          go_wp2_with fail
          go_ret
          exact ⟨rfl, HB1.out⟩
      · have d2 : decide (80 < (n0 : Int)) = false := decide_eq_false c2
        obtain ⟨N, rfl⟩ : ∃ N : Nat, a0 = (N : Int) := ⟨a0.toNat, by omega⟩
        have h8 : 8 ≤ N := by omega
        have h64 : N ≤ 64 := by omega
        have k8 : ¬ (N : Int) < 8 := by omega
        have k64 : ¬ 64 < (N : Int) := by omega
        have NE := Lib.hid (new_yes N h8 h64)
        rw [newS_fill] at NE
        have hn0 : n0 ≤ 80 := by omega
        have HP := Lib.hid (fun (i : Nat) (hi : i < n0) (w' : World) (hb : Below w.heap.size w w') => w1.at hi hb)
        unfold pv at NE
        clear w1
        have HB0 := Lib.hid (Below.refl w.heap.size w)
        go_enter Tryd.func6, Tryd.ntmps6
        go_wp2_with fail
        refine (AL.out _).mono ?_; rintro e w1 ⟨rfl, hb⟩
        have HB1 := Lib.hid (HB0.out.trans (hb.mono (Below.size HB0.out)))
        clear hb HB0 
        go_wp2_with fail
        clear AL
        refine (NE.out _).mono ?_; rintro e w2 ⟨rfl, hb⟩
        have HB2 := Lib.hid (HB1.out.trans (hb.mono (Below.size HB1.out)))
        clear hb HB1 
        clear NE
        have HSZ := Lib.hid HB2.out.size
        have hal := (Below.refl (w2).heap.size (w2)).alloc (Nat.le_refl _) (.cells #[.int .i64 2, .int .i64 0, .int .i64 0, .string (str (mk (fillS N 2)))] 23)
        have P2 := Lib.hid (PBox.new (w2) (2) (0) (0) ((str (mk (fillS N 2)))))
        replace HB2 := Lib.hid (HB2.out.trans (hal.mono (Below.size HB2.out)))
        clear hal
        go_wp2_with fail
        obtain ⟨bP, hbP⟩ : ∃ bP, bP = (w2).heap.size := ⟨_, rfl⟩
        rw [← hbP] at P2 ⊢
        have HLP := Lib.hid hbP
        clear hbP
        generalize (w2).alloc (.cells #[.int .i64 2, .int .i64 0, .int .i64 0, .string (str (mk (fillS N 2)))] 23) = v2 at *
        have HLE := Lib.hid (show w.heap.size ≤ bP by rw [HLP.out]; exact HSZ.out)
        have HST := Lib.hid (show ∃ m, Good m ∧ m.length = N ∧ PBox v2 bP 2 0 0 (str (mk m)) ∧ Below w.heap.size w v2 from ⟨fillS N 2, fillS_good h8 h64 (by omega) (by omega), fillS_length (by omega), P2.out, HB2.out⟩)
        clear P2 HB2 HLP HSZ
        go_loopw [41] (fun x wr => ∃ k : Nat, k ≤ n0 ∧ x = .int .i64 k ∧ Hid (∃ m, Good m ∧ m.length = N ∧ PBox wr bP 2 0 0 (str (mk m)) ∧ Below w.heap.size w wr)) (fun x _ => n0 - (intOf x).toNat)
        case atStart => exact ⟨0, Nat.zero_le _, rfl, HST.out⟩
        case round =>
          obtain ⟨k, hk, rfl, hq⟩ := hrel
          obtain ⟨m, hm1, hm2, hm3, hm4⟩ := hq.out
          have HM := Lib.hid hm1
          have HN := Lib.hid hm2
          have P0 := Lib.hid hm3
          have HB0 := Lib.hid hm4
          clear hq hm1 hm2 hm3 hm4 HST
          have q0 : (0 : Int) ≤ (k : Int) := by omega
          by_cases hlt : k < n0
          · as_aux_lemma =>
              have q1 : (k : Int) < (n0 : Int) := by omega
              have e1 : IntKind.i64.wrap ((k : Int) + 1) = (k : Int) + 1 := IntWalk.i64_in _ (by omega)
              obtain ⟨b, off, rfl, hbk, c0, c1, hr⟩ := HP.out k hlt wr HB0.out
              generalize l1.getD k nilO = o at *
              obtain ⟨ok, on⟩ := o
              have HON := Lib.hid (show on ≤ 9223372036854775807 from hr.2)
              dsimp only at c0 c1
              clear hbk hr
              by_cases hk1 : ok = 1
              · by_cases hf : fst m < m.length
                · as_aux_lemma =>
                    have HPL := Lib.hid P0.out.lt
                    subst hk1
                    have k2b : ((1 : Int) == 1) = true := rfl
                    have hf2 := HM.out.fst2
                    have CA := Lib.hid (take_some 0 0 m HM.out hf)
                    have HM1 := Lib.hid (HM.out.set (n := fst m) (x := 1) hf2 (.inl rfl))
                    have HN1 := Lib.hid (show (m.set (fst m) 1).length = N by rw [List.length_set]; exact HN.out)
                    obtain ⟨m1, hm1⟩ : ∃ m1, m1 = m.set (fst m) 1 := ⟨_, rfl⟩
                    rw [← hm1] at CA HM1 HN1
                    generalize fst m = f at *
                    clear hm1 hf hf2
                    unfold pv at CA
                    obtain ⟨s, hs⟩ : ∃ s, s = str (mk m) := ⟨_, rfl⟩
                    rw [← hs] at CA P0
                    have HS := Lib.hid hs
                    clear hs
                    obtain ⟨s1, hs1⟩ : ∃ s, s = str (mk m1) := ⟨_, rfl⟩
                    rw [← hs1] at CA
                    have HS1 := Lib.hid hs1
                    clear hs1
                    have hal := (Below.refl (wr).heap.size (wr)).alloc (Nat.le_refl _) (.cells #[.int .i64 1, .int .i64 on] 30)
                    replace P0 := Lib.hid (P0.out.kept hal)
                    have O0 := Lib.hid (OBox.new (wr) (1) (on))
                    replace HB0 := Lib.hid (HB0.out.trans (hal.mono (Below.size HB0.out)))
                    clear hal
                    obtain ⟨oP0, oP1, oP2, oP3⟩ := P0.out.cells
                    go_wp2_with fail
                    clear oP0 oP1 oP2 oP3
                    clear c0 c1
                    obtain ⟨bO, hbO⟩ : ∃ bO, bO = (wr).heap.size := ⟨_, rfl⟩
                    rw [← hbO] at O0 ⊢
                    have HLO := Lib.hid hbO
                    clear hbO
                    generalize (wr).alloc (.cells #[.int .i64 1, .int .i64 on] 30) = vo at *
                    refine (CA.out _).mono ?_; rintro e w1 ⟨rfl, hb⟩
                    have P1 := Lib.hid (P0.out.kept hb)
                    have O1 := Lib.hid (O0.out.kept hb)
                    have HB1 := Lib.hid (HB0.out.trans (hb.mono (Below.size HB0.out)))
                    clear hb HB0 P0 O0
                    have hal := (Below.refl (w1).heap.size (w1)).alloc (Nat.le_refl _) (.cells #[.int .i64 2, .int .i64 0, .int .i64 0, .string s1] 23)
                    replace P1 := Lib.hid (P1.out.kept hal)
                    replace O1 := Lib.hid (O1.out.kept hal)
                    have Q1 := Lib.hid (PBox.new (w1) (2) (0) (0) (s1))
                    replace HB1 := Lib.hid (HB1.out.trans (hal.mono (Below.size HB1.out)))
                    clear hal
                    obtain ⟨⟨oP0, oP1, oP2, oP3⟩, fP0, fP1, fP2, fP3⟩ := And.intro P1.out.cells P1.out.free
                    obtain ⟨oO0, oO1⟩ := O1.out.cells
                    go_upto_region 16 with fail
                    clear oP0 oP1 oP2 oP3 fP0 fP1 fP2 fP3
                    clear oO0 oO1
                    obtain ⟨bQ, hbQ⟩ : ∃ bQ, bQ = (w1).heap.size := ⟨_, rfl⟩
                    rw [← hbQ] at Q1 ⊢
                    have HLQ := Lib.hid hbQ
                    clear hbQ
                    generalize (w1).alloc (.cells #[.int .i64 2, .int .i64 0, .int .i64 0, .string s1] 23) = v1 at *
                    have P9 := Lib.hid (P1.out.set4 2 0 0 s1)
                    have HB9 := Lib.hid (below_set4 (u0 := .int .i64 2) (u1 := .int .i64 0) (u2 := .int .i64 0) (u3 := .string s1) HB1.out HLE.out)
                    generalize (((v1.setCell ⟨bP, 0, none⟩ (.int .i64 2)).setCell ⟨bP, 1, none⟩ (.int .i64 0)).setCell ⟨bP, 2, none⟩ (.int .i64 0)).setCell ⟨bP, 3, none⟩ (.string s1) = V9 at *
                    clear P1 O1 HB1 Q1 CA
                    rw [HS1.out] at P9
                    have FR := Lib.hid (free_any 2 0 0 (mk m1) (by rw [HM1.out.len]; omega))
                    rw [marksS_mk HM1.out] at FR
                    have PA := Lib.hid (pages_any 2 0 0 (mk m1) (by rw [HM1.out.len]; omega))
                    rw [marksS_mk HM1.out, HN1.out] at PA
                    have U0 := Lib.hid (used_any 2 0 0 0 (mk m1) (by rw [HM1.out.len]; omega) (by omega))
                    rw [marksS_mk HM1.out, HM1.out.used0.1] at U0
                    have U1 := Lib.hid (used_any 2 0 0 1 (mk m1) (by rw [HM1.out.len]; omega) (by omega))
                    rw [marksS_mk HM1.out, HM1.out.used0.2] at U1
                    have US := Lib.hid (fun (j : Int) (hj : j ≤ 1000) w => (show Calls Tryd.prog 17 #[pv 2 0 0 (mk m1), .int .i64 j] w fun e w' => e = .returned (.bool (usedS m1 j)) ∧ Below w.heap.size w w' from by have h := used_any 2 0 0 j (mk m1) (by rw [HM1.out.len]; omega) (by omega) w; rw [marksS_mk HM1.out] at h; exact h))
                    have HSUM := Lib.hid (show ((m1.count 1 : Nat) : Int) + ((m1.count 2 : Nat) : Int) = (N : Int) from by have h := count2_free HM1.out; have h' := HN1.out; omega)
                    unfold pv at FR PA U0 U1 US
                    obtain ⟨sx, hsx⟩ : ∃ s, s = str (mk m1) := ⟨_, rfl⟩
                    rw [← hsx] at FR PA U0 U1 US P9
                    have HSX := Lib.hid hsx
                    clear hsx
                    go_wp2_with fail
                    go_loopw [14, 15] (fun u v wr => ∃ j : Nat, j ≤ N + 2 ∧ v = .int .i64 ((j : Int) - 1) ∧ u = .int .i64 ((cnt m1 j : Nat) : Int) ∧ Hid (PBox wr bP 2 0 0 sx ∧ Below w.heap.size w wr)) (fun _ v _ => N + 2 - (intOf v + 1).toNat)
                    case atStart => exact ⟨0, Nat.zero_le _, rfl, by simp [cnt], P9.out, HB9.out⟩
                    case round =>
                      obtain ⟨j, hj, rfl, rfl, hq⟩ := hrel
                      have P0 := Lib.hid hq.out.1
                      have HB0 := Lib.hid hq.out.2
                      clear hq P9 HB9
                      obtain ⟨kk, hkk⟩ : ∃ kk : Int, kk = (j : Int) - 1 := ⟨_, rfl⟩
                      obtain ⟨cc, hcc⟩ : ∃ cc : Int, cc = ((cnt m1 j : Nat) : Int) := ⟨_, rfl⟩
                      have hcl := cnt_le m1 j
                      rw [HN1.out] at hcl
                      rw [← hkk, ← hcc]
                      have HKK := Lib.hid hkk
                      have HCC := Lib.hid hcc
                      by_cases hlt2 : j < N + 2
                      · have g0 : 0 ≤ cc := by omega
                        have g1 : kk ≤ (N : Int) := by omega
                        have g2 : decide (kk ≤ (N : Int)) = true := decide_eq_true g1
                        have g3 : IntKind.i64.wrap (kk + 1) = kk + 1 := IntWalk.i64_in _ (by omega)
                        have g4 : IntKind.i64.wrap (cc + 1) = cc + 1 := IntWalk.i64_in _ (by omega)
                        have hst := cnt_step m1 j
                        rw [← hkk] at hst
                        have UJ := Lib.hid (US.out kk (by omega))
                        cases hu : usedS m1 kk with
                        | true =>
                          rw [hu] at hst UJ
                          have hst2 : cc + 1 = ((cnt m1 (j + 1) : Nat) : Int) := by rw [hst, if_pos rfl]; omega
                          have HST2 := Lib.hid hst2
                          clear hu hst hst2 hkk hcc hcl US
                          obtain ⟨oP0, oP1, oP2, oP3⟩ := P0.out.cells
                          go_wp2_with fail
                          clear oP0 oP1 oP2 oP3
                          refine (UJ.out _).mono ?_; rintro e w1 ⟨rfl, hb⟩
                          have P1 := Lib.hid (P0.out.kept hb)
                          have HB1 := Lib.hid (HB0.out.trans (hb.mono (Below.size HB0.out)))
                          clear hb HB0 P0
                          go_wp2_with fail
                          go_roundw
                          case rel => exact ⟨j + 1, by omega, by rw [show ((j + 1 : Nat) : Int) - 1 = kk + 1 by have := HKK.out; omega], by rw [HST2.out], P1.out, HB1.out⟩
                          case measure => have hkk := HKK.out; simp [intOf]; omega
                        | false =>
                          rw [hu] at hst UJ
                          have hst2 : cc = ((cnt m1 (j + 1) : Nat) : Int) := by rw [hst, if_neg (by decide)]; omega
                          have HST2 := Lib.hid hst2
                          clear hu hst hst2 hkk hcc hcl US
                          obtain ⟨oP0, oP1, oP2, oP3⟩ := P0.out.cells
                          go_wp2_with fail
                          clear oP0 oP1 oP2 oP3
                          refine (UJ.out _).mono ?_; rintro e w1 ⟨rfl, hb⟩
                          have P1 := Lib.hid (P0.out.kept hb)
                          have HB1 := Lib.hid (HB0.out.trans (hb.mono (Below.size HB0.out)))
                          clear hb HB0 P0
                          go_wp2_with fail
                          go_roundw
                          case rel => exact ⟨j + 1, by omega, by rw [show ((j + 1 : Nat) : Int) - 1 = kk + 1 by have := HKK.out; omega], by rw [HST2.out], P1.out, HB1.out⟩
                          case measure => have hkk := HKK.out; simp [intOf]; omega
                      · have hj2 : j = N + 2 := by omega
                        have g1 : ¬ kk ≤ (N : Int) := by omega
                        have g2 : decide (kk ≤ (N : Int)) = false := decide_eq_false g1
                        have hca := cnt_all m1 (j := j) (by rw [HN1.out]; omega)
                        rw [hca] at hcc
                        have hsum : cc + ((m1.count 2 : Nat) : Int) = (N : Int) := by rw [hcc]; exact HSUM.out
                        generalize ((m1.count 2 : Nat) : Int) = c2 at *
                        have g3 : IntKind.i64.wrap (cc + c2) = (N : Int) := by rw [hsum]; exact IntWalk.i64_in _ (by omega)
                        clear hca hcc hsum US hkk hj2 hcl
                        obtain ⟨oP0, oP1, oP2, oP3⟩ := P0.out.cells
                        go_wp2_with fail
                        clear oP0 oP1 oP2 oP3
                        refine (FR.out _).mono ?_; rintro e w1 ⟨rfl, hb⟩
                        have P1 := Lib.hid (P0.out.kept hb)
                        have HB1 := Lib.hid (HB0.out.trans (hb.mono (Below.size HB0.out)))
                        clear hb HB0 P0
                        obtain ⟨oP0, oP1, oP2, oP3⟩ := P1.out.cells
                        go_wp2_with fail
                        clear oP0 oP1 oP2 oP3
                        refine (PA.out _).mono ?_; rintro e w2 ⟨rfl, hb⟩
                        have P2 := Lib.hid (P1.out.kept hb)
                        have HB2 := Lib.hid (HB1.out.trans (hb.mono (Below.size HB1.out)))
                        clear hb HB1 P1
                        obtain ⟨oP0, oP1, oP2, oP3⟩ := P2.out.cells
                        go_wp2_with fail
                        clear oP0 oP1 oP2 oP3
                        refine (U0.out _).mono ?_; rintro e w3 ⟨rfl, hb⟩
                        have P3 := Lib.hid (P2.out.kept hb)
                        have HB3 := Lib.hid (HB2.out.trans (hb.mono (Below.size HB2.out)))
                        clear hb HB2 P2
                        obtain ⟨oP0, oP1, oP2, oP3⟩ := P3.out.cells
                        go_wp2_with fail
                        clear oP0 oP1 oP2 oP3
                        refine (U1.out _).mono ?_; rintro e w4 ⟨rfl, hb⟩
                        have P4 := Lib.hid (P3.out.kept hb)
                        have HB4 := Lib.hid (HB3.out.trans (hb.mono (Below.size HB3.out)))
                        clear hb HB3 P3
                        go_wp2_with fail
                        go_roundw
                        case rel => exact ⟨k + 1, by omega, by go_num, m1, HM1.out, HN1.out, by rw [← HSX.out]; exact P4.out, HB4.out⟩
                        case measure => simp [intOf]; omega
                · as_aux_lemma =>
                    have HPL := Lib.hid P0.out.lt
                    subst hk1
                    have k2b : ((1 : Int) == 1) = true := rfl
                    have CA := Lib.hid (take_full 0 0 m HM.out (Nat.le_antisymm (fst_le m) (by omega)))
                    rw [show pv 0 0 0 [] = .agg #[.int .i64 0, .int .i64 0, .int .i64 0, .string ⟨#[]⟩] from rfl] at CA
                    unfold pv at CA
                    obtain ⟨s, hs⟩ : ∃ s, s = str (mk m) := ⟨_, rfl⟩
                    rw [← hs] at CA P0
                    have HS := Lib.hid hs
                    clear hs
                    have hal := (Below.refl (wr).heap.size (wr)).alloc (Nat.le_refl _) (.cells #[.int .i64 1, .int .i64 on] 30)
                    replace P0 := Lib.hid (P0.out.kept hal)
                    have O0 := Lib.hid (OBox.new (wr) (1) (on))
                    replace HB0 := Lib.hid (HB0.out.trans (hal.mono (Below.size HB0.out)))
                    clear hal
                    obtain ⟨oP0, oP1, oP2, oP3⟩ := P0.out.cells
                    go_wp2_with fail
                    clear oP0 oP1 oP2 oP3
                    clear c0 c1
                    obtain ⟨bO, hbO⟩ : ∃ bO, bO = (wr).heap.size := ⟨_, rfl⟩
                    rw [← hbO] at O0 ⊢
                    have HLO := Lib.hid hbO
                    clear hbO
                    generalize (wr).alloc (.cells #[.int .i64 1, .int .i64 on] 30) = vo at *
                    refine (CA.out _).mono ?_; rintro e w1 ⟨rfl, hb⟩
                    have P1 := Lib.hid (P0.out.kept hb)
                    have O1 := Lib.hid (O0.out.kept hb)
                    have HB1 := Lib.hid (HB0.out.trans (hb.mono (Below.size HB0.out)))
                    clear hb HB0 P0 O0
                    have hal := (Below.refl (w1).heap.size (w1)).alloc (Nat.le_refl _) (.cells #[.int .i64 0, .int .i64 0, .int .i64 0, .string ⟨#[]⟩] 23)
                    replace P1 := Lib.hid (P1.out.kept hal)
                    replace O1 := Lib.hid (O1.out.kept hal)
                    have Q1 := Lib.hid (PBox.new (w1) (0) (0) (0) (⟨#[]⟩))
                    replace HB1 := Lib.hid (HB1.out.trans (hal.mono (Below.size HB1.out)))
                    clear hal
                    obtain ⟨oP0, oP1, oP2, oP3⟩ := P1.out.cells
                    obtain ⟨oO0, oO1⟩ := O1.out.cells
                    go_upto_region 16 with fail
                    clear oP0 oP1 oP2 oP3 oO0 oO1
                    obtain ⟨bQ, hbQ⟩ : ∃ bQ, bQ = (w1).heap.size := ⟨_, rfl⟩
                    rw [← hbQ] at Q1 ⊢
                    have HLQ := Lib.hid hbQ
                    clear hbQ
                    generalize (w1).alloc (.cells #[.int .i64 0, .int .i64 0, .int .i64 0, .string ⟨#[]⟩] 23) = v1 at *
                    clear O1 Q1 CA
                    rw [HS.out] at P1
                    have FR := Lib.hid (free_any 2 0 0 (mk m) (by rw [HM.out.len]; omega))
                    rw [marksS_mk HM.out] at FR
                    have PA := Lib.hid (pages_any 2 0 0 (mk m) (by rw [HM.out.len]; omega))
                    rw [marksS_mk HM.out, HN.out] at PA
                    have U0 := Lib.hid (used_any 2 0 0 0 (mk m) (by rw [HM.out.len]; omega) (by omega))
                    rw [marksS_mk HM.out, HM.out.used0.1] at U0
                    have U1 := Lib.hid (used_any 2 0 0 1 (mk m) (by rw [HM.out.len]; omega) (by omega))
                    rw [marksS_mk HM.out, HM.out.used0.2] at U1
                    have US := Lib.hid (fun (j : Int) (hj : j ≤ 1000) w => (show Calls Tryd.prog 17 #[pv 2 0 0 (mk m), .int .i64 j] w fun e w' => e = .returned (.bool (usedS m j)) ∧ Below w.heap.size w w' from by have h := used_any 2 0 0 j (mk m) (by rw [HM.out.len]; omega) (by omega) w; rw [marksS_mk HM.out] at h; exact h))
                    have HSUM := Lib.hid (show ((m.count 1 : Nat) : Int) + ((m.count 2 : Nat) : Int) = (N : Int) from by have h := count2_free HM.out; have h' := HN.out; omega)
                    unfold pv at FR PA U0 U1 US
                    obtain ⟨sx, hsx⟩ : ∃ s, s = str (mk m) := ⟨_, rfl⟩
                    rw [← hsx] at FR PA U0 U1 US P1
                    have HSX := Lib.hid hsx
                    clear hsx
                    go_wp2_with fail
                    go_loopw [14, 15] (fun u v wr => ∃ j : Nat, j ≤ N + 2 ∧ v = .int .i64 ((j : Int) - 1) ∧ u = .int .i64 ((cnt m j : Nat) : Int) ∧ Hid (PBox wr bP 2 0 0 sx ∧ Below w.heap.size w wr)) (fun _ v _ => N + 2 - (intOf v + 1).toNat)
                    case atStart => exact ⟨0, Nat.zero_le _, rfl, by simp [cnt], P1.out, HB1.out⟩
                    case round =>
                      obtain ⟨j, hj, rfl, rfl, hq⟩ := hrel
                      have P0 := Lib.hid hq.out.1
                      have HB0 := Lib.hid hq.out.2
                      clear hq P1 HB1
                      obtain ⟨kk, hkk⟩ : ∃ kk : Int, kk = (j : Int) - 1 := ⟨_, rfl⟩
                      obtain ⟨cc, hcc⟩ : ∃ cc : Int, cc = ((cnt m j : Nat) : Int) := ⟨_, rfl⟩
                      have hcl := cnt_le m j
                      rw [HN.out] at hcl
                      rw [← hkk, ← hcc]
                      have HKK := Lib.hid hkk
                      have HCC := Lib.hid hcc
                      by_cases hlt2 : j < N + 2
                      · have g0 : 0 ≤ cc := by omega
                        have g1 : kk ≤ (N : Int) := by omega
                        have g2 : decide (kk ≤ (N : Int)) = true := decide_eq_true g1
                        have g3 : IntKind.i64.wrap (kk + 1) = kk + 1 := IntWalk.i64_in _ (by omega)
                        have g4 : IntKind.i64.wrap (cc + 1) = cc + 1 := IntWalk.i64_in _ (by omega)
                        have hst := cnt_step m j
                        rw [← hkk] at hst
                        have UJ := Lib.hid (US.out kk (by omega))
                        cases hu : usedS m kk with
                        | true =>
                          rw [hu] at hst UJ
                          have hst2 : cc + 1 = ((cnt m (j + 1) : Nat) : Int) := by rw [hst, if_pos rfl]; omega
                          have HST2 := Lib.hid hst2
                          clear hu hst hst2 hkk hcc hcl US
                          obtain ⟨oP0, oP1, oP2, oP3⟩ := P0.out.cells
                          go_wp2_with fail
                          clear oP0 oP1 oP2 oP3
                          refine (UJ.out _).mono ?_; rintro e w1 ⟨rfl, hb⟩
                          have P1 := Lib.hid (P0.out.kept hb)
                          have HB1 := Lib.hid (HB0.out.trans (hb.mono (Below.size HB0.out)))
                          clear hb HB0 P0
                          go_wp2_with fail
                          go_roundw
                          case rel => exact ⟨j + 1, by omega, by rw [show ((j + 1 : Nat) : Int) - 1 = kk + 1 by have := HKK.out; omega], by rw [HST2.out], P1.out, HB1.out⟩
                          case measure => have hkk := HKK.out; simp [intOf]; omega
                        | false =>
                          rw [hu] at hst UJ
                          have hst2 : cc = ((cnt m (j + 1) : Nat) : Int) := by rw [hst, if_neg (by decide)]; omega
                          have HST2 := Lib.hid hst2
                          clear hu hst hst2 hkk hcc hcl US
                          obtain ⟨oP0, oP1, oP2, oP3⟩ := P0.out.cells
                          go_wp2_with fail
                          clear oP0 oP1 oP2 oP3
                          refine (UJ.out _).mono ?_; rintro e w1 ⟨rfl, hb⟩
                          have P1 := Lib.hid (P0.out.kept hb)
                          have HB1 := Lib.hid (HB0.out.trans (hb.mono (Below.size HB0.out)))
                          clear hb HB0 P0
                          go_wp2_with fail
                          go_roundw
                          case rel => exact ⟨j + 1, by omega, by rw [show ((j + 1 : Nat) : Int) - 1 = kk + 1 by have := HKK.out; omega], by rw [HST2.out], P1.out, HB1.out⟩
                          case measure => have hkk := HKK.out; simp [intOf]; omega
                      · have hj2 : j = N + 2 := by omega
                        have g1 : ¬ kk ≤ (N : Int) := by omega
                        have g2 : decide (kk ≤ (N : Int)) = false := decide_eq_false g1
                        have hca := cnt_all m (j := j) (by rw [HN.out]; omega)
                        rw [hca] at hcc
                        have hsum : cc + ((m.count 2 : Nat) : Int) = (N : Int) := by rw [hcc]; exact HSUM.out
                        generalize ((m.count 2 : Nat) : Int) = c2 at *
                        have g3 : IntKind.i64.wrap (cc + c2) = (N : Int) := by rw [hsum]; exact IntWalk.i64_in _ (by omega)
                        clear hca hcc hsum US hkk hj2 hcl
                        obtain ⟨oP0, oP1, oP2, oP3⟩ := P0.out.cells
                        go_wp2_with fail
                        clear oP0 oP1 oP2 oP3
                        refine (FR.out _).mono ?_; rintro e w1 ⟨rfl, hb⟩
                        have P1 := Lib.hid (P0.out.kept hb)
                        have HB1 := Lib.hid (HB0.out.trans (hb.mono (Below.size HB0.out)))
                        clear hb HB0 P0
                        obtain ⟨oP0, oP1, oP2, oP3⟩ := P1.out.cells
                        go_wp2_with fail
                        clear oP0 oP1 oP2 oP3
                        refine (PA.out _).mono ?_; rintro e w2 ⟨rfl, hb⟩
                        have P2 := Lib.hid (P1.out.kept hb)
                        have HB2 := Lib.hid (HB1.out.trans (hb.mono (Below.size HB1.out)))
                        clear hb HB1 P1
                        obtain ⟨oP0, oP1, oP2, oP3⟩ := P2.out.cells
                        go_wp2_with fail
                        clear oP0 oP1 oP2 oP3
                        refine (U0.out _).mono ?_; rintro e w3 ⟨rfl, hb⟩
                        have P3 := Lib.hid (P2.out.kept hb)
                        have HB3 := Lib.hid (HB2.out.trans (hb.mono (Below.size HB2.out)))
                        clear hb HB2 P2
                        obtain ⟨oP0, oP1, oP2, oP3⟩ := P3.out.cells
                        go_wp2_with fail
                        clear oP0 oP1 oP2 oP3
                        refine (U1.out _).mono ?_; rintro e w4 ⟨rfl, hb⟩
                        have P4 := Lib.hid (P3.out.kept hb)
                        have HB4 := Lib.hid (HB3.out.trans (hb.mono (Below.size HB3.out)))
                        clear hb HB3 P3
                        go_wp2_with fail
                        go_roundw
                        case rel => exact ⟨k + 1, by omega, by go_num, m, HM.out, HN.out, by rw [← HSX.out]; exact P4.out, HB4.out⟩
                        case measure => simp [intOf]; omega
              · by_cases hgv : 2 ≤ on ∧ usedS m on = true
                · as_aux_lemma =>
                    have HPL := Lib.hid P0.out.lt
                    have k2b : (ok == 1) = false := by simpa using hk1
                    have CA := Lib.hid (give_ok HM.out HON.out hgv)
                    have HM1 := Lib.hid (HM.out.set (n := on.toNat) (x := 2) (by have := hgv.1; omega) (.inr rfl))
                    have HN1 := Lib.hid (show (m.set on.toNat 2).length = N by rw [List.length_set]; exact HN.out)
                    obtain ⟨m1, hm1⟩ : ∃ m1, m1 = m.set on.toNat 2 := ⟨_, rfl⟩
                    rw [← hm1] at CA HM1 HN1
                    clear hm1
                    unfold pv at CA
                    obtain ⟨s, hs⟩ : ∃ s, s = str (mk m) := ⟨_, rfl⟩
                    rw [← hs] at CA P0
                    have HS := Lib.hid hs
                    clear hs
                    obtain ⟨s1, hs1⟩ : ∃ s, s = str (mk m1) := ⟨_, rfl⟩
                    rw [← hs1] at CA
                    have HS1 := Lib.hid hs1
                    clear hs1
                    have hal := (Below.refl (wr).heap.size (wr)).alloc (Nat.le_refl _) (.cells #[.int .i64 ok, .int .i64 on] 30)
                    replace P0 := Lib.hid (P0.out.kept hal)
                    have O0 := Lib.hid (OBox.new (wr) (ok) (on))
                    replace HB0 := Lib.hid (HB0.out.trans (hal.mono (Below.size HB0.out)))
                    clear hal
                    obtain ⟨oP0, oP1, oP2, oP3⟩ := P0.out.cells
                    go_wp2_with fail
                    clear oP0 oP1 oP2 oP3
                    clear c0 c1
                    obtain ⟨bO, hbO⟩ : ∃ bO, bO = (wr).heap.size := ⟨_, rfl⟩
                    rw [← hbO] at O0 ⊢
                    have HLO := Lib.hid hbO
                    clear hbO
                    generalize (wr).alloc (.cells #[.int .i64 ok, .int .i64 on] 30) = vo at *
                    refine (CA.out _).mono ?_; rintro e w1 ⟨rfl, hb⟩
                    have P1 := Lib.hid (P0.out.kept hb)
                    have O1 := Lib.hid (O0.out.kept hb)
                    have HB1 := Lib.hid (HB0.out.trans (hb.mono (Below.size HB0.out)))
                    clear hb HB0 P0 O0
                    have hal := (Below.refl (w1).heap.size (w1)).alloc (Nat.le_refl _) (.cells #[.int .i64 2, .int .i64 0, .int .i64 0, .string s1] 23)
                    replace P1 := Lib.hid (P1.out.kept hal)
                    replace O1 := Lib.hid (O1.out.kept hal)
                    have Q1 := Lib.hid (PBox.new (w1) (2) (0) (0) (s1))
                    replace HB1 := Lib.hid (HB1.out.trans (hal.mono (Below.size HB1.out)))
                    clear hal
                    obtain ⟨⟨oP0, oP1, oP2, oP3⟩, fP0, fP1, fP2, fP3⟩ := And.intro P1.out.cells P1.out.free
                    obtain ⟨oO0, oO1⟩ := O1.out.cells
                    go_upto_region 16 with fail
                    clear oP0 oP1 oP2 oP3 fP0 fP1 fP2 fP3
                    clear oO0 oO1
                    obtain ⟨bQ, hbQ⟩ : ∃ bQ, bQ = (w1).heap.size := ⟨_, rfl⟩
                    rw [← hbQ] at Q1 ⊢
                    have HLQ := Lib.hid hbQ
                    clear hbQ
                    generalize (w1).alloc (.cells #[.int .i64 2, .int .i64 0, .int .i64 0, .string s1] 23) = v1 at *
                    have P9 := Lib.hid (P1.out.set4 2 0 0 s1)
                    have HB9 := Lib.hid (below_set4 (u0 := .int .i64 2) (u1 := .int .i64 0) (u2 := .int .i64 0) (u3 := .string s1) HB1.out HLE.out)
                    generalize (((v1.setCell ⟨bP, 0, none⟩ (.int .i64 2)).setCell ⟨bP, 1, none⟩ (.int .i64 0)).setCell ⟨bP, 2, none⟩ (.int .i64 0)).setCell ⟨bP, 3, none⟩ (.string s1) = V9 at *
                    clear P1 O1 HB1 Q1 CA
                    rw [HS1.out] at P9
                    have FR := Lib.hid (free_any 2 0 0 (mk m1) (by rw [HM1.out.len]; omega))
                    rw [marksS_mk HM1.out] at FR
                    have PA := Lib.hid (pages_any 2 0 0 (mk m1) (by rw [HM1.out.len]; omega))
                    rw [marksS_mk HM1.out, HN1.out] at PA
                    have U0 := Lib.hid (used_any 2 0 0 0 (mk m1) (by rw [HM1.out.len]; omega) (by omega))
                    rw [marksS_mk HM1.out, HM1.out.used0.1] at U0
                    have U1 := Lib.hid (used_any 2 0 0 1 (mk m1) (by rw [HM1.out.len]; omega) (by omega))
                    rw [marksS_mk HM1.out, HM1.out.used0.2] at U1
                    have US := Lib.hid (fun (j : Int) (hj : j ≤ 1000) w => (show Calls Tryd.prog 17 #[pv 2 0 0 (mk m1), .int .i64 j] w fun e w' => e = .returned (.bool (usedS m1 j)) ∧ Below w.heap.size w w' from by have h := used_any 2 0 0 j (mk m1) (by rw [HM1.out.len]; omega) (by omega) w; rw [marksS_mk HM1.out] at h; exact h))
                    have HSUM := Lib.hid (show ((m1.count 1 : Nat) : Int) + ((m1.count 2 : Nat) : Int) = (N : Int) from by have h := count2_free HM1.out; have h' := HN1.out; omega)
                    unfold pv at FR PA U0 U1 US
                    obtain ⟨sx, hsx⟩ : ∃ s, s = str (mk m1) := ⟨_, rfl⟩
                    rw [← hsx] at FR PA U0 U1 US P9
                    have HSX := Lib.hid hsx
                    clear hsx
                    go_wp2_with fail
                    go_loopw [14, 15] (fun u v wr => ∃ j : Nat, j ≤ N + 2 ∧ v = .int .i64 ((j : Int) - 1) ∧ u = .int .i64 ((cnt m1 j : Nat) : Int) ∧ Hid (PBox wr bP 2 0 0 sx ∧ Below w.heap.size w wr)) (fun _ v _ => N + 2 - (intOf v + 1).toNat)
                    case atStart => exact ⟨0, Nat.zero_le _, rfl, by simp [cnt], P9.out, HB9.out⟩
                    case round =>
                      obtain ⟨j, hj, rfl, rfl, hq⟩ := hrel
                      have P0 := Lib.hid hq.out.1
                      have HB0 := Lib.hid hq.out.2
                      clear hq P9 HB9
                      obtain ⟨kk, hkk⟩ : ∃ kk : Int, kk = (j : Int) - 1 := ⟨_, rfl⟩
                      obtain ⟨cc, hcc⟩ : ∃ cc : Int, cc = ((cnt m1 j : Nat) : Int) := ⟨_, rfl⟩
                      have hcl := cnt_le m1 j
                      rw [HN1.out] at hcl
                      rw [← hkk, ← hcc]
                      have HKK := Lib.hid hkk
                      have HCC := Lib.hid hcc
                      by_cases hlt2 : j < N + 2
                      · have g0 : 0 ≤ cc := by omega
                        have g1 : kk ≤ (N : Int) := by omega
                        have g2 : decide (kk ≤ (N : Int)) = true := decide_eq_true g1
                        have g3 : IntKind.i64.wrap (kk + 1) = kk + 1 := IntWalk.i64_in _ (by omega)
                        have g4 : IntKind.i64.wrap (cc + 1) = cc + 1 := IntWalk.i64_in _ (by omega)
                        have hst := cnt_step m1 j
                        rw [← hkk] at hst
                        have UJ := Lib.hid (US.out kk (by omega))
                        cases hu : usedS m1 kk with
                        | true =>
                          rw [hu] at hst UJ
                          have hst2 : cc + 1 = ((cnt m1 (j + 1) : Nat) : Int) := by rw [hst, if_pos rfl]; omega
                          have HST2 := Lib.hid hst2
                          clear hu hst hst2 hkk hcc hcl US
                          obtain ⟨oP0, oP1, oP2, oP3⟩ := P0.out.cells
                          go_wp2_with fail
                          clear oP0 oP1 oP2 oP3
                          refine (UJ.out _).mono ?_; rintro e w1 ⟨rfl, hb⟩
                          have P1 := Lib.hid (P0.out.kept hb)
                          have HB1 := Lib.hid (HB0.out.trans (hb.mono (Below.size HB0.out)))
                          clear hb HB0 P0
                          go_wp2_with fail
                          go_roundw
                          case rel => exact ⟨j + 1, by omega, by rw [show ((j + 1 : Nat) : Int) - 1 = kk + 1 by have := HKK.out; omega], by rw [HST2.out], P1.out, HB1.out⟩
                          case measure => have hkk := HKK.out; simp [intOf]; omega
                        | false =>
                          rw [hu] at hst UJ
                          have hst2 : cc = ((cnt m1 (j + 1) : Nat) : Int) := by rw [hst, if_neg (by decide)]; omega
                          have HST2 := Lib.hid hst2
                          clear hu hst hst2 hkk hcc hcl US
                          obtain ⟨oP0, oP1, oP2, oP3⟩ := P0.out.cells
                          go_wp2_with fail
                          clear oP0 oP1 oP2 oP3
                          refine (UJ.out _).mono ?_; rintro e w1 ⟨rfl, hb⟩
                          have P1 := Lib.hid (P0.out.kept hb)
                          have HB1 := Lib.hid (HB0.out.trans (hb.mono (Below.size HB0.out)))
                          clear hb HB0 P0
                          go_wp2_with fail
                          go_roundw
                          case rel => exact ⟨j + 1, by omega, by rw [show ((j + 1 : Nat) : Int) - 1 = kk + 1 by have := HKK.out; omega], by rw [HST2.out], P1.out, HB1.out⟩
                          case measure => have hkk := HKK.out; simp [intOf]; omega
                      · have hj2 : j = N + 2 := by omega
                        have g1 : ¬ kk ≤ (N : Int) := by omega
                        have g2 : decide (kk ≤ (N : Int)) = false := decide_eq_false g1
                        have hca := cnt_all m1 (j := j) (by rw [HN1.out]; omega)
                        rw [hca] at hcc
                        have hsum : cc + ((m1.count 2 : Nat) : Int) = (N : Int) := by rw [hcc]; exact HSUM.out
                        generalize ((m1.count 2 : Nat) : Int) = c2 at *
                        have g3 : IntKind.i64.wrap (cc + c2) = (N : Int) := by rw [hsum]; exact IntWalk.i64_in _ (by omega)
                        clear hca hcc hsum US hkk hj2 hcl
                        obtain ⟨oP0, oP1, oP2, oP3⟩ := P0.out.cells
                        go_wp2_with fail
                        clear oP0 oP1 oP2 oP3
                        refine (FR.out _).mono ?_; rintro e w1 ⟨rfl, hb⟩
                        have P1 := Lib.hid (P0.out.kept hb)
                        have HB1 := Lib.hid (HB0.out.trans (hb.mono (Below.size HB0.out)))
                        clear hb HB0 P0
                        obtain ⟨oP0, oP1, oP2, oP3⟩ := P1.out.cells
                        go_wp2_with fail
                        clear oP0 oP1 oP2 oP3
                        refine (PA.out _).mono ?_; rintro e w2 ⟨rfl, hb⟩
                        have P2 := Lib.hid (P1.out.kept hb)
                        have HB2 := Lib.hid (HB1.out.trans (hb.mono (Below.size HB1.out)))
                        clear hb HB1 P1
                        obtain ⟨oP0, oP1, oP2, oP3⟩ := P2.out.cells
                        go_wp2_with fail
                        clear oP0 oP1 oP2 oP3
                        refine (U0.out _).mono ?_; rintro e w3 ⟨rfl, hb⟩
                        have P3 := Lib.hid (P2.out.kept hb)
                        have HB3 := Lib.hid (HB2.out.trans (hb.mono (Below.size HB2.out)))
                        clear hb HB2 P2
                        obtain ⟨oP0, oP1, oP2, oP3⟩ := P3.out.cells
                        go_wp2_with fail
                        clear oP0 oP1 oP2 oP3
                        refine (U1.out _).mono ?_; rintro e w4 ⟨rfl, hb⟩
                        have P4 := Lib.hid (P3.out.kept hb)
                        have HB4 := Lib.hid (HB3.out.trans (hb.mono (Below.size HB3.out)))
                        clear hb HB3 P3
                        go_wp2_with fail
                        go_roundw
                        case rel => exact ⟨k + 1, by omega, by go_num, m1, HM1.out, HN1.out, by rw [← HSX.out]; exact P4.out, HB4.out⟩
                        case measure => simp [intOf]; omega
                · as_aux_lemma =>
                    have HPL := Lib.hid P0.out.lt
                    have k2b : (ok == 1) = false := by simpa using hk1
                    have CA := Lib.hid (give_err HM.out HON.out hgv)
                    unfold pv at CA
                    obtain ⟨s, hs⟩ : ∃ s, s = str (mk m) := ⟨_, rfl⟩
                    rw [← hs] at CA P0
                    have HS := Lib.hid hs
                    clear hs
                    have hal := (Below.refl (wr).heap.size (wr)).alloc (Nat.le_refl _) (.cells #[.int .i64 ok, .int .i64 on] 30)
                    replace P0 := Lib.hid (P0.out.kept hal)
                    have O0 := Lib.hid (OBox.new (wr) (ok) (on))
                    replace HB0 := Lib.hid (HB0.out.trans (hal.mono (Below.size HB0.out)))
                    clear hal
                    obtain ⟨oP0, oP1, oP2, oP3⟩ := P0.out.cells
                    go_wp2_with fail
                    clear oP0 oP1 oP2 oP3
                    clear c0 c1
                    obtain ⟨bO, hbO⟩ : ∃ bO, bO = (wr).heap.size := ⟨_, rfl⟩
                    rw [← hbO] at O0 ⊢
                    have HLO := Lib.hid hbO
                    clear hbO
                    generalize (wr).alloc (.cells #[.int .i64 ok, .int .i64 on] 30) = vo at *
                    refine (CA.out _).mono ?_; rintro e w1 ⟨rfl, hb⟩
                    have P1 := Lib.hid (P0.out.kept hb)
                    have O1 := Lib.hid (O0.out.kept hb)
                    have HB1 := Lib.hid (HB0.out.trans (hb.mono (Below.size HB0.out)))
                    clear hb HB0 P0 O0
                    have hal := (Below.refl (w1).heap.size (w1)).alloc (Nat.le_refl _) (.cells #[.int .i64 0, .int .i64 0, .int .i64 0, .string ⟨#[]⟩] 23)
                    replace P1 := Lib.hid (P1.out.kept hal)
                    replace O1 := Lib.hid (O1.out.kept hal)
                    have Q1 := Lib.hid (PBox.new (w1) (0) (0) (0) (⟨#[]⟩))
                    replace HB1 := Lib.hid (HB1.out.trans (hal.mono (Below.size HB1.out)))
                    clear hal
                    obtain ⟨oP0, oP1, oP2, oP3⟩ := P1.out.cells
                    obtain ⟨oO0, oO1⟩ := O1.out.cells
                    go_upto_region 16 with fail
                    clear oP0 oP1 oP2 oP3 oO0 oO1
                    obtain ⟨bQ, hbQ⟩ : ∃ bQ, bQ = (w1).heap.size := ⟨_, rfl⟩
                    rw [← hbQ] at Q1 ⊢
                    have HLQ := Lib.hid hbQ
                    clear hbQ
                    generalize (w1).alloc (.cells #[.int .i64 0, .int .i64 0, .int .i64 0, .string ⟨#[]⟩] 23) = v1 at *
                    clear O1 Q1 CA
                    rw [HS.out] at P1
                    have FR := Lib.hid (free_any 2 0 0 (mk m) (by rw [HM.out.len]; omega))
                    rw [marksS_mk HM.out] at FR
                    have PA := Lib.hid (pages_any 2 0 0 (mk m) (by rw [HM.out.len]; omega))
                    rw [marksS_mk HM.out, HN.out] at PA
                    have U0 := Lib.hid (used_any 2 0 0 0 (mk m) (by rw [HM.out.len]; omega) (by omega))
                    rw [marksS_mk HM.out, HM.out.used0.1] at U0
                    have U1 := Lib.hid (used_any 2 0 0 1 (mk m) (by rw [HM.out.len]; omega) (by omega))
                    rw [marksS_mk HM.out, HM.out.used0.2] at U1
                    have US := Lib.hid (fun (j : Int) (hj : j ≤ 1000) w => (show Calls Tryd.prog 17 #[pv 2 0 0 (mk m), .int .i64 j] w fun e w' => e = .returned (.bool (usedS m j)) ∧ Below w.heap.size w w' from by have h := used_any 2 0 0 j (mk m) (by rw [HM.out.len]; omega) (by omega) w; rw [marksS_mk HM.out] at h; exact h))
                    have HSUM := Lib.hid (show ((m.count 1 : Nat) : Int) + ((m.count 2 : Nat) : Int) = (N : Int) from by have h := count2_free HM.out; have h' := HN.out; omega)
                    unfold pv at FR PA U0 U1 US
                    obtain ⟨sx, hsx⟩ : ∃ s, s = str (mk m) := ⟨_, rfl⟩
                    rw [← hsx] at FR PA U0 U1 US P1
                    have HSX := Lib.hid hsx
                    clear hsx
                    go_wp2_with fail
                    go_loopw [14, 15] (fun u v wr => ∃ j : Nat, j ≤ N + 2 ∧ v = .int .i64 ((j : Int) - 1) ∧ u = .int .i64 ((cnt m j : Nat) : Int) ∧ Hid (PBox wr bP 2 0 0 sx ∧ Below w.heap.size w wr)) (fun _ v _ => N + 2 - (intOf v + 1).toNat)
                    case atStart => exact ⟨0, Nat.zero_le _, rfl, by simp [cnt], P1.out, HB1.out⟩
                    case round =>
                      obtain ⟨j, hj, rfl, rfl, hq⟩ := hrel
                      have P0 := Lib.hid hq.out.1
                      have HB0 := Lib.hid hq.out.2
                      clear hq P1 HB1
                      obtain ⟨kk, hkk⟩ : ∃ kk : Int, kk = (j : Int) - 1 := ⟨_, rfl⟩
                      obtain ⟨cc, hcc⟩ : ∃ cc : Int, cc = ((cnt m j : Nat) : Int) := ⟨_, rfl⟩
                      have hcl := cnt_le m j
                      rw [HN.out] at hcl
                      rw [← hkk, ← hcc]
                      have HKK := Lib.hid hkk
                      have HCC := Lib.hid hcc
                      by_cases hlt2 : j < N + 2
                      · have g0 : 0 ≤ cc := by omega
                        have g1 : kk ≤ (N : Int) := by omega
                        have g2 : decide (kk ≤ (N : Int)) = true := decide_eq_true g1
                        have g3 : IntKind.i64.wrap (kk + 1) = kk + 1 := IntWalk.i64_in _ (by omega)
                        have g4 : IntKind.i64.wrap (cc + 1) = cc + 1 := IntWalk.i64_in _ (by omega)
                        have hst := cnt_step m j
                        rw [← hkk] at hst
                        have UJ := Lib.hid (US.out kk (by omega))
                        cases hu : usedS m kk with
                        | true =>
                          rw [hu] at hst UJ
                          have hst2 : cc + 1 = ((cnt m (j + 1) : Nat) : Int) := by rw [hst, if_pos rfl]; omega
                          have HST2 := Lib.hid hst2
                          clear hu hst hst2 hkk hcc hcl US
                          obtain ⟨oP0, oP1, oP2, oP3⟩ := P0.out.cells
                          go_wp2_with fail
                          clear oP0 oP1 oP2 oP3
                          refine (UJ.out _).mono ?_; rintro e w1 ⟨rfl, hb⟩
                          have P1 := Lib.hid (P0.out.kept hb)
                          have HB1 := Lib.hid (HB0.out.trans (hb.mono (Below.size HB0.out)))
                          clear hb HB0 P0
                          go_wp2_with fail
                          go_roundw
                          case rel => exact ⟨j + 1, by omega, by rw [show ((j + 1 : Nat) : Int) - 1 = kk + 1 by have := HKK.out; omega], by rw [HST2.out], P1.out, HB1.out⟩
                          case measure => have hkk := HKK.out; simp [intOf]; omega
                        | false =>
                          rw [hu] at hst UJ
                          have hst2 : cc = ((cnt m (j + 1) : Nat) : Int) := by rw [hst, if_neg (by decide)]; omega
                          have HST2 := Lib.hid hst2
                          clear hu hst hst2 hkk hcc hcl US
                          obtain ⟨oP0, oP1, oP2, oP3⟩ := P0.out.cells
                          go_wp2_with fail
                          clear oP0 oP1 oP2 oP3
                          refine (UJ.out _).mono ?_; rintro e w1 ⟨rfl, hb⟩
                          have P1 := Lib.hid (P0.out.kept hb)
                          have HB1 := Lib.hid (HB0.out.trans (hb.mono (Below.size HB0.out)))
                          clear hb HB0 P0
                          go_wp2_with fail
                          go_roundw
                          case rel => exact ⟨j + 1, by omega, by rw [show ((j + 1 : Nat) : Int) - 1 = kk + 1 by have := HKK.out; omega], by rw [HST2.out], P1.out, HB1.out⟩
                          case measure => have hkk := HKK.out; simp [intOf]; omega
                      · have hj2 : j = N + 2 := by omega
                        have g1 : ¬ kk ≤ (N : Int) := by omega
                        have g2 : decide (kk ≤ (N : Int)) = false := decide_eq_false g1
                        have hca := cnt_all m (j := j) (by rw [HN.out]; omega)
                        rw [hca] at hcc
                        have hsum : cc + ((m.count 2 : Nat) : Int) = (N : Int) := by rw [hcc]; exact HSUM.out
                        generalize ((m.count 2 : Nat) : Int) = c2 at *
                        have g3 : IntKind.i64.wrap (cc + c2) = (N : Int) := by rw [hsum]; exact IntWalk.i64_in _ (by omega)
                        clear hca hcc hsum US hkk hj2 hcl
                        obtain ⟨oP0, oP1, oP2, oP3⟩ := P0.out.cells
                        go_wp2_with fail
                        clear oP0 oP1 oP2 oP3
                        refine (FR.out _).mono ?_; rintro e w1 ⟨rfl, hb⟩
                        have P1 := Lib.hid (P0.out.kept hb)
                        have HB1 := Lib.hid (HB0.out.trans (hb.mono (Below.size HB0.out)))
                        clear hb HB0 P0
                        obtain ⟨oP0, oP1, oP2, oP3⟩ := P1.out.cells
                        go_wp2_with fail
                        clear oP0 oP1 oP2 oP3
                        refine (PA.out _).mono ?_; rintro e w2 ⟨rfl, hb⟩
                        have P2 := Lib.hid (P1.out.kept hb)
                        have HB2 := Lib.hid (HB1.out.trans (hb.mono (Below.size HB1.out)))
                        clear hb HB1 P1
                        obtain ⟨oP0, oP1, oP2, oP3⟩ := P2.out.cells
                        go_wp2_with fail
                        clear oP0 oP1 oP2 oP3
                        refine (U0.out _).mono ?_; rintro e w3 ⟨rfl, hb⟩
                        have P3 := Lib.hid (P2.out.kept hb)
                        have HB3 := Lib.hid (HB2.out.trans (hb.mono (Below.size HB2.out)))
                        clear hb HB2 P2
                        obtain ⟨oP0, oP1, oP2, oP3⟩ := P3.out.cells
                        go_wp2_with fail
                        clear oP0 oP1 oP2 oP3
                        refine (U1.out _).mono ?_; rintro e w4 ⟨rfl, hb⟩
                        have P4 := Lib.hid (P3.out.kept hb)
                        have HB4 := Lib.hid (HB3.out.trans (hb.mono (Below.size HB3.out)))
                        clear hb HB3 P3
                        go_wp2_with fail
                        go_roundw
                        case rel => exact ⟨k + 1, by omega, by go_num, m, HM.out, HN.out, by rw [← HSX.out]; exact P4.out, HB4.out⟩
                        case measure => simp [intOf]; omega
          · obtain rfl : n0 = k := by omega
            have q1 : ¬ (n0 : Int) < (n0 : Int) := by omega
            go_wp2_with fail
            go_ret
            exact ⟨rfl, HB0.out⟩

/-! The row's step. -/
set_option maxRecDepth 100000 in
theorem lifted (os : Os) (started : os.Started) (H : Type) (enc : TypeId × Value → H) :
    ReturnsInHanded {} Tryd.checked os 6 .any (fun w args => (Rows.spaceCountsSpec.pre enc Tryd.prog Tryd.f6 [] false w args ∧ laidMetH Tryd.prog laidL w) ∧ sizedMet enc Tryd.prog Tryd.f6 (OpenSpec.ofChange Rows.spaceCountsSpec) false w args)
      (Rows.spaceCountsSpec.post enc Tryd.prog Tryd.f6 false true false false) := by
  refine returnsInHanded_of_change_and (C := Tryd.checked) (X := fun w _ => laidMetH Tryd.prog laidL w) (fun _ _ _ hh h => h.of_heap hh) own started (by kernel_rfl) Tryd.func6
    (ChangeSpec.witness_shaped (enc := enc) (C := Tryd.checked) (os := os) (X := fun w _ => laidMetH Tryd.prog laidL w) false (World.laidAll Tryd.prog os laidL) #[.int .i64 0, .slice none 0 0] 8 (World.laidAll_os _ _ _)
      (World.shaped_of_ZipB (by kernel_rfl) (by kernel_rfl)) (by kernel_rfl) (by kernel_rfl) (by kernel_rfl)
      (by rw [MakeChecks.laidMetH_plain _ _ _ (by kernel_rfl)]; exact laidMet_laidAll _ (by kernel_rfl) (by kernel_rfl))) ?_
  intro W base args ds gs before hval0 hW _ _ hL _
  have hval : ∀ (j : Nat) t v, Tryd.f6.params[j]? = some t → args[j]? = some v → Value.okWide Tryd.prog W .any base t v := hval0
  have hW' := hW
  obtain ⟨p, q, hA0, hV, rfl, hfz, hnd⟩ := hW
  have hA : DataW.TrodAll enc Tryd.prog W 0 (fun _ => true) true Tryd.f6.params.toList args.toList ds p := hA0
  rw [Tryd.params6] at hA hval
  obtain ⟨v0, vs0, d0, ds0, p0, q0, hargs, rfl, rfl, h0, r0⟩ := trodAll_cons hA
  obtain ⟨v1, vs1, d1, ds1, p1, q1, rfl, rfl, rfl, h1, r1⟩ := trodAll_cons r0
  obtain ⟨rfl, rfl, rfl⟩ := trodAll_nil r1
  obtain rfl : args = #[v0, v1] := by cases args; simp_all
  obtain ⟨rfl, rfl⟩ := trodVars_none hV
  obtain ⟨a0, rfl, rfl, rfl, w0⟩ := open_int Tryd.underlying3 (hval 0 3 v0 rfl rfl) h0
  obtain ⟨A1, n1, c1, rfl⟩ := okWide_slice Tryd.underlying24 (hval 1 24 v1 rfl rfl)
  have k1 := h1
  have lt1 : ∀ x ∈ p1, x.block < W.heap.size := by obtain ⟨m, hm⟩ := k1; exact DataW.trod_lt m _ _ _ hm
  obtain ⟨l1, w1, e1, f1⟩ := (by obtain ⟨fuel, hf⟩ := h1; exact ops_read hf (fun _ => rfl) : ∃ l, OpsL W A1 n1 l ∧ n1 ≤ c1 ∧ c1 ≤ maxLen)
  clear hA0 hval0
  refine (walk a0 A1 n1 c1 l1 W w0 w1 (Nat.le_trans e1 f1)).mono fun e W' ⟨he, bel⟩ => ?_
  subst he
  exact ⟨_, rfl, _, _, _, [], _, [], hW', trodAll_mk1 (shut_bool Tryd.underlying4 _), (trodAll_cons_mk (shut_int Tryd.underlying3 w0) (trodAll_cons_mk (Below.trod laidOut (by kernel_rfl) (of_decide_eq_true (by kernel_rfl)) k1 bel lt1) trodAll_mk0)), rfl, bel.frame _, fun h => by cases h⟩

/-- The row's statement. -/
theorem over : Rows.SpaceCountsSaid :=
  OpenClaim.holds_of_wide 6 Tryd.f6 rfl rfl rfl rfl rfl rfl rfl ⟨rfl, rfl, rfl, rfl, rfl⟩ rfl rfl rfl rfl rfl (by kernel_rfl) Tryd.func6 (by kernel_rfl)
    (of_decide_eq_true (by kernel_rfl)) (by unfold Func.isWrapper; first | (rw [if_pos (by decide +kernel)]; kernel_rfl) | (rw [if_neg (by decide +kernel)]; exact ⟨rfl, rfl⟩))
    (fun os started H enc _ => lifted os started H enc)

/-- The card. -/
theorem proved : Rows.SpaceCountsCardSaid :=
  Claim7.holds_tied_plain_at .later [] [.data, .pinned] true Rows.spaceCountsCard.stood.harness false
    over (fun _ h => by cases h) (by kernel_rfl) (fun _ h => by cases h) spaceCounts_row_tie rfl ⟨rfl, rfl⟩ (by kernel_rfl) rfl
    (fun f fn hf hfn => by
      obtain rfl : f = 6 := Option.some.inj ((show Tryd.prog.funcNamed "honeycomb/honeycomblaw9.SpaceCounts" = some 6 by kernel_rfl).symm.trans hf) |>.symm
      obtain rfl : fn = Tryd.f6 := (Option.some.inj (Tryd.func6.symm.trans hfn)).symm
      exact ⟨by kernel_rfl, fun j t ht => by
        rw [Tryd.params6] at ht
        have hm : t ∈ [3, 24] := by simpa using Array.mem_of_getElem? ht
        have hall : ([3, 24].all fun u => !Tryd.prog.wantsStandIn u) = true := by kernel_rfl
        exact (show Tryd.prog.wantsStandIn t = false by simpa using List.all_eq_true.1 hall t hm)⟩)
    (by kernel_rfl)
end Go.Proofs.YtkbbpdpalfpchaaDoor.spaceCounts
