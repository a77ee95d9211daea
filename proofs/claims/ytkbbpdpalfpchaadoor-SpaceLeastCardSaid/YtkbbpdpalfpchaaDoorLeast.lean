/- The least free page is taken, whichever were given back. -/
import Derived.Test.YtkbbpdpalfpchaaDoorRows
import Derived.Test.YtkbbpdpalfpchaaDoorCards
import Derived.Test.YtkbbpdpalfpchaaDoorTie
import Derived.Test.YtkbbpdpalfpchaaDoorLaws
import Derived.LoopTactic
import Derived.StillTailTactics
import Derived.BigQuiet
import Derived.Deep.DeepCutAuto
import Derived.Deep.RegionLaw
import Derived.Deep.CutBlock
import Derived.Lib.Hide
import Derived.WalkKit
import Derived.ProofKit
import Derived.OpenShut
import Derived.ChangeOld
import Derived.Below
import Derived.Carry
import Derived.LaidMore
import Derived.Lay
import Derived.SevenTiedAt
namespace Go.Proofs.YtkbbpdpalfpchaaDoor.spaceLeast
open Go.ChangeShapes Go.WideShapes Go.ChangeAt Go.RowKit
set_option linter.unusedVariables false
set_option linter.unusedSimpArgs false

set_option maxRecDepth 100000 in
set_option maxHeartbeats 16000000 in
theorem walk (a0 : Int) (A1 : Option Addr) (n0 c1 : Nat) (l1 : List Int) (w : World) (w0 : (Lit.int .i64 a0).wf = true) (w1 : Ints w A1 n0 l1) (e1 : n0 ≤ maxLen) :
    Calls Tryd.prog 5 #[.int .i64 a0, .slice A1 n0 c1] w fun e w' => e = .returned (.bool true) ∧ Below w.heap.size w w' := by
  have AL := Lib.hid alive_yes
  by_cases c0 : a0 < 8
  · as_aux_lemma =>
      have d0 : decide (a0 < 8) = true := decide_eq_true c0
      have HB0 := Lib.hid (Below.refl w.heap.size w)
      go_enter Tryd.func5, Tryd.ntmps5
      go_wp2_with fail
      refine (AL.out _).mono ?_; rintro e w1 ⟨rfl, hb⟩
      have HB1 := Lib.hid (HB0.out.trans (hb.mono (Below.size HB0.out)))
      clear hb HB0 
      go_wp2_with fail
      go_ret
      exact ⟨rfl, HB1.out⟩
  · have d0 : decide (a0 < 8) = false := decide_eq_false c0
    by_cases c1 : 64 < a0
    · as_aux_lemma =>
        have d1 : decide (64 < a0) = true := decide_eq_true c1
        have d1b : decide (a0 > 64) = true := decide_eq_true c1
        have HB0 := Lib.hid (Below.refl w.heap.size w)
        go_enter Tryd.func5, Tryd.ntmps5
        go_wp2_with fail
        refine (AL.out _).mono ?_; rintro e w1 ⟨rfl, hb⟩
        have HB1 := Lib.hid (HB0.out.trans (hb.mono (Below.size HB0.out)))
        clear hb HB0 
        go_wp2_with fail
        go_ret
        exact ⟨rfl, HB1.out⟩
    · have d1 : decide (64 < a0) = false := decide_eq_false c1
      have d1b : decide (a0 > 64) = false := decide_eq_false c1
      by_cases c2 : 60 < (n0 : Int)
      · as_aux_lemma =>
          have d2 : decide (60 < (n0 : Int)) = true := decide_eq_true c2
          have HB0 := Lib.hid (Below.refl w.heap.size w)
          go_enter Tryd.func5, Tryd.ntmps5
          go_wp2_with fail
          refine (AL.out _).mono ?_; rintro e w1 ⟨rfl, hb⟩
          have HB1 := Lib.hid (HB0.out.trans (hb.mono (Below.size HB0.out)))
          clear hb HB0 
          go_wp2_with fail
          go_ret
          exact ⟨rfl, HB1.out⟩
      · have d2 : decide (60 < (n0 : Int)) = false := decide_eq_false c2
        obtain ⟨N, rfl⟩ : ∃ N : Nat, a0 = (N : Int) := ⟨a0.toNat, by omega⟩
        have h8 : 8 ≤ N := by omega
        have h64 : N ≤ 64 := by omega
        have k8 : ¬ (N : Int) < 8 := by omega
        have k64 : ¬ 64 < (N : Int) := by omega
        have NE := Lib.hid (new_yes N h8 h64)
        rw [newS_fill] at NE
        have hn0 : n0 ≤ 60 := by omega
        have HP := Lib.hid (fun (i : Nat) (hi : i < n0) (w' : World) (hb : Below w.heap.size w w') => w1.at hi hb)
        unfold pv at NE
        clear w1
        have HB0 := Lib.hid (Below.refl w.heap.size w)
        go_enter Tryd.func5, Tryd.ntmps5
        go_wp2_with fail
        refine (AL.out _).mono ?_; rintro e w1 ⟨rfl, hb⟩
        have HB1 := Lib.hid (HB0.out.trans (hb.mono (Below.size HB0.out)))
        clear hb HB0 
        go_wp2_with fail
        clear AL
        refine (NE.out _).mono ?_; rintro e w2 ⟨rfl, hb⟩
        have HB2 := Lib.hid (HB1.out.trans (hb.mono (Below.size HB1.out)))
        clear hb HB1 
        clear NE
        have HSZ := Lib.hid HB2.out.size
        have hal := (Below.refl (w2).heap.size (w2)).alloc (Nat.le_refl _) (.cells #[.int .i64 2, .int .i64 0, .int .i64 0, .string (str (mk (fillS N 2)))] 23)
        have P2 := Lib.hid (PBox.new (w2) (2) (0) (0) ((str (mk (fillS N 2)))))
        replace HB2 := Lib.hid (HB2.out.trans (hal.mono (Below.size HB2.out)))
        clear hal
        go_wp2_with fail
        obtain ⟨bP, hbP⟩ : ∃ bP, bP = (w2).heap.size := ⟨_, rfl⟩
        rw [← hbP] at P2 ⊢
        have HLP := Lib.hid hbP
        clear hbP
        generalize (w2).alloc (.cells #[.int .i64 2, .int .i64 0, .int .i64 0, .string (str (mk (fillS N 2)))] 23) = v2 at *
        have HLE := Lib.hid (show w.heap.size ≤ bP by rw [HLP.out]; exact HSZ.out)
        clear HLP HSZ
        go_loopw [7] (fun x wr => ∃ k : Nat, 2 ≤ k ∧ k ≤ N ∧ x = .int .i64 k ∧ Hid (PBox wr bP 2 0 0 (str (mk (fillS N k))) ∧ Below w.heap.size w wr)) (fun x _ => N - (intOf x).toNat)
        case atStart => exact ⟨2, by omega, by omega, rfl, P2.out, HB2.out⟩
        case round =>
          obtain ⟨k, hk2, hkN, rfl, hq⟩ := hrel
          have P0 := Lib.hid hq.out.1
          have HB0 := Lib.hid hq.out.2
          clear hq P2 HB2
          have k0 : (0 : Int) ≤ (k : Int) := by omega
          by_cases hlt : k < N
          · as_aux_lemma =>
              have k1 : (k : Int) < (N : Int) := by omega
              have e1 : IntKind.i64.wrap ((k : Int) + 1) = (k : Int) + 1 := IntWalk.i64_in _ (by omega)
              have TK := Lib.hid (take_some 0 0 (fillS N k) (fillS_good h8 h64 hk2 hkN) (by rw [fillS_fst hlt, fillS_length hkN]; exact hlt))
              rw [fillS_fst hlt, fillS_set1 hlt] at TK
              unfold pv at TK
              obtain ⟨s1, hs1⟩ : ∃ s, s = str (mk (fillS N k)) := ⟨_, rfl⟩
              obtain ⟨s2, hs2⟩ : ∃ s, s = str (mk (fillS N (k + 1))) := ⟨_, rfl⟩
              rw [← hs1, ← hs2] at TK
              rw [← hs1] at P0
              have HS2 := Lib.hid hs2
              clear hs1 hs2
              obtain ⟨oP0, oP1, oP2, oP3⟩ := P0.out.cells
              go_wp2_with fail
              clear oP0 oP1 oP2 oP3
              refine (TK.out _).mono ?_; rintro e w1 ⟨rfl, hb⟩
              have P1 := Lib.hid (P0.out.kept hb)
              have HB1 := Lib.hid (HB0.out.trans (hb.mono (Below.size HB0.out)))
              clear hb HB0 P0
              obtain ⟨⟨oP0, oP1, oP2, oP3⟩, fP0, fP1, fP2, fP3⟩ := And.intro P1.out.cells P1.out.free
              go_wp2_with fail
              go_roundw
              case rel => exact ⟨k + 1, by omega, by omega, by go_num, by rw [← HS2.out]; exact P1.out.set4 _ _ _ _, below_set4 HB1.out HLE.out⟩
              case measure => simp [intOf]; omega
          · obtain rfl : N = k := by omega
            have k1 : ¬ (N : Int) < (N : Int) := by omega
            have HST := Lib.hid (show ∃ f : Nat, f = N ∧ ∃ m, Good m ∧ m.length = N ∧ fst m = f ∧ PBox wr bP 2 0 0 (str (mk m)) ∧ Below w.heap.size w wr from ⟨N, rfl, fillS N N, fillS_good h8 h64 hk2 hkN, fillS_length hkN, by rw [fillS_full, fillS_length hkN], P0.out, HB0.out⟩)
            obtain ⟨o0, o1, o2, o3⟩ := P0.out.cells
            clear P0 HB0
            go_wp2_with fail
            clear o0 o1 o2 o3
            go_loopw [8, 54] (fun u v wr => ∃ k f : Nat, k ≤ n0 ∧ u = .int .i64 f ∧ v = .int .i64 k ∧ Hid (∃ m, Good m ∧ m.length = N ∧ fst m = f ∧ PBox wr bP 2 0 0 (str (mk m)) ∧ Below w.heap.size w wr)) (fun _ v _ => n0 - (intOf v).toNat)
            case atStart =>
              obtain ⟨f, hf, hst⟩ := HST.out
              subst hf
              exact ⟨0, f, Nat.zero_le _, rfl, rfl, hst⟩
            case round =>
              obtain ⟨k, f, hk, rfl, rfl, hq⟩ := hrel
              obtain ⟨m, hm1, hm2, hm3, hm4, hm5⟩ := hq.out
              have HM := Lib.hid hm1
              have HN := Lib.hid hm2
              have HF := Lib.hid hm3
              have P0 := Lib.hid hm4
              have HB0 := Lib.hid hm5
              have f0 : (0 : Int) ≤ (f : Int) := by omega
              have hfN : f ≤ N := by have := fst_le m; omega
              clear hq hm1 hm2 hm3 hm4 hm5 HST
              have q0 : (0 : Int) ≤ (k : Int) := by omega
              by_cases hlt : k < n0
              · as_aux_lemma =>
                  have q1 : (k : Int) < (n0 : Int) := by omega
                  have e1 : IntKind.i64.wrap ((k : Int) + 1) = (k : Int) + 1 := IntWalk.i64_in _ (by omega)
                  obtain ⟨b, off, rfl, hbk, c0, c1, c2⟩ := HP.out k hlt wr HB0.out
                  generalize l1.getD k 0 = g at *
                  clear hbk
                  have r1 : IntKind.i64.wrap ((N : Int) - 2) = (N : Int) - 2 := IntWalk.i64_in _ (by omega)
                  obtain ⟨D, hD⟩ : ∃ D : Int, D = (N : Int) - 2 := ⟨_, rfl⟩
                  have hD6 : 6 ≤ D ∧ D ≤ 62 := by omega
                  have r2 : -D < g.tmod D ∧ g.tmod D < D := by
                    have h1 := Int.tmod_lt_of_pos g (show 0 < D by omega)
                    have h2 := Int.tmod_lt_of_pos (-g) (show 0 < D by omega)
                    rw [Int.neg_tmod] at h2
                    omega
                  obtain ⟨R, hR⟩ : ∃ R, R = g.tmod D := ⟨_, rfl⟩
                  rw [← hR] at r2
                  have w64 : ∀ n : Int, -9223372036854775808 ≤ n → n ≤ 9223372036854775807 → wrap64 n = n := fun n h1 h2 => IntWalk.wrap64_in n ⟨h1, h2⟩
                  have r3 := w64 (R + (N : Int)) (by omega) (by omega)
                  have r4 := w64 (R + (N : Int) - 2) (by omega) (by omega)
                  have r5 : 0 ≤ (R + (N : Int) - 2).tmod D ∧ (R + (N : Int) - 2).tmod D < D := ⟨Int.tmod_nonneg _ (by omega), Int.tmod_lt_of_pos _ (by omega)⟩
                  obtain ⟨R2, hR2⟩ : ∃ R2, R2 = (R + (N : Int) - 2).tmod D := ⟨_, rfl⟩
                  rw [← hR2] at r5
                  have r6 := w64 (2 + R2) (by omega) (by omega)
                  obtain ⟨K, hK⟩ : ∃ K : Nat, 2 + R2 = (K : Int) := ⟨(2 + R2).toNat, by omega⟩
                  have hK2 : 2 ≤ K := by omega
                  have hKN : K < N := by omega
                  have HVAL := Lib.hid (show wrap64 (2 + (wrap64 (wrap64 (g.tmod ((N : Int) - 2) + (N : Int)) - 2)).tmod ((N : Int) - 2)) = (K : Int) by rw [← hD, ← hR, r3, r4, ← hR2, r6, hK])
                  clear hR hR2 hK r2 r5 hD6 hD r3 r4 r6 w64
                  by_cases hu : usedS m (K : Int) = true
                  · as_aux_lemma =>
                      have US := Lib.hid (used_any 2 0 0 (K : Int) (mk m) (by rw [HM.out.len]; omega) (by omega))
                      rw [marksS_mk HM.out] at US
                      rw [hu] at US
                      have GV := Lib.hid (give_used 0 0 K m HM.out hK2 hu)
                      have HM1 := Lib.hid (HM.out.set (n := K) (x := 2) hK2 (.inr rfl))
                      have HN1 := Lib.hid (show (m.set K 2).length = N by rw [List.length_set]; exact HN.out)
                      have HF1 := Lib.hid (show fst (m.set K 2) = min f K by rw [fst_set2 hu, HF.out])
                      obtain ⟨m1, hm1⟩ : ∃ m1, m1 = m.set K 2 := ⟨_, rfl⟩
                      rw [← hm1] at GV HM1 HN1 HF1
                      obtain ⟨s1, hs1⟩ : ∃ s, s = str (mk m1) := ⟨_, rfl⟩
                      have HS1 := Lib.hid hs1
                      unfold pv at GV US
                      rw [← hs1] at GV
                      have HMN := Lib.hid (show min (f : Int) (K : Int) = ((min f K : Nat) : Int) by omega)
                      clear hm1 hs1 hu
                      obtain ⟨s, hs⟩ : ∃ s, s = str (mk m) := ⟨_, rfl⟩
                      rw [← hs] at GV US P0
                      have HS := Lib.hid hs
                      clear hs
                      obtain ⟨oP0, oP1, oP2, oP3⟩ := P0.out.cells
                      go_upto_region 14 with fail
                      go_wp2_with fail
                      rw [HVAL.out]
                      clear oP0 oP1 oP2 oP3
                      clear c0
                      refine (GV.out _).mono ?_; rintro e w1 ⟨rfl, hb⟩
                      have P1 := Lib.hid (P0.out.kept hb)
                      have HB1 := Lib.hid (HB0.out.trans (hb.mono (Below.size HB0.out)))
                      clear hb HB0 P0
                      have hal := (Below.refl (w1).heap.size (w1)).alloc (Nat.le_refl _) (.cells #[.int .i64 2, .int .i64 0, .int .i64 0, .string s1] 23)
                      replace P1 := Lib.hid (P1.out.kept hal)
                      have Q1 := Lib.hid (PBox.new (w1) (2) (0) (0) (s1))
                      replace HB1 := Lib.hid (HB1.out.trans (hal.mono (Below.size HB1.out)))
                      clear hal
                      obtain ⟨oP0, oP1, oP2, oP3⟩ := P1.out.cells
                      go_wp2_with fail
                      clear oP0 oP1 oP2 oP3
                      obtain ⟨bQ, hbQ⟩ : ∃ bQ, bQ = (w1).heap.size := ⟨_, rfl⟩
                      rw [← hbQ] at Q1 ⊢
                      have HLQ := Lib.hid hbQ
                      clear hbQ
                      generalize (w1).alloc (.cells #[.int .i64 2, .int .i64 0, .int .i64 0, .string s1] 23) = v1 at *
                      refine (US.out _).mono ?_; rintro e w2 ⟨rfl, hb⟩
                      have P2 := Lib.hid (P1.out.kept hb)
                      have Q2 := Lib.hid (Q1.out.kept hb)
                      have HB2 := Lib.hid (HB1.out.trans (hb.mono (Below.size HB1.out)))
                      clear hb HB1 P1 Q1
                      obtain ⟨⟨oP0, oP1, oP2, oP3⟩, fP0, fP1, fP2, fP3⟩ := And.intro P2.out.cells P2.out.free
                      obtain ⟨oQ0, oQ1, oQ2, oQ3⟩ := Q2.out.cells
                      go_wp2_with fail
                      go_roundw
                      case rel => exact ⟨k + 1, min f K, by omega, by rw [← HMN.out], by go_num, m1, HM1.out, HN1.out, HF1.out, by rw [← HS1.out]; exact P2.out.set4 _ _ _ _, below_set4 HB2.out HLE.out⟩
                      case measure => simp [intOf]; omega
                  · as_aux_lemma =>
                      have US := Lib.hid (used_any 2 0 0 (K : Int) (mk m) (by rw [HM.out.len]; omega) (by omega))
                      rw [marksS_mk HM.out] at US
                      rw [show usedS m (K : Int) = false by simpa using hu] at US
                      have GV := Lib.hid (give_err HM.out (n := (K : Int)) (by omega) (fun h => hu h.2))
                      unfold pv at GV US
                      clear hu
                      obtain ⟨s, hs⟩ : ∃ s, s = str (mk m) := ⟨_, rfl⟩
                      rw [← hs] at GV US P0
                      have HS := Lib.hid hs
                      clear hs
                      obtain ⟨oP0, oP1, oP2, oP3⟩ := P0.out.cells
                      go_upto_region 14 with fail
                      go_wp2_with fail
                      rw [HVAL.out]
                      clear oP0 oP1 oP2 oP3
                      clear c0
                      refine (GV.out _).mono ?_; rintro e w1 ⟨rfl, hb⟩
                      have P1 := Lib.hid (P0.out.kept hb)
                      have HB1 := Lib.hid (HB0.out.trans (hb.mono (Below.size HB0.out)))
                      clear hb HB0 P0
                      have hal := (Below.refl (w1).heap.size (w1)).alloc (Nat.le_refl _) (.cells #[.int .i64 0, .int .i64 0, .int .i64 0, .string ⟨#[]⟩] 23)
                      replace P1 := Lib.hid (P1.out.kept hal)
                      have Q1 := Lib.hid (PBox.new (w1) (0) (0) (0) (⟨#[]⟩))
                      replace HB1 := Lib.hid (HB1.out.trans (hal.mono (Below.size HB1.out)))
                      clear hal
                      obtain ⟨oP0, oP1, oP2, oP3⟩ := P1.out.cells
                      go_wp2_with fail
                      clear oP0 oP1 oP2 oP3
                      obtain ⟨bQ, hbQ⟩ : ∃ bQ, bQ = (w1).heap.size := ⟨_, rfl⟩
                      rw [← hbQ] at Q1 ⊢
                      have HLQ := Lib.hid hbQ
                      clear hbQ
                      generalize (w1).alloc (.cells #[.int .i64 0, .int .i64 0, .int .i64 0, .string ⟨#[]⟩] 23) = v1 at *
                      refine (US.out _).mono ?_; rintro e w2 ⟨rfl, hb⟩
                      have P2 := Lib.hid (P1.out.kept hb)
                      have Q2 := Lib.hid (Q1.out.kept hb)
                      have HB2 := Lib.hid (HB1.out.trans (hb.mono (Below.size HB1.out)))
                      clear hb HB1 P1 Q1
                      obtain ⟨oP0, oP1, oP2, oP3⟩ := P2.out.cells
                      go_wp2_with fail
                      go_roundw
                      case rel => exact ⟨k + 1, f, by omega, rfl, by go_num, m, HM.out, HN.out, HF.out, by rw [← HS.out]; exact P2.out, HB2.out⟩
                      case measure => simp [intOf]; omega
              · obtain rfl : n0 = k := by omega
                have q1 : ¬ (n0 : Int) < (n0 : Int) := by omega
                by_cases hfn : f < N
                · as_aux_lemma =>
                    have TK := Lib.hid (take_some 0 0 m HM.out (by rw [HF.out, HN.out]; exact hfn))
                    rw [HF.out] at TK
                    unfold pv at TK
                    have z1 : ((f : Int) == (N : Int)) = false := by rw [beq_eq_false_iff_ne]; omega
                    obtain ⟨s, hs⟩ : ∃ s, s = str (mk m) := ⟨_, rfl⟩
                    rw [← hs] at TK P0
                    generalize str (mk (m.set f 1)) = s1 at *
                    clear hs
                    obtain ⟨oP0, oP1, oP2, oP3⟩ := P0.out.cells
                    go_wp2_with fail
                    clear oP0 oP1 oP2 oP3
                    refine (TK.out _).mono ?_; rintro e w1 ⟨rfl, hb⟩
                    have P1 := Lib.hid (P0.out.kept hb)
                    have HB1 := Lib.hid (HB0.out.trans (hb.mono (Below.size HB0.out)))
                    clear hb HB0 P0
                    have hal := (Below.refl (w1).heap.size (w1)).alloc (Nat.le_refl _) (.cells #[.int .i64 2, .int .i64 0, .int .i64 0, .string s1] 23)
                    replace P1 := Lib.hid (P1.out.kept hal)
                    have Q1 := Lib.hid (PBox.new (w1) (2) (0) (0) (s1))
                    replace HB1 := Lib.hid (HB1.out.trans (hal.mono (Below.size HB1.out)))
                    clear hal
                    go_wp2_with fail
                    go_ret
                    exact ⟨rfl, HB1.out⟩
                · as_aux_lemma =>
                    have hfe : f = N := by omega
                    have TK := Lib.hid (take_full 0 0 m HM.out (by rw [HF.out, HN.out]; exact hfe))
                    rw [show pv 0 0 0 [] = .agg #[.int .i64 0, .int .i64 0, .int .i64 0, .string ⟨#[]⟩] from rfl] at TK
                    unfold pv at TK
                    have z1 : ((f : Int) == (N : Int)) = true := by rw [hfe]; simp
                    obtain ⟨s, hs⟩ : ∃ s, s = str (mk m) := ⟨_, rfl⟩
                    rw [← hs] at TK P0
                    clear hfe hs
                    obtain ⟨oP0, oP1, oP2, oP3⟩ := P0.out.cells
                    go_wp2_with fail
                    clear oP0 oP1 oP2 oP3
                    refine (TK.out _).mono ?_; rintro e w1 ⟨rfl, hb⟩
                    have P1 := Lib.hid (P0.out.kept hb)
                    have HB1 := Lib.hid (HB0.out.trans (hb.mono (Below.size HB0.out)))
                    clear hb HB0 P0
                    have hal := (Below.refl (w1).heap.size (w1)).alloc (Nat.le_refl _) (.cells #[.int .i64 0, .int .i64 0, .int .i64 0, .string ⟨#[]⟩] 23)
                    replace P1 := Lib.hid (P1.out.kept hal)
                    have Q1 := Lib.hid (PBox.new (w1) (0) (0) (0) (⟨#[]⟩))
                    replace HB1 := Lib.hid (HB1.out.trans (hal.mono (Below.size HB1.out)))
                    clear hal
                    go_wp2_with fail
                    go_ret
                    exact ⟨rfl, HB1.out⟩

/-! The row's step. -/
set_option maxRecDepth 100000 in
theorem lifted (os : Os) (started : os.Started) (H : Type) (enc : TypeId × Value → H) :
    ReturnsInHanded {} Tryd.checked os 5 .any (fun w args => (Rows.spaceLeastSpec.pre enc Tryd.prog Tryd.f5 [] false w args ∧ laidMetH Tryd.prog laidL w) ∧ sizedMet enc Tryd.prog Tryd.f5 (OpenSpec.ofChange Rows.spaceLeastSpec) false w args)
      (Rows.spaceLeastSpec.post enc Tryd.prog Tryd.f5 false true false false) := by
  refine returnsInHanded_of_change_and (C := Tryd.checked) (X := fun w _ => laidMetH Tryd.prog laidL w) (fun _ _ _ hh h => h.of_heap hh) own started (by kernel_rfl) Tryd.func5
    (ChangeSpec.witness_shaped (enc := enc) (C := Tryd.checked) (os := os) (X := fun w _ => laidMetH Tryd.prog laidL w) false (World.laidAll Tryd.prog os laidL) #[.int .i64 0, .slice none 0 0] 8 (World.laidAll_os _ _ _)
      (World.shaped_of_ZipB (by kernel_rfl) (by kernel_rfl)) (by kernel_rfl) (by kernel_rfl) (by kernel_rfl)
      (by rw [MakeChecks.laidMetH_plain _ _ _ (by kernel_rfl)]; exact laidMet_laidAll _ (by kernel_rfl) (by kernel_rfl))) ?_
  intro W base args ds gs before hval0 hW _ _ hL _
  have hval : ∀ (j : Nat) t v, Tryd.f5.params[j]? = some t → args[j]? = some v → Value.okWide Tryd.prog W .any base t v := hval0
  have hW' := hW
  obtain ⟨p, q, hA0, hV, rfl, hfz, hnd⟩ := hW
  have hA : DataW.TrodAll enc Tryd.prog W 0 (fun _ => true) true Tryd.f5.params.toList args.toList ds p := hA0
  rw [Tryd.params5] at hA hval
  obtain ⟨v0, vs0, d0, ds0, p0, q0, hargs, rfl, rfl, h0, r0⟩ := trodAll_cons hA
  obtain ⟨v1, vs1, d1, ds1, p1, q1, rfl, rfl, rfl, h1, r1⟩ := trodAll_cons r0
  obtain ⟨rfl, rfl, rfl⟩ := trodAll_nil r1
  obtain rfl : args = #[v0, v1] := by cases args; simp_all
  obtain ⟨rfl, rfl⟩ := trodVars_none hV
  obtain ⟨a0, rfl, rfl, rfl, w0⟩ := open_int Tryd.underlying3 (hval 0 3 v0 rfl rfl) h0
  obtain ⟨A1, n1, c1, rfl⟩ := okWide_slice Tryd.underlying40 (hval 1 40 v1 rfl rfl)
  have k1 := h1
  have lt1 : ∀ x ∈ p1, x.block < W.heap.size := by obtain ⟨m, hm⟩ := k1; exact DataW.trod_lt m _ _ _ hm
  obtain ⟨l1, w1, e1, f1⟩ := (by obtain ⟨fuel, hf⟩ := h1; exact ints_read hf (fun _ => rfl) : ∃ l, Ints W A1 n1 l ∧ n1 ≤ c1 ∧ c1 ≤ maxLen)
  clear hA0 hval0
  refine (walk a0 A1 n1 c1 l1 W w0 w1 (Nat.le_trans e1 f1)).mono fun e W' ⟨he, bel⟩ => ?_
  subst he
  exact ⟨_, rfl, _, _, _, [], _, [], hW', trodAll_mk1 (shut_bool Tryd.underlying4 _), (trodAll_cons_mk (shut_int Tryd.underlying3 w0) (trodAll_cons_mk (Below.trod laidOut (by kernel_rfl) (of_decide_eq_true (by kernel_rfl)) k1 bel lt1) trodAll_mk0)), rfl, bel.frame _, fun h => by cases h⟩

/-- The row's statement. -/
theorem over : Rows.SpaceLeastSaid :=
  OpenClaim.holds_of_wide 5 Tryd.f5 rfl rfl rfl rfl rfl rfl rfl ⟨rfl, rfl, rfl, rfl, rfl⟩ rfl rfl rfl rfl rfl (by kernel_rfl) Tryd.func5 (by kernel_rfl)
    (of_decide_eq_true (by kernel_rfl)) (by unfold Func.isWrapper; first | (rw [if_pos (by decide +kernel)]; kernel_rfl) | (rw [if_neg (by decide +kernel)]; exact ⟨rfl, rfl⟩))
    (fun os started H enc _ => lifted os started H enc)

/-- The card. -/
theorem proved : Rows.SpaceLeastCardSaid :=
  Claim7.holds_tied_plain_at .later [] [.data, .pinned] true Rows.spaceLeastCard.stood.harness false
    over (fun _ h => by cases h) (by kernel_rfl) (fun _ h => by cases h) spaceLeast_row_tie rfl ⟨rfl, rfl⟩ (by kernel_rfl) rfl
    (fun f fn hf hfn => by
      obtain rfl : f = 5 := Option.some.inj ((show Tryd.prog.funcNamed "honeycomb/honeycomblaw9.SpaceLeast" = some 5 by kernel_rfl).symm.trans hf) |>.symm
      obtain rfl : fn = Tryd.f5 := (Option.some.inj (Tryd.func5.symm.trans hfn)).symm
      exact ⟨by kernel_rfl, fun j t ht => by
        rw [Tryd.params5] at ht
        have hm : t ∈ [3, 40] := by simpa using Array.mem_of_getElem? ht
        have hall : ([3, 40].all fun u => !Tryd.prog.wantsStandIn u) = true := by kernel_rfl
        exact (show Tryd.prog.wantsStandIn t = false by simpa using List.all_eq_true.1 hall t hm)⟩)
    (by kernel_rfl)
end Go.Proofs.YtkbbpdpalfpchaaDoor.spaceLeast
