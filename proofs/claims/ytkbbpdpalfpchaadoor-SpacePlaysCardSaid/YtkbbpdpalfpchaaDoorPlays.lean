/- Whatever is taken, given back, in every order, of every page that might be a map: each answer is the document's; so are the pages that are used. -/
import Derived.Test.YtkbbpdpalfpchaaDoorRows
import Derived.Test.YtkbbpdpalfpchaaDoorCards
import Derived.Test.YtkbbpdpalfpchaaDoorTie
import Derived.Test.YtkbbpdpalfpchaaDoorPlay
import Derived.LoopTactic
import Derived.StillTailTactics
import Derived.BigQuiet
import Derived.Deep.DeepCutAuto
import Derived.Deep.RegionLaw
import Derived.Deep.CutBlock
import Derived.Deep.Cut
import Derived.Lib.Hide
import Derived.WalkKit
import Derived.ProofKit
import Derived.OpenShut
import Derived.ChangeOld
import Derived.Below
import Derived.Carry
import Derived.LaidMore
import Derived.Lay
import Derived.SevenTiedAt
namespace Go.Proofs.YtkbbpdpalfpchaaDoor.spacePlays
open Go.ChangeShapes Go.WideShapes Go.ChangeAt Go.RowKit
set_option linter.unusedVariables false
set_option linter.unusedSimpArgs false

set_option maxRecDepth 100000 in
set_option maxHeartbeats 100000000 in
theorem walk (a0 : Int) (k1 d1 x1 : Int) (z1 : ByteArray) (ob : Bool) (A3 : Option Addr) (n3 c3 : Nat) (l3 : List Opp) (w : World) (w0 : (Lit.int .i64 a0).wf = true) (wk1 : (Lit.int .i64 k1).wf = true) (wd1 : (Lit.int .i64 d1).wf = true) (wx1 : (Lit.int .i64 x1).wf = true) (wz1 : z1.size ≤ maxLen) (w3 : OpsL w A3 n3 l3) (e3 : n3 ≤ maxLen) :
    Calls Tryd.prog 3 #[.int .i64 a0, .agg #[.int .i64 k1, .int .i64 d1, .int .i64 x1, .string z1], .bool ob, .slice A3 n3 c3] w fun e w' => e = .returned (.bool true) ∧ Below w.heap.size w w' := by
  have AL := Lib.hid alive_yes
  by_cases cc : 300 < (z1.size : Int)
  · as_aux_lemma =>
      have g0x : decide (300 < (z1.size : Int)) = true := decide_eq_true cc
      have HB0 := Lib.hid ((Below.refl w.heap.size w).alloc (Nat.le_refl _) (.cells #[.int .i64 k1, .int .i64 d1, .int .i64 x1, .string z1] 23))
      go_enter Tryd.func3, Tryd.ntmps3
      go_wp2_with fail
      refine (AL.out _).mono ?_; rintro e w1 ⟨rfl, hb⟩
      have HB1 := Lib.hid (HB0.out.trans (hb.mono (Below.size HB0.out)))
      clear hb HB0 
      go_wp2_with fail
      go_ret
      exact ⟨rfl, HB1.out⟩
  · have g0x : decide (300 < (z1.size : Int)) = false := decide_eq_false cc
    by_cases cd : 100 < (n3 : Int)
    · as_aux_lemma =>
        have g1x : decide (100 < (n3 : Int)) = true := decide_eq_true cd
        have HB0 := Lib.hid ((Below.refl w.heap.size w).alloc (Nat.le_refl _) (.cells #[.int .i64 k1, .int .i64 d1, .int .i64 x1, .string z1] 23))
        go_enter Tryd.func3, Tryd.ntmps3
        go_wp2_with fail
        refine (AL.out _).mono ?_; rintro e w1 ⟨rfl, hb⟩
        have HB1 := Lib.hid (HB0.out.trans (hb.mono (Below.size HB0.out)))
        clear hb HB0 
        go_wp2_with fail
        go_ret
        exact ⟨rfl, HB1.out⟩
    · have g1x : decide (100 < (n3 : Int)) = false := decide_eq_false cd
      have hn3 : n3 ≤ 100 := by omega
      have HP := Lib.hid (fun (i : Nat) (hi : i < n3) (w' : World) (hb : Below w.heap.size w w') => w3.at hi hb)
      clear w3
      obtain ⟨rb, rfl⟩ : ∃ rb, z1 = str rb := ⟨z1.data.toList, (str_data z1).symm⟩
      have HRL := Lib.hid (show rb.length ≤ 300 by have hc := cc; rw [str_size] at hc; omega)
      obtain ⟨sr, hsr⟩ : ∃ s, s = str rb := ⟨_, rfl⟩
      rw [← hsr] at cc g0x ⊢
      have HSR := Lib.hid hsr
      clear hsr wz1
      have HB0 := Lib.hid (Below.refl w.heap.size w)
      have hal := (Below.refl (w).heap.size (w)).alloc (Nat.le_refl _) (.cells #[.int .i64 k1, .int .i64 d1, .int .i64 x1, .string sr] 23)
      have R0 := Lib.hid (PBox.new (w) (k1) (d1) (x1) (sr))
      replace HB0 := Lib.hid (HB0.out.trans (hal.mono (Below.size HB0.out)))
      clear hal
      go_enter Tryd.func3, Tryd.ntmps3
      go_wp2_with fail
      obtain ⟨bR, hbR⟩ : ∃ bR, bR = (w).heap.size := ⟨_, rfl⟩
      rw [← hbR] at R0 ⊢
      have HLR := Lib.hid hbR
      clear hbR
      generalize (w).alloc (.cells #[.int .i64 k1, .int .i64 d1, .int .i64 x1, .string sr] 23) = v0 at *
      refine (AL.out _).mono ?_; rintro e w1 ⟨rfl, hb⟩
      have R1 := Lib.hid (R0.out.kept hb)
      have HB1 := Lib.hid (HB0.out.trans (hb.mono (Below.size HB0.out)))
      clear hb HB0 R0
      clear AL
      obtain ⟨mb, kk, sn, hmb, hne⟩ : ∃ (mb : Bool) (kk : Int) (sn : ByteArray), ((mb = true ∧ 8 ≤ a0 ∧ a0 ≤ 64 ∧ kk = 2 ∧ ∃ q : BA, q.length ≤ 300 ∧ sn = str q ∧ ((marksS 2 q).length : Int) = a0) ∨ (mb = false ∧ ¬ (8 ≤ a0 ∧ a0 ≤ 64) ∧ kk = 0 ∧ sn = ⟨#[]⟩)) ∧ ∀ w, Calls Tryd.prog 10 #[.int .i64 a0] w fun e w' => e = .returned (.tuple #[.agg #[.int .i64 kk, .int .i64 0, .int .i64 0, .string sn], .bool mb]) ∧ Below w.heap.size w w' := by
        by_cases hn : 8 ≤ a0 ∧ a0 ≤ 64
        · obtain ⟨N, rfl⟩ : ∃ N : Nat, a0 = (N : Int) := ⟨a0.toNat, by omega⟩
          have hg := newS_good (n := N) (by omega) (by omega)
          refine ⟨true, 2, str (mk (newS N)), .inl ⟨rfl, hn.1, hn.2, rfl, mk (newS N), by rw [hg.len]; omega, rfl, by rw [marksS_mk hg, newS_length (by omega)]⟩, fun w => ?_⟩
          exact new_yes N (by omega) (by omega) w
        · exact ⟨false, 0, ⟨#[]⟩, .inr ⟨rfl, hn, rfl, rfl⟩, fun w => new_no a0 hn w⟩
      have HMB := Lib.hid hmb
      have NE := Lib.hid hne
      clear hmb hne
      obtain ⟨oR0, oR1, oR2, oR3⟩ := R1.out.cells
      go_wp2_with fail
      clear oR0 oR1 oR2 oR3
      refine (NE.out _).mono ?_; rintro e w2 ⟨rfl, hb⟩
      have R2 := Lib.hid (R1.out.kept hb)
      have HB2 := Lib.hid (HB1.out.trans (hb.mono (Below.size HB1.out)))
      clear hb HB1 R1
      clear NE
      have HSZ := Lib.hid HB2.out.size
      have hal := (Below.refl (w2).heap.size (w2)).alloc (Nat.le_refl _) (.cells #[.int .i64 kk, .int .i64 0, .int .i64 0, .string sn] 23)
      replace R2 := Lib.hid (R2.out.kept hal)
      have P2 := Lib.hid (PBox.new (w2) (kk) (0) (0) (sn))
      replace HB2 := Lib.hid (HB2.out.trans (hal.mono (Below.size HB2.out)))
      clear hal
      go_upto_region 4 with fail
      obtain ⟨bP, hbP⟩ : ∃ bP, bP = (w2).heap.size := ⟨_, rfl⟩
      rw [← hbP] at P2 ⊢
      have HLP := Lib.hid hbP
      clear hbP
      generalize (w2).alloc (.cells #[.int .i64 kk, .int .i64 0, .int .i64 0, .string sn] 23) = v5 at *
      have HLE := Lib.hid (show w.heap.size ≤ bP by rw [HLP.out]; exact HSZ.out)
      clear HLP HSZ
      go_cut [11] (fun s wx => s = .bool mb ∧ Hid (PBox wx bP kk 0 0 sn ∧ PBox wx bR k1 d1 x1 sr ∧ Below w.heap.size w wx))
      case first =>
        as_aux_lemma =>
          rcases HMB.out with ⟨hmb, h8, h64, -, -⟩ | ⟨hmb, hn, -, -⟩
          · subst hmb
            have d8 : decide (8 ≤ a0) = true := decide_eq_true h8
            have d64 : decide (a0 ≤ 64) = true := decide_eq_true h64
            clear HMB
            go_wp2_with fail
            go_meet
            exact ⟨by trivial, P2.out, R2.out, HB2.out⟩
          · subst hmb
            by_cases h8 : 8 ≤ a0
            · have h64 : ¬ a0 ≤ 64 := fun h => hn ⟨h8, h⟩
              have d8 : decide (8 ≤ a0) = true := decide_eq_true h8
              have d64 : decide (a0 ≤ 64) = false := decide_eq_false h64
              clear HMB
              go_wp2_with fail
              go_meet
              exact ⟨by trivial, P2.out, R2.out, HB2.out⟩
            · have d8 : decide (8 ≤ a0) = false := decide_eq_false h8
              clear HMB
              go_wp2_with fail
              go_meet
              exact ⟨by trivial, P2.out, R2.out, HB2.out⟩
      case rest =>
        obtain ⟨hs, hq⟩ := hcut
        subst hs
        clear P2 R2 HB2
        have P3 := Lib.hid hq.out.1
        have R3 := Lib.hid hq.out.2.1
        have HB3 := Lib.hid hq.out.2.2
        clear hq
        go_upto_region 5 with fail
        go_cut [62] (fun s wx => s = .bool false ∧ Hid (PBox wx bP kk 0 0 sn ∧ PBox wx bR k1 d1 x1 sr ∧ Below w.heap.size w wx))
        case first =>
          as_aux_lemma =>
            rcases HMB.out with ⟨hmb, -, -, hk, -⟩ | ⟨hmb, -, hk, hs⟩
            · subst hmb
              clear HMB
              go_wp2_with fail
              go_meet
              exact ⟨by trivial, P3.out, R3.out, HB3.out⟩
            · subst hmb hk hs
              clear HMB
              have ez := eq_zero
              obtain ⟨oP0, oP1, oP2, oP3⟩ := P3.out.cells
              go_wp2_with fail
              go_meet
              exact ⟨by trivial, P3.out, R3.out, HB3.out⟩
        case rest =>
          obtain ⟨hs, hq⟩ := hcut
          subst hs
          clear P3 R3 HB3
          have P4 := Lib.hid hq.out.1
          have R4 := Lib.hid hq.out.2.1
          have HB4 := Lib.hid hq.out.2.2
          clear hq
          go_upto_region 7 with fail
          go_cut [74] (fun s wx => s = .bool false ∧ Hid (PBox wx bP kk 0 0 sn ∧ PBox wx bR k1 d1 x1 sr ∧ Below w.heap.size w wx))
          case first =>
            as_aux_lemma =>
              rcases HMB.out with ⟨hmb, -, -, hk, hex⟩ | ⟨hmb, -, hk, hs⟩
              · subst hmb hk
                obtain ⟨q, hq1, hq2, hq3⟩ := hex
                have RN := Lib.hid (rmap_any 2 0 0 q)
                rw [hq3] at RN
                unfold pv at RN
                rw [← hq2] at RN
                clear HMB hq1 hq2 hq3
                obtain ⟨oP0, oP1, oP2, oP3⟩ := P4.out.cells
                go_wp2_with fail
                clear oP0 oP1 oP2 oP3
                refine (RN.out _).mono ?_; rintro e w5 ⟨rfl, hb⟩
                have P5 := Lib.hid (P4.out.kept hb)
                have R5 := Lib.hid (R4.out.kept hb)
                have HB5 := Lib.hid (HB4.out.trans (hb.mono (Below.size HB4.out)))
                clear hb HB4 P4 R4
                go_wp2_with fail
                go_meet
                exact ⟨by trivial, P5.out, R5.out, HB5.out⟩
              · subst hmb hk hs
                clear HMB
                go_wp2_with fail
                go_meet
                exact ⟨by trivial, P4.out, R4.out, HB4.out⟩
          case rest =>
            obtain ⟨hs, hq⟩ := hcut
            subst hs
            clear P4 R4 HB4
            have P5 := Lib.hid hq.out.1
            have R5 := Lib.hid hq.out.2.1
            have HB5 := Lib.hid hq.out.2.2
            clear hq
            go_upto_region 9 with fail
            go_cut [79] (fun s wx => s = .bool (ob || !mb) ∧ Hid (PBox wx bP kk 0 0 sn ∧ PBox wx bR k1 d1 x1 sr ∧ Below w.heap.size w wx))
            case first =>
              as_aux_lemma =>
                clear HMB
                cases ob with
                | true =>
                  go_wp2_with fail
                  go_meet
                  exact ⟨by trivial, P5.out, R5.out, HB5.out⟩
                | false =>
                  cases mb with
                  | true =>
                    go_wp2_with fail
                    go_meet
                    exact ⟨by trivial, P5.out, R5.out, HB5.out⟩
                  | false =>
                    go_wp2_with fail
                    go_meet
                    exact ⟨by trivial, P5.out, R5.out, HB5.out⟩
            case rest =>
              obtain ⟨hs, hq⟩ := hcut
              subst hs
              clear P5 R5 HB5
              have P6 := Lib.hid hq.out.1
              have R6 := Lib.hid hq.out.2.1
              have HB6 := Lib.hid hq.out.2.2
              clear hq
              go_upto_if 79 with fail
              go_cut [79] (fun s wx => (∃ z, s = .bool z) ∧ Hid (∃ (k d x : Int) (b : BA), b.length ≤ 300 ∧ PBox wx bP k d x (str b) ∧ Below w.heap.size w wx))
              case first =>
                as_aux_lemma =>
                  cases hv : (ob || !mb) with
                  | true =>
                    obtain ⟨⟨oP0, oP1, oP2, oP3⟩, fP0, fP1, fP2, fP3⟩ := And.intro P6.out.cells P6.out.free
                    obtain ⟨oR0, oR1, oR2, oR3⟩ := R6.out.cells
                    go_wp2_with fail
                    go_meet
                    exact ⟨⟨_, rfl⟩, k1, d1, x1, rb, HRL.out, by rw [← HSR.out]; exact P6.out.set4 _ _ _ _, below_set4 HB6.out HLE.out⟩
                  | false =>
                    have hst : ∃ q : BA, q.length ≤ 300 ∧ kk = 2 ∧ sn = str q := by
                      rcases HMB.out with ⟨hmb, -, -, hk, q, hq1, hq2, -⟩ | ⟨hmb, -, -, -⟩
                      · exact ⟨q, hq1, hk, hq2⟩
                      · rw [hmb] at hv; simp at hv
                    obtain ⟨q, hq1, hk, hq2⟩ := hst
                    have HQ1 := Lib.hid hq1
                    have HQ2 := Lib.hid hq2
                    subst hk
                    clear HMB hq1 hq2
                    go_wp2_with fail
                    go_meet
                    exact ⟨⟨_, rfl⟩, 2, 0, 0, q, HQ1.out, by rw [← HQ2.out]; exact P6.out, HB6.out⟩
              case rest =>
                obtain ⟨⟨z79, hs⟩, hq⟩ := hcut
                subst hs
                clear P6 R6 HB6 HMB HRL HSR
                have HST := Lib.hid hq.out
                clear hq
                go_wp2_with fail
                go_loopw [83] (fun x wr => ∃ j : Nat, j ≤ n3 ∧ x = .int .i64 j ∧ Hid (∃ (k d x : Int) (b : BA), b.length ≤ 300 ∧ PBox wr bP k d x (str b) ∧ Below w.heap.size w wr)) (fun x _ => n3 - (intOf x).toNat)
                case atStart => exact ⟨0, Nat.zero_le _, rfl, HST.out⟩
                case round =>
                  obtain ⟨j, hj, rfl, hq⟩ := hrel
                  obtain ⟨k, d, x, b, hb1, hb2, hb3⟩ := hq.out
                  have HBL := Lib.hid hb1
                  have P0 := Lib.hid hb2
                  have HB0 := Lib.hid hb3
                  clear hq hb1 hb2 hb3 HST
                  have j0 : (0 : Int) ≤ (j : Int) := by omega
                  by_cases hlt : j < n3
                  · as_aux_lemma =>
                      have j1 : (j : Int) < (n3 : Int) := by omega
                      have e1 : IntKind.i64.wrap ((j : Int) + 1) = (j : Int) + 1 := IntWalk.i64_in _ (by omega)
                      obtain ⟨ba, off, rfl, hbk, c0, c1, hr⟩ := HP.out j hlt wr HB0.out
                      generalize l3.getD j nilO = o at *
                      obtain ⟨ok, on⟩ := o
                      have HON := Lib.hid (show on ≤ 9223372036854775807 from hr.2)
                      dsimp only at c0 c1
                      clear hbk hr
                      have HPL := Lib.hid P0.out.lt
                      have RM := Lib.hid (rmap_any k d x b)
                      unfold pv at RM
                      obtain ⟨s, hs⟩ : ∃ s, s = str b := ⟨_, rfl⟩
                      rw [← hs] at RM P0
                      have HS := Lib.hid hs
                      clear hs
                      obtain ⟨mm, hmm⟩ : ∃ mm : Nat, mm = (marksS k b).length := ⟨_, rfl⟩
                      rw [← hmm] at RM
                      have HMM := Lib.hid hmm
                      clear hmm
                      have hal := (Below.refl (wr).heap.size (wr)).alloc (Nat.le_refl _) (.cells #[.int .i64 ok, .int .i64 on] 30)
                      replace P0 := Lib.hid (P0.out.kept hal)
                      have O0 := Lib.hid (OBox.new (wr) (ok) (on))
                      replace HB0 := Lib.hid (HB0.out.trans (hal.mono (Below.size HB0.out)))
                      clear hal
                      obtain ⟨oP0, oP1, oP2, oP3⟩ := P0.out.cells
                      go_upto_region 14 with fail
                      clear c0 c1
                      clear oP0 oP1 oP2 oP3
                      obtain ⟨bO, hbO⟩ : ∃ bO, bO = (wr).heap.size := ⟨_, rfl⟩
                      rw [← hbO] at O0 ⊢
                      have HLO := Lib.hid hbO
                      clear hbO
                      generalize (wr).alloc (.cells #[.int .i64 ok, .int .i64 on] 30) = vo at *
                      have HNO := Lib.hid (show bO ≠ bP by rw [HLO.out]; exact Nat.ne_of_gt HPL.out)
                      obtain ⟨oP0, oP1, oP2, oP3⟩ := P0.out.cells
                      go_wp2_with fail
                      clear oP0 oP1 oP2 oP3
                      refine (RM.out _).mono ?_; rintro e w1 ⟨rfl, hb⟩
                      have P1 := Lib.hid (P0.out.kept hb)
                      have O1 := Lib.hid (O0.out.kept hb)
                      have HB1 := Lib.hid (HB0.out.trans (hb.mono (Below.size HB0.out)))
                      clear hb HB0 P0 O0
                      obtain ⟨oO0, oO1⟩ := O1.out.cells
                      go_upto_block 2 with fail
                      clear oO0 oO1
                      go_cut [14] (fun s14 wx => (∃ z : Int, s14 = .int .i64 z) ∧ Hid (∃ (k d x : Int) (b : BA), b.length ≤ 300 ∧ PBox wx bP k d x (str b) ∧ OBox wx bO ok on ∧ Below w.heap.size w wx))
                      case first =>
                        by_cases hk1 : ok = 1
                        · subst hk1
                          by_cases h0 : marksS k b = []
                          · as_aux_lemma =>
                              have TK := Lib.hid (take_none k d x b (by have := HBL.out; omega) h0)
                              have hm0 : mm = 0 := by rw [HMM.out, h0]; rfl
                              rw [show pv 0 0 0 [] = .agg #[.int .i64 0, .int .i64 0, .int .i64 0, .string ⟨#[]⟩] from rfl] at TK
                              unfold pv at TK
                              rw [← HS.out] at TK
                              subst hm0
                              clear h0
                              have ez := eq_zero
                              obtain ⟨oP0, oP1, oP2, oP3⟩ := P1.out.cells
                              go_wp2_with fail
                              clear oP0 oP1 oP2 oP3
                              refine (TK.out _).mono ?_; rintro e w2 ⟨rfl, hb⟩
                              have P2 := Lib.hid (P1.out.kept hb)
                              have O2 := Lib.hid (O1.out.kept hb)
                              have HB2 := Lib.hid (HB1.out.trans (hb.mono (Below.size HB1.out)))
                              clear hb HB1 P1 O1
                              have hal := (Below.refl (w2).heap.size (w2)).alloc (Nat.le_refl _) (.cells #[.int .i64 0, .int .i64 0, .int .i64 0, .string ⟨#[]⟩] 23)
                              replace P2 := Lib.hid (P2.out.kept hal)
                              replace O2 := Lib.hid (O2.out.kept hal)
                              have Q2 := Lib.hid (PBox.new (w2) (0) (0) (0) (⟨#[]⟩))
                              replace HB2 := Lib.hid (HB2.out.trans (hal.mono (Below.size HB2.out)))
                              clear hal
                              go_wp2_with fail
                              obtain ⟨bQ, hbQ⟩ : ∃ bQ, bQ = (w2).heap.size := ⟨_, rfl⟩
                              rw [← hbQ] at Q2 ⊢
                              have HLQ := Lib.hid hbQ
                              clear hbQ
                              generalize (w2).alloc (.cells #[.int .i64 0, .int .i64 0, .int .i64 0, .string ⟨#[]⟩] 23) = V3 at *
                              go_loopw [18, 19] (fun u v wz => v = .int .i64 0 ∧ u = .int .i64 (-1) ∧ wz = V3) (fun _ v _ => 0)
                              case atStart => exact ⟨rfl, rfl, rfl⟩
                              case round =>
                                obtain ⟨rfl, rfl, hwz⟩ := hrel
                                subst hwz
                                obtain ⟨oQ0, oQ1, oQ2, oQ3⟩ := Q2.out.cells
                                go_wp2_with fail
                                go_meet
                                exact ⟨⟨_, rfl⟩, ⟨k, d, x, b, HBL.out, by rw [← HS.out]; exact P2.out, O2.out, HB2.out⟩⟩
                          · obtain ⟨hk, hbm, hg⟩ := mk_of_marks h0
                            have HG := Lib.hid hg
                            obtain ⟨m, hm⟩ : ∃ m, m = marksS k b := ⟨_, rfl⟩
                            rw [← hm] at hbm HG HMM
                            clear hg h0 hm
                            subst hk hbm
                            by_cases hf : fst m < m.length
                            · as_aux_lemma =>
                                have hm64 := HG.out.1
                                have hmm : mm = m.length := HMM.out
                                have TK := Lib.hid (take_some d x m HG.out hf)
                                have MP := Lib.hid (mapped_any d x m 1 (fst m) (by omega) hf)
                                rw [show (((1 : UInt8).toNat : Nat) : Int) = 1 from rfl] at MP
                                obtain ⟨f, hfm⟩ : ∃ f, f = fst m := ⟨_, rfl⟩
                                have IXa := Lib.hid (fun (i : Nat) (hi : i < f) w => (show (Instr.index 9 (.string (str (mk m))) (.int .i64 i)).run Tryd.prog w = .ok (.int .u8 1) w from by
                                  rw [hfm] at hi
                                  have him : i < m.length := by omega
                                  rw [run_ix (mk m) i (by rw [HG.out.len]; omega) w, getD_mk him]
                                  rcases at_or HG.out him with e | e
                                  · rw [(getD_getElem? (by decide)).2 e]; rfl
                                  · exact absurd e (fst_before hi)))
                                have IXb := Lib.hid (fun w => (show (Instr.index 9 (.string (str (mk m))) (.int .i64 f)).run Tryd.prog w = .ok (.int .u8 2) w from by
                                  rw [hfm, run_ix (mk m) (fst m) (by rw [HG.out.len]; omega) w, getD_mk hf, (getD_getElem? (by decide)).2 (fst_at hf)]; rfl))
                                have HL2 := Lib.hid (show (mk (m.set (fst m) 1)).length ≤ 300 by rw [mk_length (by rw [List.length_set]; omega)]; omega)
                                rw [← hfm] at TK MP HL2
                                have hfl : f < mm := by rw [hfm, hmm]; exact hf
                                unfold pv at TK MP
                                obtain ⟨s2, hs2⟩ : ∃ s, s = str (mk (m.set f 1)) := ⟨_, rfl⟩
                                rw [← hs2] at TK MP
                                rw [← HS.out] at TK MP IXa IXb
                                have HS2 := Lib.hid hs2
                                clear hs2 hf hfm hmm
                                have NQ := Lib.hid (neq_same 2 d x s2)
                                have hm0 : ((mm : Int) == 0) = false := by rw [beq_eq_false_iff_ne]; omega
                                have f0 : ¬ (f : Int) < 0 := by omega
                                have hm64' : mm ≤ 64 := by rw [HMM.out]; exact HG.out.1.2
                                clear hm64
                                obtain ⟨oP0, oP1, oP2, oP3⟩ := P1.out.cells
                                go_wp2_with fail
                                clear oP0 oP1 oP2 oP3
                                refine (TK.out _).mono ?_; rintro e w2 ⟨rfl, hb⟩
                                have P2 := Lib.hid (P1.out.kept hb)
                                have O2 := Lib.hid (O1.out.kept hb)
                                have HB2 := Lib.hid (HB1.out.trans (hb.mono (Below.size HB1.out)))
                                clear hb HB1 P1 O1
                                have HPQ := Lib.hid P2.out.lt
                                have hal := (Below.refl (w2).heap.size (w2)).alloc (Nat.le_refl _) (.cells #[.int .i64 2, .int .i64 d, .int .i64 x, .string s2] 23)
                                replace P2 := Lib.hid (P2.out.kept hal)
                                replace O2 := Lib.hid (O2.out.kept hal)
                                have Q2 := Lib.hid (PBox.new (w2) (2) (d) (x) (s2))
                                replace HB2 := Lib.hid (HB2.out.trans (hal.mono (Below.size HB2.out)))
                                clear hal
                                go_wp2_with fail
                                obtain ⟨bQ, hbQ⟩ : ∃ bQ, bQ = (w2).heap.size := ⟨_, rfl⟩
                                rw [← hbQ] at Q2 ⊢
                                have HLQ := Lib.hid hbQ
                                clear hbQ
                                generalize (w2).alloc (.cells #[.int .i64 2, .int .i64 d, .int .i64 x, .string s2] 23) = V3 at *
                                have HQP := Lib.hid (show bQ ≠ bP by rw [HLQ.out]; exact Nat.ne_of_gt HPQ.out)
                                go_loopw [18, 19] (fun u v wz => ∃ i : Nat, i ≤ mm ∧ v = .int .i64 i ∧ ((i ≤ f ∧ u = .int .i64 (-1)) ∨ (i = f + 1 ∧ u = .int .i64 f)) ∧ wz = V3) (fun _ v _ => mm - (intOf v).toNat)
                                case atStart => exact ⟨0, Nat.zero_le _, rfl, .inl ⟨Nat.zero_le _, rfl⟩, rfl⟩
                                case round =>
                                  obtain ⟨i, hi, rfl, hu, hwz⟩ := hrel
                                  subst hwz
                                  have i0 : (0 : Int) ≤ (i : Int) := by omega
                                  have i9 : IntKind.i64.wrap ((i : Int) + 1) = (i : Int) + 1 := IntWalk.i64_in _ (by omega)
                                  rcases hu with ⟨h1, rfl⟩ | ⟨rfl, rfl⟩
                                  · by_cases he : i < f
                                    · as_aux_lemma =>
                                        have ix := IXa.out i he
                                        have i1 : (i : Int) < (mm : Int) := by omega
                                        clear h1
                                        obtain ⟨oP0, oP1, oP2, oP3⟩ := P2.out.cells
                                        go_wp2_with fail
                                        go_roundw
                                        case rel => exact ⟨i + 1, by omega, by go_num, .inl ⟨by omega, rfl⟩, by trivial⟩
                                        case measure => simp [intOf]; omega
                                    · as_aux_lemma =>
                                        obtain rfl : f = i := by omega
                                        have ix := IXb.out
                                        have i1 : (f : Int) < (mm : Int) := by omega
                                        clear h1 he
                                        obtain ⟨oP0, oP1, oP2, oP3⟩ := P2.out.cells
                                        go_wp2_with fail
                                        go_roundw
                                        case rel => exact ⟨f + 1, by omega, by go_num, .inr ⟨rfl, rfl⟩, by trivial⟩
                                        case measure => simp [intOf]; omega
                                  · by_cases he : f + 1 < mm
                                    · as_aux_lemma =>
                                        have i1 : (((f + 1 : Nat)) : Int) < (mm : Int) := by omega
                                        obtain ⟨oP0, oP1, oP2, oP3⟩ := P2.out.cells
                                        go_upto_region 24 with fail
                                        clear oP0 oP1 oP2 oP3
                                        obtain ⟨oP0, oP1, oP2, oP3⟩ := P2.out.cells
                                        go_wp2_with fail
                                        clear oP0 oP1 oP2 oP3
                                        refine (MP.out _).mono ?_; rintro e w3 ⟨rfl, hb⟩
                                        have P3 := Lib.hid (P2.out.kept hb)
                                        have O3 := Lib.hid (O2.out.kept hb)
                                        have Q3 := Lib.hid (Q2.out.kept hb)
                                        have HB3 := Lib.hid (HB2.out.trans (hb.mono (Below.size HB2.out)))
                                        clear hb HB2 P2 O2 Q2
                                        obtain ⟨⟨oP0, oP1, oP2, oP3⟩, fP0, fP1, fP2, fP3⟩ := And.intro P3.out.cells P3.out.free
                                        go_upto_region 25 with fail
                                        clear oP0 oP1 oP2 oP3 fP0 fP1 fP2 fP3
                                        have P9 := Lib.hid (P3.out.set4 2 d x s2)
                                        have O9 := Lib.hid (show OBox ((((w3.setCell ⟨bP, 0, none⟩ (.int .i64 2)).setCell ⟨bP, 1, none⟩ (.int .i64 d)).setCell ⟨bP, 2, none⟩ (.int .i64 x)).setCell ⟨bP, 3, none⟩ (.string s2)) bO 1 on from (heap_set4 _ _ _ _ _ _ _ HNO.out).trans O3.out)
                                        have Q9 := Lib.hid (show PBox ((((w3.setCell ⟨bP, 0, none⟩ (.int .i64 2)).setCell ⟨bP, 1, none⟩ (.int .i64 d)).setCell ⟨bP, 2, none⟩ (.int .i64 x)).setCell ⟨bP, 3, none⟩ (.string s2)) bQ 2 d x s2 from (heap_set4 _ _ _ _ _ _ _ HQP.out).trans Q3.out)
                                        have HB9 := Lib.hid (below_set4 (u0 := .int .i64 2) (u1 := .int .i64 d) (u2 := .int .i64 x) (u3 := .string s2) HB3.out HLE.out)
                                        generalize (((w3.setCell ⟨bP, 0, none⟩ (.int .i64 2)).setCell ⟨bP, 1, none⟩ (.int .i64 d)).setCell ⟨bP, 2, none⟩ (.int .i64 x)).setCell ⟨bP, 3, none⟩ (.string s2) = V9 at *
                                        clear P3 HB3 O3 Q3
                                        have nq := NQ.out
                                        obtain ⟨oP0, oP1, oP2, oP3⟩ := P9.out.cells
                                        obtain ⟨oQ0, oQ1, oQ2, oQ3⟩ := Q9.out.cells
                                        go_wp2_with fail
                                        go_meet
                                        exact ⟨⟨_, rfl⟩, ⟨2, d, x, mk (m.set f 1), HL2.out, by rw [← HS2.out]; exact P9.out, O9.out, HB9.out⟩⟩
                                    · as_aux_lemma =>
                                        have i1 : ¬ (((f + 1 : Nat)) : Int) < (mm : Int) := by omega
                                        obtain ⟨oP0, oP1, oP2, oP3⟩ := P2.out.cells
                                        go_upto_region 24 with fail
                                        clear oP0 oP1 oP2 oP3
                                        obtain ⟨oP0, oP1, oP2, oP3⟩ := P2.out.cells
                                        go_wp2_with fail
                                        clear oP0 oP1 oP2 oP3
                                        refine (MP.out _).mono ?_; rintro e w3 ⟨rfl, hb⟩
                                        have P3 := Lib.hid (P2.out.kept hb)
                                        have O3 := Lib.hid (O2.out.kept hb)
                                        have Q3 := Lib.hid (Q2.out.kept hb)
                                        have HB3 := Lib.hid (HB2.out.trans (hb.mono (Below.size HB2.out)))
                                        clear hb HB2 P2 O2 Q2
                                        obtain ⟨⟨oP0, oP1, oP2, oP3⟩, fP0, fP1, fP2, fP3⟩ := And.intro P3.out.cells P3.out.free
                                        go_upto_region 25 with fail
                                        clear oP0 oP1 oP2 oP3 fP0 fP1 fP2 fP3
                                        have P9 := Lib.hid (P3.out.set4 2 d x s2)
                                        have O9 := Lib.hid (show OBox ((((w3.setCell ⟨bP, 0, none⟩ (.int .i64 2)).setCell ⟨bP, 1, none⟩ (.int .i64 d)).setCell ⟨bP, 2, none⟩ (.int .i64 x)).setCell ⟨bP, 3, none⟩ (.string s2)) bO 1 on from (heap_set4 _ _ _ _ _ _ _ HNO.out).trans O3.out)
                                        have Q9 := Lib.hid (show PBox ((((w3.setCell ⟨bP, 0, none⟩ (.int .i64 2)).setCell ⟨bP, 1, none⟩ (.int .i64 d)).setCell ⟨bP, 2, none⟩ (.int .i64 x)).setCell ⟨bP, 3, none⟩ (.string s2)) bQ 2 d x s2 from (heap_set4 _ _ _ _ _ _ _ HQP.out).trans Q3.out)
                                        have HB9 := Lib.hid (below_set4 (u0 := .int .i64 2) (u1 := .int .i64 d) (u2 := .int .i64 x) (u3 := .string s2) HB3.out HLE.out)
                                        generalize (((w3.setCell ⟨bP, 0, none⟩ (.int .i64 2)).setCell ⟨bP, 1, none⟩ (.int .i64 d)).setCell ⟨bP, 2, none⟩ (.int .i64 x)).setCell ⟨bP, 3, none⟩ (.string s2) = V9 at *
                                        clear P3 HB3 O3 Q3
                                        have nq := NQ.out
                                        obtain ⟨oP0, oP1, oP2, oP3⟩ := P9.out.cells
                                        obtain ⟨oQ0, oQ1, oQ2, oQ3⟩ := Q9.out.cells
                                        go_wp2_with fail
                                        go_meet
                                        exact ⟨⟨_, rfl⟩, ⟨2, d, x, mk (m.set f 1), HL2.out, by rw [← HS2.out]; exact P9.out, O9.out, HB9.out⟩⟩
                            · as_aux_lemma =>
                                have hm64 := HG.out.1
                                have hmm : mm = m.length := HMM.out
                                have hfe : fst m = m.length := Nat.le_antisymm (fst_le m) (by omega)
                                have TK := Lib.hid (take_full d x m HG.out hfe)
                                have IXa := Lib.hid (fun (i : Nat) (hi : i < mm) w => (show (Instr.index 9 (.string (str (mk m))) (.int .i64 i)).run Tryd.prog w = .ok (.int .u8 1) w from by
                                  have him : i < m.length := by omega
                                  rw [run_ix (mk m) i (by rw [HG.out.len]; omega) w, getD_mk him]
                                  rcases at_or HG.out him with e | e
                                  · rw [(getD_getElem? (by decide)).2 e]; rfl
                                  · exact absurd e (fst_before (by omega))))
                                rw [show pv 0 0 0 [] = .agg #[.int .i64 0, .int .i64 0, .int .i64 0, .string ⟨#[]⟩] from rfl] at TK
                                unfold pv at TK
                                rw [← HS.out] at TK IXa
                                have hm64' : mm ≤ 64 := by omega
                                have hm0 : ((mm : Int) == 0) = false := by rw [beq_eq_false_iff_ne]; omega
                                have ez := eq_zero
                                clear hf hfe hmm hm64
                                obtain ⟨oP0, oP1, oP2, oP3⟩ := P1.out.cells
                                go_wp2_with fail
                                clear oP0 oP1 oP2 oP3
                                refine (TK.out _).mono ?_; rintro e w2 ⟨rfl, hb⟩
                                have P2 := Lib.hid (P1.out.kept hb)
                                have O2 := Lib.hid (O1.out.kept hb)
                                have HB2 := Lib.hid (HB1.out.trans (hb.mono (Below.size HB1.out)))
                                clear hb HB1 P1 O1
                                have hal := (Below.refl (w2).heap.size (w2)).alloc (Nat.le_refl _) (.cells #[.int .i64 0, .int .i64 0, .int .i64 0, .string ⟨#[]⟩] 23)
                                replace P2 := Lib.hid (P2.out.kept hal)
                                replace O2 := Lib.hid (O2.out.kept hal)
                                have Q2 := Lib.hid (PBox.new (w2) (0) (0) (0) (⟨#[]⟩))
                                replace HB2 := Lib.hid (HB2.out.trans (hal.mono (Below.size HB2.out)))
                                clear hal
                                go_wp2_with fail
                                obtain ⟨bQ, hbQ⟩ : ∃ bQ, bQ = (w2).heap.size := ⟨_, rfl⟩
                                rw [← hbQ] at Q2 ⊢
                                have HLQ := Lib.hid hbQ
                                clear hbQ
                                generalize (w2).alloc (.cells #[.int .i64 0, .int .i64 0, .int .i64 0, .string ⟨#[]⟩] 23) = V3 at *
                                go_loopw [18, 19] (fun u v wz => ∃ i : Nat, i ≤ mm ∧ v = .int .i64 i ∧ ((i ≤ mm ∧ u = .int .i64 (-1)) ∨ (i = mm + 1 ∧ u = .int .i64 mm)) ∧ wz = V3) (fun _ v _ => mm - (intOf v).toNat)
                                case atStart => exact ⟨0, Nat.zero_le _, rfl, .inl ⟨Nat.zero_le _, rfl⟩, rfl⟩
                                case round =>
                                  obtain ⟨i, hi, rfl, hu, hwz⟩ := hrel
                                  subst hwz
                                  have i0 : (0 : Int) ≤ (i : Int) := by omega
                                  have i9 : IntKind.i64.wrap ((i : Int) + 1) = (i : Int) + 1 := IntWalk.i64_in _ (by omega)
                                  rcases hu with ⟨h1, rfl⟩ | ⟨rfl, rfl⟩
                                  · by_cases he : i < mm
                                    · as_aux_lemma =>
                                        have ix := IXa.out i he
                                        have i1 : (i : Int) < (mm : Int) := by omega
                                        clear h1
                                        obtain ⟨oP0, oP1, oP2, oP3⟩ := P2.out.cells
                                        go_wp2_with fail
                                        go_roundw
                                        case rel => exact ⟨i + 1, by omega, by go_num, .inl ⟨by omega, rfl⟩, by trivial⟩
                                        case measure => simp [intOf]; omega
                                    · as_aux_lemma =>
                                        have i1 : ¬ (i : Int) < (mm : Int) := by omega
                                        clear h1 he
                                        obtain ⟨oQ0, oQ1, oQ2, oQ3⟩ := Q2.out.cells
                                        go_wp2_with fail
                                        go_meet
                                        exact ⟨⟨_, rfl⟩, ⟨2, d, x, mk m, HBL.out, by rw [← HS.out]; exact P2.out, O2.out, HB2.out⟩⟩
                                  · omega
                        · by_cases hk2 : ok = 2
                          · subst hk2
                            by_cases h0 : marksS k b = []
                            · as_aux_lemma =>
                                have GV := Lib.hid (give_none k d x on b (by have := HBL.out; omega) h0)
                                have hm0 : mm = 0 := by rw [HMM.out, h0]; rfl
                                subst hm0
                                clear h0
                                rw [show pv 0 0 0 [] = .agg #[.int .i64 0, .int .i64 0, .int .i64 0, .string ⟨#[]⟩] from rfl] at GV
                                unfold pv at GV
                                rw [← HS.out] at GV
                                have ez := eq_zero
                                obtain ⟨oP0, oP1, oP2, oP3⟩ := P1.out.cells
                                obtain ⟨oO0, oO1⟩ := O1.out.cells
                                go_wp2_with fail
                                clear oP0 oP1 oP2 oP3 oO0 oO1
                                refine (GV.out _).mono ?_; rintro e w2 ⟨rfl, hb⟩
                                have P2 := Lib.hid (P1.out.kept hb)
                                have O2 := Lib.hid (O1.out.kept hb)
                                have HB2 := Lib.hid (HB1.out.trans (hb.mono (Below.size HB1.out)))
                                clear hb HB1 P1 O1
                                have hal := (Below.refl (w2).heap.size (w2)).alloc (Nat.le_refl _) (.cells #[.int .i64 0, .int .i64 0, .int .i64 0, .string ⟨#[]⟩] 23)
                                replace P2 := Lib.hid (P2.out.kept hal)
                                replace O2 := Lib.hid (O2.out.kept hal)
                                have Q2 := Lib.hid (PBox.new (w2) (0) (0) (0) (⟨#[]⟩))
                                replace HB2 := Lib.hid (HB2.out.trans (hal.mono (Below.size HB2.out)))
                                clear hal
                                obtain ⟨oP0, oP1, oP2, oP3⟩ := P2.out.cells
                                obtain ⟨oO0, oO1⟩ := O2.out.cells
                                go_wp2_with fail
                                go_meet
                                exact ⟨⟨_, rfl⟩, ⟨k, d, x, b, HBL.out, by rw [← HS.out]; exact P2.out, O2.out, HB2.out⟩⟩
                            · obtain ⟨hk, hbm, hg⟩ := mk_of_marks h0
                              have HG := Lib.hid hg
                              obtain ⟨m, hm⟩ : ∃ m, m = marksS k b := ⟨_, rfl⟩
                              rw [← hm] at hbm HG HMM
                              clear hg h0 hm
                              subst hk hbm
                              by_cases h2 : on < 2
                              · as_aux_lemma =>
                                  have hmm : mm = m.length := HMM.out
                                  have hm0 : ((mm : Int) == 0) = false := by rw [beq_eq_false_iff_ne]; have := HG.out.1; omega
                                  have GV := Lib.hid (give_low d x on m HG.out h2)
                                  have o1 : on < 2 := h2
                                  have o1d : decide (on < 2) = true := decide_eq_true h2
                                  clear hmm h2
                                  rw [show pv 0 0 0 [] = .agg #[.int .i64 0, .int .i64 0, .int .i64 0, .string ⟨#[]⟩] from rfl] at GV
                                  unfold pv at GV
                                  rw [← HS.out] at GV
                                  have ez := eq_zero
                                  obtain ⟨oP0, oP1, oP2, oP3⟩ := P1.out.cells
                                  obtain ⟨oO0, oO1⟩ := O1.out.cells
                                  go_wp2_with fail
                                  clear oP0 oP1 oP2 oP3 oO0 oO1
                                  refine (GV.out _).mono ?_; rintro e w2 ⟨rfl, hb⟩
                                  have P2 := Lib.hid (P1.out.kept hb)
                                  have O2 := Lib.hid (O1.out.kept hb)
                                  have HB2 := Lib.hid (HB1.out.trans (hb.mono (Below.size HB1.out)))
                                  clear hb HB1 P1 O1
                                  have hal := (Below.refl (w2).heap.size (w2)).alloc (Nat.le_refl _) (.cells #[.int .i64 0, .int .i64 0, .int .i64 0, .string ⟨#[]⟩] 23)
                                  replace P2 := Lib.hid (P2.out.kept hal)
                                  replace O2 := Lib.hid (O2.out.kept hal)
                                  have Q2 := Lib.hid (PBox.new (w2) (0) (0) (0) (⟨#[]⟩))
                                  replace HB2 := Lib.hid (HB2.out.trans (hal.mono (Below.size HB2.out)))
                                  clear hal
                                  obtain ⟨oP0, oP1, oP2, oP3⟩ := P2.out.cells
                                  obtain ⟨oO0, oO1⟩ := O2.out.cells
                                  go_wp2_with fail
                                  go_meet
                                  exact ⟨⟨_, rfl⟩, ⟨2, d, x, mk m, HBL.out, by rw [← HS.out]; exact P2.out, O2.out, HB2.out⟩⟩
                              · by_cases h3 : (m.length : Int) ≤ on
                                · as_aux_lemma =>
                                    have hmm : mm = m.length := HMM.out
                                    have hm0 : ((mm : Int) == 0) = false := by rw [beq_eq_false_iff_ne]; have := HG.out.1; omega
                                    have GV := Lib.hid (give_free d x on m HG.out h2 HON.out (used_out (.inr h3)))
                                    have o1 : ¬ on < 2 := h2
                                    have o1d : decide (on < 2) = false := decide_eq_false h2
                                    have o2 : (mm : Int) ≤ on := by omega
                                    have o2d : decide ((mm : Int) ≤ on) = true := decide_eq_true o2
                                    clear hmm h2 h3
                                    rw [show pv 0 0 0 [] = .agg #[.int .i64 0, .int .i64 0, .int .i64 0, .string ⟨#[]⟩] from rfl] at GV
                                    unfold pv at GV
                                    rw [← HS.out] at GV
                                    have ez := eq_zero
                                    obtain ⟨oP0, oP1, oP2, oP3⟩ := P1.out.cells
                                    obtain ⟨oO0, oO1⟩ := O1.out.cells
                                    go_wp2_with fail
                                    clear oP0 oP1 oP2 oP3 oO0 oO1
                                    refine (GV.out _).mono ?_; rintro e w2 ⟨rfl, hb⟩
                                    have P2 := Lib.hid (P1.out.kept hb)
                                    have O2 := Lib.hid (O1.out.kept hb)
                                    have HB2 := Lib.hid (HB1.out.trans (hb.mono (Below.size HB1.out)))
                                    clear hb HB1 P1 O1
                                    have hal := (Below.refl (w2).heap.size (w2)).alloc (Nat.le_refl _) (.cells #[.int .i64 0, .int .i64 0, .int .i64 0, .string ⟨#[]⟩] 23)
                                    replace P2 := Lib.hid (P2.out.kept hal)
                                    replace O2 := Lib.hid (O2.out.kept hal)
                                    have Q2 := Lib.hid (PBox.new (w2) (0) (0) (0) (⟨#[]⟩))
                                    replace HB2 := Lib.hid (HB2.out.trans (hal.mono (Below.size HB2.out)))
                                    clear hal
                                    obtain ⟨oP0, oP1, oP2, oP3⟩ := P2.out.cells
                                    obtain ⟨oO0, oO1⟩ := O2.out.cells
                                    go_wp2_with fail
                                    go_meet
                                    exact ⟨⟨_, rfl⟩, ⟨2, d, x, mk m, HBL.out, by rw [← HS.out]; exact P2.out, O2.out, HB2.out⟩⟩
                                · obtain ⟨ni, rfl⟩ : ∃ ni : Nat, on = (ni : Int) := ⟨on.toNat, by omega⟩
                                  have hni : ni < m.length := by omega
                                  rcases at_or HG.out hni with hu | hu
                                  · as_aux_lemma =>
                                      have hmm : mm = m.length := HMM.out
                                      have hm0 : ((mm : Int) == 0) = false := by rw [beq_eq_false_iff_ne]; have := HG.out.1; omega
                                      have o1 : ¬ (ni : Int) < 2 := h2
                                      have o1d : decide ((ni : Int) < 2) = false := decide_eq_false o1
                                      have o2 : ¬ (mm : Int) ≤ (ni : Int) := by omega
                                      have o2d : decide ((mm : Int) ≤ (ni : Int)) = false := decide_eq_false o2
                                      have o3 : (0 : Int) ≤ (ni : Int) := by omega
                                      have IX := Lib.hid (run_ix (mk m) ni (by rw [HG.out.len]; have := HG.out.1; omega))
                                      rw [getD_mk hni, (getD_getElem? (by decide)).2 hu] at IX
                                      rw [show (((1 : UInt8).toNat : Nat) : Int) = 1 from rfl] at IX
                                      have GV := Lib.hid (give_used d x ni m HG.out (by omega) (by rw [used_in hu]; rfl))
                                      have MP := Lib.hid (mapped_any d x m 2 ni (by have := HG.out.1; omega) hni)
                                      rw [show (((2 : UInt8).toNat : Nat) : Int) = 2 from rfl] at MP
                                      have HL2 := Lib.hid (show (mk (m.set ni 2)).length ≤ 300 by rw [mk_length (by rw [List.length_set]; have := HG.out.1; omega)]; omega)
                                      unfold pv at GV MP
                                      obtain ⟨s2, hs2⟩ : ∃ s, s = str (mk (m.set ni 2)) := ⟨_, rfl⟩
                                      rw [← hs2] at GV MP
                                      rw [← HS.out] at GV MP IX
                                      have ix := IX.out
                                      have HS2 := Lib.hid hs2
                                      clear hs2 hmm h2 h3 hni hu
                                      have NQ := Lib.hid (neq_same 2 d x s2)
                                      obtain ⟨oP0, oP1, oP2, oP3⟩ := P1.out.cells
                                      obtain ⟨oO0, oO1⟩ := O1.out.cells
                                      go_wp2_with fail
                                      clear oP0 oP1 oP2 oP3 oO0 oO1
                                      refine (GV.out _).mono ?_; rintro e w2 ⟨rfl, hb⟩
                                      have P2 := Lib.hid (P1.out.kept hb)
                                      have O2 := Lib.hid (O1.out.kept hb)
                                      have HB2 := Lib.hid (HB1.out.trans (hb.mono (Below.size HB1.out)))
                                      clear hb HB1 P1 O1
                                      have HPQ := Lib.hid P2.out.lt
                                      have hal := (Below.refl (w2).heap.size (w2)).alloc (Nat.le_refl _) (.cells #[.int .i64 2, .int .i64 d, .int .i64 x, .string s2] 23)
                                      replace P2 := Lib.hid (P2.out.kept hal)
                                      replace O2 := Lib.hid (O2.out.kept hal)
                                      have Q2 := Lib.hid (PBox.new (w2) (2) (d) (x) (s2))
                                      replace HB2 := Lib.hid (HB2.out.trans (hal.mono (Below.size HB2.out)))
                                      clear hal
                                      obtain ⟨oP0, oP1, oP2, oP3⟩ := P2.out.cells
                                      obtain ⟨oO0, oO1⟩ := O2.out.cells
                                      go_upto_region 43 with fail
                                      clear oP0 oP1 oP2 oP3 oO0 oO1
                                      obtain ⟨bQ, hbQ⟩ : ∃ bQ, bQ = (w2).heap.size := ⟨_, rfl⟩
                                      rw [← hbQ] at Q2 ⊢
                                      have HLQ := Lib.hid hbQ
                                      clear hbQ
                                      generalize (w2).alloc (.cells #[.int .i64 2, .int .i64 d, .int .i64 x, .string s2] 23) = V3 at *
                                      have HQP := Lib.hid (show bQ ≠ bP by rw [HLQ.out]; exact Nat.ne_of_gt HPQ.out)
                                      obtain ⟨oP0, oP1, oP2, oP3⟩ := P2.out.cells
                                      obtain ⟨oO0, oO1⟩ := O2.out.cells
                                      go_wp2_with fail
                                      clear oP0 oP1 oP2 oP3 oO0 oO1
                                      refine (MP.out _).mono ?_; rintro e w3 ⟨rfl, hb⟩
                                      have P3 := Lib.hid (P2.out.kept hb)
                                      have O3 := Lib.hid (O2.out.kept hb)
                                      have Q3 := Lib.hid (Q2.out.kept hb)
                                      have HB3 := Lib.hid (HB2.out.trans (hb.mono (Below.size HB2.out)))
                                      clear hb HB2 P2 O2 Q2
                                      obtain ⟨⟨oP0, oP1, oP2, oP3⟩, fP0, fP1, fP2, fP3⟩ := And.intro P3.out.cells P3.out.free
                                      go_upto_region 44 with fail
                                      clear oP0 oP1 oP2 oP3 fP0 fP1 fP2 fP3
                                      have P9 := Lib.hid (P3.out.set4 2 d x s2)
                                      have O9 := Lib.hid (show OBox ((((w3.setCell ⟨bP, 0, none⟩ (.int .i64 2)).setCell ⟨bP, 1, none⟩ (.int .i64 d)).setCell ⟨bP, 2, none⟩ (.int .i64 x)).setCell ⟨bP, 3, none⟩ (.string s2)) bO 2 ni from (heap_set4 _ _ _ _ _ _ _ HNO.out).trans O3.out)
                                      have Q9 := Lib.hid (show PBox ((((w3.setCell ⟨bP, 0, none⟩ (.int .i64 2)).setCell ⟨bP, 1, none⟩ (.int .i64 d)).setCell ⟨bP, 2, none⟩ (.int .i64 x)).setCell ⟨bP, 3, none⟩ (.string s2)) bQ 2 d x s2 from (heap_set4 _ _ _ _ _ _ _ HQP.out).trans Q3.out)
                                      have HB9 := Lib.hid (below_set4 (u0 := .int .i64 2) (u1 := .int .i64 d) (u2 := .int .i64 x) (u3 := .string s2) HB3.out HLE.out)
                                      generalize (((w3.setCell ⟨bP, 0, none⟩ (.int .i64 2)).setCell ⟨bP, 1, none⟩ (.int .i64 d)).setCell ⟨bP, 2, none⟩ (.int .i64 x)).setCell ⟨bP, 3, none⟩ (.string s2) = V9 at *
                                      clear P3 HB3 O3 Q3
                                      have nq := NQ.out
                                      obtain ⟨oP0, oP1, oP2, oP3⟩ := P9.out.cells
                                      obtain ⟨oQ0, oQ1, oQ2, oQ3⟩ := Q9.out.cells
                                      go_wp2_with fail
                                      go_meet
                                      exact ⟨⟨_, rfl⟩, ⟨2, d, x, mk (m.set ni 2), HL2.out, by rw [← HS2.out]; exact P9.out, O9.out, HB9.out⟩⟩
                                  · as_aux_lemma =>
                                      have hmm : mm = m.length := HMM.out
                                      have hm0 : ((mm : Int) == 0) = false := by rw [beq_eq_false_iff_ne]; have := HG.out.1; omega
                                      have o1 : ¬ (ni : Int) < 2 := h2
                                      have o1d : decide ((ni : Int) < 2) = false := decide_eq_false o1
                                      have o2 : ¬ (mm : Int) ≤ (ni : Int) := by omega
                                      have o2d : decide ((mm : Int) ≤ (ni : Int)) = false := decide_eq_false o2
                                      have o3 : (0 : Int) ≤ (ni : Int) := by omega
                                      have IX := Lib.hid (run_ix (mk m) ni (by rw [HG.out.len]; have := HG.out.1; omega))
                                      rw [getD_mk hni, (getD_getElem? (by decide)).2 hu] at IX
                                      rw [show (((2 : UInt8).toNat : Nat) : Int) = 2 from rfl] at IX
                                      have GV := Lib.hid (give_free d x ni m HG.out h2 HON.out (by rw [used_in hu]; rfl))
                                      rw [← HS.out] at IX
                                      have ix := IX.out
                                      clear hmm h2 h3 hni hu
                                      rw [show pv 0 0 0 [] = .agg #[.int .i64 0, .int .i64 0, .int .i64 0, .string ⟨#[]⟩] from rfl] at GV
                                      unfold pv at GV
                                      rw [← HS.out] at GV
                                      have ez := eq_zero
                                      obtain ⟨oP0, oP1, oP2, oP3⟩ := P1.out.cells
                                      obtain ⟨oO0, oO1⟩ := O1.out.cells
                                      go_wp2_with fail
                                      clear oP0 oP1 oP2 oP3 oO0 oO1
                                      refine (GV.out _).mono ?_; rintro e w2 ⟨rfl, hb⟩
                                      have P2 := Lib.hid (P1.out.kept hb)
                                      have O2 := Lib.hid (O1.out.kept hb)
                                      have HB2 := Lib.hid (HB1.out.trans (hb.mono (Below.size HB1.out)))
                                      clear hb HB1 P1 O1
                                      have hal := (Below.refl (w2).heap.size (w2)).alloc (Nat.le_refl _) (.cells #[.int .i64 0, .int .i64 0, .int .i64 0, .string ⟨#[]⟩] 23)
                                      replace P2 := Lib.hid (P2.out.kept hal)
                                      replace O2 := Lib.hid (O2.out.kept hal)
                                      have Q2 := Lib.hid (PBox.new (w2) (0) (0) (0) (⟨#[]⟩))
                                      replace HB2 := Lib.hid (HB2.out.trans (hal.mono (Below.size HB2.out)))
                                      clear hal
                                      obtain ⟨oP0, oP1, oP2, oP3⟩ := P2.out.cells
                                      obtain ⟨oO0, oO1⟩ := O2.out.cells
                                      go_wp2_with fail
                                      go_meet
                                      exact ⟨⟨_, rfl⟩, ⟨2, d, x, mk m, HBL.out, by rw [← HS.out]; exact P2.out, O2.out, HB2.out⟩⟩
                          · as_aux_lemma =>
                              have b1 : (ok == 1) = false := by simpa using hk1
                              have b2 : (ok == 2) = false := by simpa using hk2
                              obtain ⟨oO0, oO1⟩ := O1.out.cells
                              go_wp2_with fail
                              go_meet
                              exact ⟨⟨_, rfl⟩, ⟨k, d, x, b, HBL.out, by rw [← HS.out]; exact P1.out, O1.out, HB1.out⟩⟩
                      case rest =>
                        as_aux_lemma =>
                          obtain ⟨⟨z9, rfl⟩, hq⟩ := hcut
                          clear P1 O1 HB1 RM HS HMM HBL
                          clear k d x b s mm
                          obtain ⟨k, d, x, b, hb1, hb2, hb3, hb4⟩ := hq.out
                          have HBL := Lib.hid hb1
                          have P0 := Lib.hid hb2
                          have O0 := Lib.hid hb3
                          have HB0 := Lib.hid hb4
                          clear hq hb1 hb2 hb3 hb4
                          have RM := Lib.hid (rmap_any k d x b)
                          have FR := Lib.hid (free_any k d x b (by have := HBL.out; omega))
                          have PA := Lib.hid (pages_any k d x b (by have := HBL.out; omega))
                          have US := Lib.hid (used_any k d x on b (by have := HBL.out; omega) HON.out)
                          have IX := Lib.hid (fun (i : Nat) (hi : i < (marksS k b).length) w => run_ixm hi w)
                          unfold pv at RM FR PA US
                          obtain ⟨s, hs⟩ : ∃ s, s = str b := ⟨_, rfl⟩
                          rw [← hs] at RM FR PA US IX P0
                          have HS := Lib.hid hs
                          obtain ⟨m, hm⟩ : ∃ m, m = marksS k b := ⟨_, rfl⟩
                          have HMO := Lib.hid (fun (i : Nat) (hi : i < (marksS k b).length) => mark_or hi)
                          rw [← hm] at RM FR PA US IX HMO
                          have hm64 := marks_le k b
                          rw [← hm] at hm64
                          have HM := Lib.hid hm
                          clear hs hm
                          obtain ⟨mm, hmm⟩ : ∃ mm, mm = m.length := ⟨_, rfl⟩
                          rw [← hmm] at RM PA IX HMO hm64
                          have HMM := Lib.hid hmm
                          clear hmm
                          obtain ⟨oP0, oP1, oP2, oP3⟩ := P0.out.cells
                          go_wp2_with fail
                          clear oP0 oP1 oP2 oP3
                          refine (RM.out _).mono ?_; rintro e w1 ⟨rfl, hb⟩
                          have P1 := Lib.hid (P0.out.kept hb)
                          have O1 := Lib.hid (O0.out.kept hb)
                          have HB1 := Lib.hid (HB0.out.trans (hb.mono (Below.size HB0.out)))
                          clear hb HB0 P0 O0
                          go_wp2_with fail
                          go_loopw [23, 24] (fun u v wz => ∃ i : Nat, i ≤ mm ∧ v = .int .i64 i ∧ u = .int .i64 ((fr m i : Nat) : Int) ∧ wz = w1) (fun _ v _ => mm - (intOf v).toNat)
                          case atStart => exact ⟨0, Nat.zero_le _, rfl, by simp [fr], rfl⟩
                          case round =>
                            obtain ⟨i, hi, rfl, rfl, hwz⟩ := hrel
                            subst hwz
                            have i0 : (0 : Int) ≤ (i : Int) := by omega
                            have i9 : IntKind.i64.wrap ((i : Int) + 1) = (i : Int) + 1 := IntWalk.i64_in _ (by omega)
                            have hfr := fr_le m i
                            rw [← HMM.out] at hfr
                            by_cases hlt2 : i < mm
                            · have i1 : (i : Int) < (mm : Int) := by omega
                              have ix := IX.out i hlt2
                              have HFS := Lib.hid (fun c (h : m[i]? = some c) => fr_step h)
                              rcases HMO.out i hlt2 with ⟨h1, h2⟩ | ⟨h1, h2⟩
                              · as_aux_lemma =>
                                  rw [h1, show (((1 : UInt8).toNat : Nat) : Int) = 1 from rfl] at ix
                                  have HF2 := Lib.hid (show fr m (i + 1) = fr m i by rw [HFS.out 1 h2, if_neg (by decide), Nat.add_zero])
                                  obtain ⟨cc, hcc⟩ : ∃ cc : Int, cc = ((fr m i : Nat) : Int) := ⟨_, rfl⟩
                                  rw [← hcc]
                                  have HCC := Lib.hid hcc
                                  clear hcc h1 h2 hfr
                                  obtain ⟨oP0, oP1, oP2, oP3⟩ := P1.out.cells
                                  go_wp2_with fail
                                  go_roundw
                                  case rel => exact ⟨i + 1, by omega, by go_num, by rw [HF2.out, HCC.out], by trivial⟩
                                  case measure => simp [intOf]; omega
                              · as_aux_lemma =>
                                  rw [h1, show (((2 : UInt8).toNat : Nat) : Int) = 2 from rfl] at ix
                                  have HF2 := Lib.hid (show fr m (i + 1) = fr m i + 1 by rw [HFS.out 2 h2, if_pos rfl])
                                  obtain ⟨cc, hcc⟩ : ∃ cc : Int, cc = ((fr m i : Nat) : Int) := ⟨_, rfl⟩
                                  rw [← hcc]
                                  have HCC := Lib.hid hcc
                                  have c9 : IntKind.i64.wrap (cc + 1) = cc + 1 := IntWalk.i64_in _ (by omega)
                                  clear hcc h1 h2 hfr
                                  obtain ⟨oP0, oP1, oP2, oP3⟩ := P1.out.cells
                                  go_wp2_with fail
                                  go_roundw
                                  case rel => exact ⟨i + 1, by omega, by go_num, by rw [HF2.out, show (((fr m i + 1 : Nat)) : Int) = cc + 1 by rw [HCC.out]; omega], by trivial⟩
                                  case measure => simp [intOf]; omega
                            · have i1 : ¬ (i : Int) < (mm : Int) := by omega
                              have him : i = m.length := by rw [← HMM.out]; omega
                              have hfa := fr_all m
                              rw [← him] at hfa
                              rw [hfa]
                              obtain ⟨cc, hcc⟩ : ∃ cc : Int, cc = ((m.count 2 : Nat) : Int) := ⟨_, rfl⟩
                              rw [← hcc] at FR ⊢
                              clear hcc hfa hfr him
                              by_cases ho : on < 0
                              · as_aux_lemma =>
                                  rw [used_out (.inl ho)] at US
                                  have o1 : ¬ 0 ≤ on := by omega
                                  have o1d : decide (0 ≤ on) = false := decide_eq_false o1
                                  obtain ⟨oP0, oP1, oP2, oP3⟩ := P1.out.cells
                                  obtain ⟨oO0, oO1⟩ := O1.out.cells
                                  go_wp2_with fail
                                  clear oP0 oP1 oP2 oP3 oO0 oO1
                                  refine (FR.out _).mono ?_; rintro e w2 ⟨rfl, hb⟩
                                  have P2 := Lib.hid (P1.out.kept hb)
                                  have O2 := Lib.hid (O1.out.kept hb)
                                  have HB2 := Lib.hid (HB1.out.trans (hb.mono (Below.size HB1.out)))
                                  clear hb HB1 P1 O1
                                  obtain ⟨oP0, oP1, oP2, oP3⟩ := P2.out.cells
                                  go_wp2_with fail
                                  clear oP0 oP1 oP2 oP3
                                  refine (PA.out _).mono ?_; rintro e w3 ⟨rfl, hb⟩
                                  have P3 := Lib.hid (P2.out.kept hb)
                                  have O3 := Lib.hid (O2.out.kept hb)
                                  have HB3 := Lib.hid (HB2.out.trans (hb.mono (Below.size HB2.out)))
                                  clear hb HB2 P2 O2
                                  obtain ⟨oP0, oP1, oP2, oP3⟩ := P3.out.cells
                                  obtain ⟨oO0, oO1⟩ := O3.out.cells
                                  go_wp2_with fail
                                  clear oP0 oP1 oP2 oP3 oO0 oO1
                                  refine (US.out _).mono ?_; rintro e w4 ⟨rfl, hb⟩
                                  have P4 := Lib.hid (P3.out.kept hb)
                                  have O4 := Lib.hid (O3.out.kept hb)
                                  have HB4 := Lib.hid (HB3.out.trans (hb.mono (Below.size HB3.out)))
                                  clear hb HB3 P3 O3
                                  go_wp2_with fail
                                  go_roundw
                                  case rel => exact ⟨j + 1, by omega, by go_num, k, d, x, b, HBL.out, by rw [← HS.out]; exact P4.out, HB4.out⟩
                                  case measure => simp [intOf]; omega
                              · by_cases ho2 : (mm : Int) ≤ on
                                · as_aux_lemma =>
                                    rw [used_out (.inr (by rw [← HMM.out]; exact ho2))] at US
                                    have o1 : 0 ≤ on := by omega
                                    have o1d : decide (0 ≤ on) = true := decide_eq_true o1
                                    have o2 : ¬ on < (mm : Int) := by omega
                                    have o2d : decide (on < (mm : Int)) = false := decide_eq_false o2
                                    obtain ⟨oP0, oP1, oP2, oP3⟩ := P1.out.cells
                                    obtain ⟨oO0, oO1⟩ := O1.out.cells
                                    go_wp2_with fail
                                    clear oP0 oP1 oP2 oP3 oO0 oO1
                                    refine (FR.out _).mono ?_; rintro e w2 ⟨rfl, hb⟩
                                    have P2 := Lib.hid (P1.out.kept hb)
                                    have O2 := Lib.hid (O1.out.kept hb)
                                    have HB2 := Lib.hid (HB1.out.trans (hb.mono (Below.size HB1.out)))
                                    clear hb HB1 P1 O1
                                    obtain ⟨oP0, oP1, oP2, oP3⟩ := P2.out.cells
                                    go_wp2_with fail
                                    clear oP0 oP1 oP2 oP3
                                    refine (PA.out _).mono ?_; rintro e w3 ⟨rfl, hb⟩
                                    have P3 := Lib.hid (P2.out.kept hb)
                                    have O3 := Lib.hid (O2.out.kept hb)
                                    have HB3 := Lib.hid (HB2.out.trans (hb.mono (Below.size HB2.out)))
                                    clear hb HB2 P2 O2
                                    obtain ⟨oP0, oP1, oP2, oP3⟩ := P3.out.cells
                                    obtain ⟨oO0, oO1⟩ := O3.out.cells
                                    go_wp2_with fail
                                    clear oP0 oP1 oP2 oP3 oO0 oO1
                                    refine (US.out _).mono ?_; rintro e w4 ⟨rfl, hb⟩
                                    have P4 := Lib.hid (P3.out.kept hb)
                                    have O4 := Lib.hid (O3.out.kept hb)
                                    have HB4 := Lib.hid (HB3.out.trans (hb.mono (Below.size HB3.out)))
                                    clear hb HB3 P3 O3
                                    go_wp2_with fail
                                    go_roundw
                                    case rel => exact ⟨j + 1, by omega, by go_num, k, d, x, b, HBL.out, by rw [← HS.out]; exact P4.out, HB4.out⟩
                                    case measure => simp [intOf]; omega
                                · obtain ⟨ni, rfl⟩ : ∃ ni : Nat, on = (ni : Int) := ⟨on.toNat, by omega⟩
                                  have o1 : 0 ≤ (ni : Int) := by omega
                                  have o1d : decide (0 ≤ (ni : Int)) = true := decide_eq_true o1
                                  have o2 : (ni : Int) < (mm : Int) := by omega
                                  have o2d : decide ((ni : Int) < (mm : Int)) = true := decide_eq_true o2
                                  have hni : ni < mm := by omega
                                  have ix := IX.out ni hni
                                  rcases HMO.out ni hni with ⟨h1, h2⟩ | ⟨h1, h2⟩
                                  · as_aux_lemma =>
                                      rw [h1, show (((1 : UInt8).toNat : Nat) : Int) = 1 from rfl] at ix
                                      rw [used_in h2, show decide ((1 : UInt8) = 1) = true from rfl] at US
                                      clear h1 h2
                                      obtain ⟨oP0, oP1, oP2, oP3⟩ := P1.out.cells
                                      obtain ⟨oO0, oO1⟩ := O1.out.cells
                                      go_wp2_with fail
                                      clear oP0 oP1 oP2 oP3 oO0 oO1
                                      refine (FR.out _).mono ?_; rintro e w2 ⟨rfl, hb⟩
                                      have P2 := Lib.hid (P1.out.kept hb)
                                      have O2 := Lib.hid (O1.out.kept hb)
                                      have HB2 := Lib.hid (HB1.out.trans (hb.mono (Below.size HB1.out)))
                                      clear hb HB1 P1 O1
                                      obtain ⟨oP0, oP1, oP2, oP3⟩ := P2.out.cells
                                      go_wp2_with fail
                                      clear oP0 oP1 oP2 oP3
                                      refine (PA.out _).mono ?_; rintro e w3 ⟨rfl, hb⟩
                                      have P3 := Lib.hid (P2.out.kept hb)
                                      have O3 := Lib.hid (O2.out.kept hb)
                                      have HB3 := Lib.hid (HB2.out.trans (hb.mono (Below.size HB2.out)))
                                      clear hb HB2 P2 O2
                                      obtain ⟨oP0, oP1, oP2, oP3⟩ := P3.out.cells
                                      obtain ⟨oO0, oO1⟩ := O3.out.cells
                                      go_wp2_with fail
                                      clear oP0 oP1 oP2 oP3 oO0 oO1
                                      refine (US.out _).mono ?_; rintro e w4 ⟨rfl, hb⟩
                                      have P4 := Lib.hid (P3.out.kept hb)
                                      have O4 := Lib.hid (O3.out.kept hb)
                                      have HB4 := Lib.hid (HB3.out.trans (hb.mono (Below.size HB3.out)))
                                      clear hb HB3 P3 O3
                                      go_wp2_with fail
                                      go_roundw
                                      case rel => exact ⟨j + 1, by omega, by go_num, k, d, x, b, HBL.out, by rw [← HS.out]; exact P4.out, HB4.out⟩
                                      case measure => simp [intOf]; omega
                                  · as_aux_lemma =>
                                      rw [h1, show (((2 : UInt8).toNat : Nat) : Int) = 2 from rfl] at ix
                                      rw [used_in h2, show decide ((2 : UInt8) = 1) = false from rfl] at US
                                      clear h1 h2
                                      obtain ⟨oP0, oP1, oP2, oP3⟩ := P1.out.cells
                                      obtain ⟨oO0, oO1⟩ := O1.out.cells
                                      go_wp2_with fail
                                      clear oP0 oP1 oP2 oP3 oO0 oO1
                                      refine (FR.out _).mono ?_; rintro e w2 ⟨rfl, hb⟩
                                      have P2 := Lib.hid (P1.out.kept hb)
                                      have O2 := Lib.hid (O1.out.kept hb)
                                      have HB2 := Lib.hid (HB1.out.trans (hb.mono (Below.size HB1.out)))
                                      clear hb HB1 P1 O1
                                      obtain ⟨oP0, oP1, oP2, oP3⟩ := P2.out.cells
                                      go_wp2_with fail
                                      clear oP0 oP1 oP2 oP3
                                      refine (PA.out _).mono ?_; rintro e w3 ⟨rfl, hb⟩
                                      have P3 := Lib.hid (P2.out.kept hb)
                                      have O3 := Lib.hid (O2.out.kept hb)
                                      have HB3 := Lib.hid (HB2.out.trans (hb.mono (Below.size HB2.out)))
                                      clear hb HB2 P2 O2
                                      obtain ⟨oP0, oP1, oP2, oP3⟩ := P3.out.cells
                                      obtain ⟨oO0, oO1⟩ := O3.out.cells
                                      go_wp2_with fail
                                      clear oP0 oP1 oP2 oP3 oO0 oO1
                                      refine (US.out _).mono ?_; rintro e w4 ⟨rfl, hb⟩
                                      have P4 := Lib.hid (P3.out.kept hb)
                                      have O4 := Lib.hid (O3.out.kept hb)
                                      have HB4 := Lib.hid (HB3.out.trans (hb.mono (Below.size HB3.out)))
                                      clear hb HB3 P3 O3
                                      go_wp2_with fail
                                      go_roundw
                                      case rel => exact ⟨j + 1, by omega, by go_num, k, d, x, b, HBL.out, by rw [← HS.out]; exact P4.out, HB4.out⟩
                                      case measure => simp [intOf]; omega
                  · as_aux_lemma =>
                      obtain rfl : n3 = j := by omega
                      have j1 : ¬ (n3 : Int) < (n3 : Int) := by omega
                      go_wp2_with fail
                      go_ret
                      exact ⟨rfl, HB0.out⟩

/-! The row's step. -/
set_option maxRecDepth 100000 in
theorem lifted (os : Os) (started : os.Started) (H : Type) (enc : TypeId × Value → H) :
    ReturnsInHanded {} Tryd.checked os 3 .any (fun w args => (Rows.spacePlaysSpec.pre enc Tryd.prog Tryd.f3 [] false w args ∧ laidMetH Tryd.prog laidL w) ∧ sizedMet enc Tryd.prog Tryd.f3 (OpenSpec.ofChange Rows.spacePlaysSpec) false w args)
      (Rows.spacePlaysSpec.post enc Tryd.prog Tryd.f3 false true false false) := by
  refine returnsInHanded_of_change_and (C := Tryd.checked) (X := fun w _ => laidMetH Tryd.prog laidL w) (fun _ _ _ hh h => h.of_heap hh) own started (by kernel_rfl) Tryd.func3
    (ChangeSpec.witness_shaped (enc := enc) (C := Tryd.checked) (os := os) (X := fun w _ => laidMetH Tryd.prog laidL w) false (World.laidAll Tryd.prog os laidL) #[.int .i64 0, .agg #[.int .i64 0, .int .i64 0, .int .i64 0, .string ByteArray.empty], .bool false, .slice none 0 0] 8 (World.laidAll_os _ _ _)
      (World.shaped_of_ZipB (by kernel_rfl) (by kernel_rfl)) (by kernel_rfl) (by kernel_rfl) (by kernel_rfl)
      (by rw [MakeChecks.laidMetH_plain _ _ _ (by kernel_rfl)]; exact laidMet_laidAll _ (by kernel_rfl) (by kernel_rfl))) ?_
  intro W base args ds gs before hval0 hW _ _ hL _
  have hval : ∀ (j : Nat) t v, Tryd.f3.params[j]? = some t → args[j]? = some v → Value.okWide Tryd.prog W .any base t v := hval0
  have hW' := hW
  obtain ⟨p, q, hA0, hV, rfl, hfz, hnd⟩ := hW
  have hA : DataW.TrodAll enc Tryd.prog W 0 (fun _ => true) true Tryd.f3.params.toList args.toList ds p := hA0
  rw [Tryd.params3] at hA hval
  obtain ⟨v0, vs0, d0, ds0, p0, q0, hargs, rfl, rfl, h0, r0⟩ := trodAll_cons hA
  obtain ⟨v1, vs1, d1, ds1, p1, q1, rfl, rfl, rfl, h1, r1⟩ := trodAll_cons r0
  obtain ⟨v2, vs2, d2, ds2, p2, q2, rfl, rfl, rfl, h2, r2⟩ := trodAll_cons r1
  obtain ⟨v3, vs3, d3, ds3, p3, q3, rfl, rfl, rfl, h3, r3⟩ := trodAll_cons r2
  obtain ⟨rfl, rfl, rfl⟩ := trodAll_nil r3
  obtain rfl : args = #[v0, v1, v2, v3] := by cases args; simp_all
  obtain ⟨rfl, rfl⟩ := trodVars_none hV
  obtain ⟨a0, rfl, rfl, rfl, w0⟩ := open_int Tryd.underlying3 (hval 0 3 v0 rfl rfl) h0
  obtain ⟨k1, s1, b1, z1, rfl, wk1, ws1, wb1, wz1, sh1⟩ := open_page (hval 1 23 v1 rfl rfl) h1
  obtain ⟨a2, rfl, rfl, rfl⟩ := open_bool Tryd.underlying4 (hval 2 4 v2 rfl rfl) h2
  obtain ⟨A3, n3, c3, rfl⟩ := okWide_slice Tryd.underlying24 (hval 3 24 v3 rfl rfl)
  have k3 := h3
  have lt3 : ∀ x ∈ p3, x.block < W.heap.size := by obtain ⟨m, hm⟩ := k3; exact DataW.trod_lt m _ _ _ hm
  obtain ⟨l3, w3, e3, f3⟩ := (by obtain ⟨fuel, hf⟩ := h3; exact ops_read hf (fun _ => rfl) : ∃ l, OpsL W A3 n3 l ∧ n3 ≤ c3 ∧ c3 ≤ maxLen)
  clear hA0 hval0
  refine (walk a0 k1 s1 b1 z1 a2 A3 n3 c3 l3 W w0 wk1 ws1 wb1 wz1 w3 (Nat.le_trans e3 f3)).mono fun e W' ⟨he, bel⟩ => ?_
  subst he
  exact ⟨_, rfl, _, _, _, [], _, [], hW', trodAll_mk1 (shut_bool Tryd.underlying4 _), (trodAll_cons_mk (shut_int Tryd.underlying3 w0) (trodAll_cons_mk (sh1 _ _) (trodAll_cons_mk (shut_bool Tryd.underlying4 _) (trodAll_cons_mk (Below.trod laidOut (by kernel_rfl) (of_decide_eq_true (by kernel_rfl)) k3 bel lt3) trodAll_mk0)))), rfl, bel.frame _, fun h => by cases h⟩

/-- The row's statement. -/
theorem over : Rows.SpacePlaysSaid :=
  OpenClaim.holds_of_wide 3 Tryd.f3 rfl rfl rfl rfl rfl rfl rfl ⟨rfl, rfl, rfl, rfl, rfl⟩ rfl rfl rfl rfl rfl (by kernel_rfl) Tryd.func3 (by kernel_rfl)
    (of_decide_eq_true (by kernel_rfl)) (by unfold Func.isWrapper; first | (rw [if_pos (by decide +kernel)]; kernel_rfl) | (rw [if_neg (by decide +kernel)]; exact ⟨rfl, rfl⟩))
    (fun os started H enc _ => lifted os started H enc)

/-- The card. -/
theorem proved : Rows.SpacePlaysCardSaid :=
  Claim7.holds_tied_plain_at .later [] [.data, .pinned] true Rows.spacePlaysCard.stood.harness false
    over (fun _ h => by cases h) (by kernel_rfl) (fun _ h => by cases h) spacePlays_row_tie rfl ⟨rfl, rfl⟩ (by kernel_rfl) rfl
    (fun f fn hf hfn => by
      obtain rfl : f = 3 := Option.some.inj ((show Tryd.prog.funcNamed "honeycomb/honeycomblaw9.SpacePlays" = some 3 by kernel_rfl).symm.trans hf) |>.symm
      obtain rfl : fn = Tryd.f3 := (Option.some.inj (Tryd.func3.symm.trans hfn)).symm
      exact ⟨by kernel_rfl, fun j t ht => by
        rw [Tryd.params3] at ht
        have hm : t ∈ [3, 23, 4, 24] := by simpa using Array.mem_of_getElem? ht
        have hall : ([3, 23, 4, 24].all fun u => !Tryd.prog.wantsStandIn u) = true := by kernel_rfl
        exact (show Tryd.prog.wantsStandIn t = false by simpa using List.all_eq_true.1 hall t hm)⟩)
    (by kernel_rfl)
end Go.Proofs.YtkbbpdpalfpchaaDoor.spacePlays
