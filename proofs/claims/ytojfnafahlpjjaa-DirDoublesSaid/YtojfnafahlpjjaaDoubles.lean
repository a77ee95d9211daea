/- Behind doubling each entry, and the one so much further, are what the entry was; a directory that is not doubled has as many entries as there may be. -/
import Derived.Test.YtojfnafahlpjjaaRows
import Derived.Test.YtojfnafahlpjjaaAsk
import Derived.LoopTactic
import Derived.StillTailTactics
import Derived.BigQuiet
import Derived.Deep.DeepCutAuto
import Derived.Deep.RegionLaw
import Derived.Deep.CutBlock
import Derived.Lib.Hide
import Derived.WalkKit
import Derived.ProofKit
import Derived.OpenShut
import Derived.ChangeOld
import Derived.Below
import Derived.Carry
namespace Go.Proofs.Ytojfnafahlpjjaa.dirDoubles
open Go.ChangeShapes Go.WideShapes Go.ChangeAt Go.RowKit
set_option linter.unusedVariables false

theorem own : ownKnob Try.prog.godebug = none := by kernel_rfl
theorem laidOut : laidOutB Try.prog = true := by kernel_rfl


set_option maxRecDepth 100000 in
set_option maxHeartbeats 100000000 in
theorem walk (a0 : Int) (A1 : Option Addr) (n1 c1 : Nat) (l1 : List Opp) (w : World) (w0 : (Lit.int .i64 a0).wf = true) (w1 : OpsL w A1 n1 l1) (e1 : n1 ≤ maxLen) :
    Calls Try.prog 6 #[.int .i64 a0, .slice A1 n1 c1] w fun e w' => e = .returned (.bool true) ∧ Below w.heap.size w w' := by
  have AL := Lib.hid alive_yes
  have HB0 := Lib.hid (Below.refl w.heap.size w)
  by_cases x0 : a0 < 2
  · as_aux_lemma =>
      have dx0 : decide (a0 < 2) = true := decide_eq_true x0
      go_enter Try.func6, Try.ntmps6
      go_wp2_with fail
      refine (AL.out _).mono ?_; rintro e w1 ⟨rfl, hb⟩
      have HB1 := Lib.hid (HB0.out.trans (hb.mono (Below.size HB0.out)))
      clear hb HB0 
      go_wp2_with fail
      go_ret
      exact ⟨rfl, HB1.out⟩
  · have dx0 : decide (a0 < 2) = false := decide_eq_false x0
    by_cases x1 : 64 ≤ a0
    · as_aux_lemma =>
        have dx1 : decide (a0 ≥ 64) = true := decide_eq_true x1
        go_enter Try.func6, Try.ntmps6
        go_wp2_with fail
        refine (AL.out _).mono ?_; rintro e w1 ⟨rfl, hb⟩
        have HB1 := Lib.hid (HB0.out.trans (hb.mono (Below.size HB0.out)))
        clear hb HB0 
        go_wp2_with fail
        go_ret
        exact ⟨rfl, HB1.out⟩
    · have dx1 : decide (a0 ≥ 64) = false := decide_eq_false x1
      by_cases x2 : 30 < (n1 : Int)
      · as_aux_lemma =>
          have dx2 : decide ((n1 : Int) > 30) = true := decide_eq_true x2
          go_enter Try.func6, Try.ntmps6
          go_wp2_with fail
          refine (AL.out _).mono ?_; rintro e w1 ⟨rfl, hb⟩
          have HB1 := Lib.hid (HB0.out.trans (hb.mono (Below.size HB0.out)))
          clear hb HB0 
          go_wp2_with fail
          go_ret
          exact ⟨rfl, HB1.out⟩
      · have dx2 : decide ((n1 : Int) > 30) = false := decide_eq_false x2
        have hf : 2 ≤ a0 ∧ a0 < 64 := ⟨by omega, by omega⟩
        have hn3 : n1 ≤ 30 := by omega
        have HP := Lib.hid (fun (i : Nat) (hi : i < n1) (w' : World) (hb : Below w.heap.size w w') => w1.at hi hb)
        clear w1
        have NE := Lib.hid (fun w => (show Calls Try.prog 9 #[.int .i64 a0] w fun q w' => q = .returned (.tuple #[pv 1 0 0 (mkD [a0]), .bool true]) ∧ Below w.heap.size w w' from new_ok a0 hf w))
        have HG0 := Lib.hid (good_one hf)
        unfold pv at NE
        obtain ⟨s0, hs0⟩ : ∃ s, s = str (mkD [a0]) := ⟨_, rfl⟩
        rw [← hs0] at NE
        have HS0 := Lib.hid hs0
        clear hs0 hf
        have q1 : ¬ (a0 < 2) := by omega
        have q2 : ¬ (64 ≤ a0) := by omega
        have q3 : ¬ (30 < (n1 : Int)) := by omega
        go_enter Try.func6, Try.ntmps6
        go_wp2_with fail
        refine (AL.out _).mono ?_; rintro e w1 ⟨rfl, hb⟩
        have HB1 := Lib.hid (HB0.out.trans (hb.mono (Below.size HB0.out)))
        clear hb HB0 
        go_wp2_with fail
        refine (NE.out _).mono ?_; rintro e w2 ⟨rfl, hb⟩
        have HB2 := Lib.hid (HB1.out.trans (hb.mono (Below.size HB1.out)))
        clear hb HB1 
        have HSZ := Lib.hid HB2.out.size
        have hal := (Below.refl (w2).heap.size (w2)).alloc (Nat.le_refl _) (.cells #[.int .i64 1, .int .i64 0, .int .i64 0, .string s0] 23)
        have P2 := Lib.hid (PBox.new (w2) (1) (0) (0) (s0))
        replace HB2 := Lib.hid (HB2.out.trans (hal.mono (Below.size HB2.out)))
        clear hal
        go_wp2_with fail
        obtain ⟨bP, hbP⟩ : ∃ bP, bP = (w2).heap.size := ⟨_, rfl⟩
        rw [← hbP] at P2 ⊢
        have HLP := Lib.hid hbP
        clear hbP
        generalize (w2).alloc (.cells #[.int .i64 1, .int .i64 0, .int .i64 0, .string s0] 23) = v2 at *
        have HLE := Lib.hid (show w.heap.size ≤ bP by rw [HLP.out]; exact HSZ.out)
        have HST := Lib.hid (show ∃ (e : Nat) (L : List Int), GoodD L e ∧ PBox v2 bP 1 e 0 (str (mkD L)) ∧ Below w.heap.size w v2 from ⟨0, [a0], HG0.out, by rw [← HS0.out]; exact P2.out, HB2.out⟩)
        clear P2 HB2 NE HS0 HG0 HLP HSZ
        go_loopw [42] (fun x wr => ∃ j : Nat, j ≤ n1 ∧ x = .int .i64 j ∧ Hid (∃ (e : Nat) (L : List Int), GoodD L e ∧ PBox wr bP 1 e 0 (str (mkD L)) ∧ Below w.heap.size w wr)) (fun x _ => n1 - (intOf x).toNat)
        case atStart => exact ⟨0, Nat.zero_le _, rfl, HST.out⟩
        case round =>
          obtain ⟨j, hj, rfl, hq⟩ := hrel
          obtain ⟨e, L, hb1, hb2, hb3⟩ := hq.out
          have HG := Lib.hid hb1
          have P0 := Lib.hid hb2
          have HB0 := Lib.hid hb3
          clear hq hb1 hb2 hb3 HST
          have j0 : (0 : Int) ≤ (j : Int) := by omega
          by_cases hlt : j < n1
          · have j1 : (j : Int) < (n1 : Int) := by omega
            have e1 : IntKind.i64.wrap ((j : Int) + 1) = (j : Int) + 1 := IntWalk.i64_in _ (by omega)
            obtain ⟨ba, off, rfl, hbk, c0, c1, c2, c3, hr⟩ := HP.out j hlt wr HB0.out
            generalize l1.getD j nilO = o at *
            obtain ⟨ok, ob, od, on⟩ := o
            dsimp only at c0 c1 c2 c3
            clear hbk hr
            have HPL := Lib.hid P0.out.lt
            have AA := Lib.hid (fun w => all_some 0 L e HG.out w)
            obtain ⟨er, kq, dq, xq, sq, hcase, hdo⟩ := double_let 0 L e HG.out
            have HC := Lib.hid hcase
            have DO := Lib.hid hdo
            clear hcase hdo
            unfold pv at AA
            have HL := Lib.hid HG.out.len
            obtain ⟨s, hs⟩ : ∃ s, s = str (mkD L) := ⟨_, rfl⟩
            rw [← hs] at AA DO P0
            have HS := Lib.hid hs
            clear hs
            obtain ⟨m, hm⟩ : ∃ m, m = L.length := ⟨_, rfl⟩
            rw [← hm] at AA
            have HM := Lib.hid hm
            have hm32 : m ≤ 32 := by have := HL.out; omega
            clear hm
            have hal := (Below.refl (wr).heap.size (wr)).alloc (Nat.le_refl _) (.cells #[.int .i64 ok, .int .i64 ob, .int .i64 od, .int .i64 on] 43)
            replace P0 := Lib.hid (P0.out.kept hal)
            have O0 := Lib.hid (OBox.new (wr) (ok) (ob) (od) (on))
            replace HB0 := Lib.hid (HB0.out.trans (hal.mono (Below.size HB0.out)))
            clear hal
            obtain ⟨oP0, oP1, oP2, oP3⟩ := P0.out.cells
            go_upto_region 9 with fail
            clear oP0 oP1 oP2 oP3
            clear c0 c1 c2 c3
            obtain ⟨bO, hbO⟩ : ∃ bO, bO = (wr).heap.size := ⟨_, rfl⟩
            rw [← hbO] at O0 ⊢
            have HLO := Lib.hid hbO
            clear hbO
            generalize (wr).alloc (.cells #[.int .i64 ok, .int .i64 ob, .int .i64 od, .int .i64 on] 43) = vo at *
            have HNO := Lib.hid (show bO ≠ bP by rw [HLO.out]; exact Nat.ne_of_gt HPL.out)
            obtain ⟨oP0, oP1, oP2, oP3⟩ := P0.out.cells
            go_wp2_with fail
            clear oP0 oP1 oP2 oP3
            refine (AA.out _).mono ?_; rintro q w1 ⟨g, rfl, -, hg8, hb⟩
            have TB := Lib.hid hg8
            have P1 := Lib.hid (P0.out.kept hb)
            have O1 := Lib.hid (O0.out.kept hb)
            have HB1 := Lib.hid (HB0.out.trans (hb.mono (Below.size HB0.out)))
            clear hg8 hb P0 O0 HB0 AA
            obtain ⟨oP0, oP1, oP2, oP3⟩ := P1.out.cells
            go_wp2_with fail
            clear oP0 oP1 oP2 oP3
            refine (DO.out _).mono ?_; rintro q w2 ⟨rfl, hb⟩
            have TB2 := Lib.hid (TB.out.kept hb)
            clear TB DO
            have P2 := Lib.hid (P1.out.kept hb)
            have O2 := Lib.hid (O1.out.kept hb)
            have HB2 := Lib.hid (HB1.out.trans (hb.mono (Below.size HB1.out)))
            clear hb P1 O1 HB1
            have TB3 := Lib.hid (TB2.out.kept ((Below.refl w2.heap.size w2).alloc (Nat.le_refl _) (.cells #[.int .i64 kq, .int .i64 dq, .int .i64 xq, .string sq] 23)))
            clear TB2
            have HPQ := Lib.hid P2.out.lt
            have hal := (Below.refl (w2).heap.size (w2)).alloc (Nat.le_refl _) (.cells #[.int .i64 kq, .int .i64 dq, .int .i64 xq, .string sq] 23)
            replace P2 := Lib.hid (P2.out.kept hal)
            replace O2 := Lib.hid (O2.out.kept hal)
            have Q2 := Lib.hid (PBox.new (w2) (kq) (dq) (xq) (sq))
            replace HB2 := Lib.hid (HB2.out.trans (hal.mono (Below.size HB2.out)))
            clear hal
            go_upto_if 54 with fail
            obtain ⟨bQ, hbQ⟩ : ∃ bQ, bQ = (w2).heap.size := ⟨_, rfl⟩
            rw [← hbQ] at Q2 ⊢
            have HLQ := Lib.hid hbQ
            clear hbQ
            generalize (w2).alloc (.cells #[.int .i64 kq, .int .i64 dq, .int .i64 xq, .string sq] 23) = V3 at *
            have HQP := Lib.hid (show bQ ≠ bP by rw [HLQ.out]; exact Nat.ne_of_gt HPQ.out)
            go_cut [] (fun wx => Hid (∃ (e : Nat) (L : List Int), GoodD L e ∧ PBox wx bP 1 e 0 (str (mkD L)) ∧ OBox wx bO ok ob od on ∧ Below w.heap.size w wx))
            case first =>
              rcases HC.out with ⟨rfl, he5, rfl, rfl, rfl, hsq⟩ | ⟨rfl, he5, rfl, rfl, rfl, hsq⟩
              · have HSQ := Lib.hid hsq
                have HG2 := Lib.hid (HG.out.double he5)
                have AB := Lib.hid (fun w => all_some 0 (L ++ L) (e + 1) HG2.out w)
                unfold pv at AB
                rw [show (((e + 1 : Nat)) : Int) = (e : Int) + 1 by omega, ← HSQ.out, show (L ++ L).length = m * 2 by rw [List.length_append, HM.out]; omega] at AB
                have mm : IntKind.i64.wrap (2 * (m : Int)) = 2 * (m : Int) := IntWalk.i64_in _ (by omega)
                have mq : (((m * 2 : Nat)) : Int) = 2 * (m : Int) := by omega
                clear hsq HC
                obtain ⟨oQ0, oQ1, oQ2, oQ3⟩ := Q2.out.cells
                go_wp2_with fail
                clear oQ0 oQ1 oQ2 oQ3
                refine (AB.out _).mono ?_; rintro q w3 ⟨g2, rfl, -, hg8, hb⟩
                have TN := Lib.hid hg8
                have TO := Lib.hid (TB3.out.kept hb)
                clear AB hg8 TB3
                have P3 := Lib.hid (P2.out.kept hb)
                have O3 := Lib.hid (O2.out.kept hb)
                have Q3 := Lib.hid (Q2.out.kept hb)
                have HB3 := Lib.hid (HB2.out.trans (hb.mono (Below.size HB2.out)))
                clear hb P2 O2 Q2 HB2
                go_wp2_with fail
                go_loopw [65] (fun u wz => ∃ i : Nat, i ≤ m ∧ u = .int .i64 i ∧ wz = w3) (fun u _ => m - (intOf u).toNat)
                case atStart => exact ⟨0, Nat.zero_le _, rfl, by trivial⟩
                case round =>
                  obtain ⟨i, hi, rfl, hwz⟩ := hrel
                  subst hwz
                  have i0 : (0 : Int) ≤ (i : Int) := by omega
                  by_cases hlt2 : i < m
                  · have i1 : (i : Int) < (m : Int) := by omega
                    have i2 : (i : Int) < 2 * (m : Int) := by omega
                    have i3 : (i : Int) + (m : Int) < 2 * (m : Int) := by omega
                    have i4 : (0 : Int) ≤ (i : Int) + (m : Int) := by omega
                    have cx := TO.out.cell (i := i) (by have := HM.out; omega)
                    have cy := TN.out.cell (i := i) (by rw [List.length_append]; have := HM.out; omega)
                    have cz := TN.out.cell (i := i + m) (by rw [List.length_append]; have := HM.out; omega)
                    have y1 : (L ++ L).getD i 0 = L.getD i 0 := by simp only [List.getD_eq_getElem?_getD]; rw [List.getElem?_append_left (by have := HM.out; omega)]
                    have y2 : (L ++ L).getD (i + m) 0 = L.getD i 0 := by simp only [List.getD_eq_getElem?_getD]; rw [List.getElem?_append_right (by have := HM.out; omega), show i + m - L.length = i by have := HM.out; omega]
                    rw [y1] at cy
                    rw [y2] at cz
                    have e5 : IntKind.i64.wrap ((i : Int) + (m : Int)) = (i : Int) + (m : Int) := IntWalk.i64_in _ (by omega)
                    have e6 : IntKind.i64.wrap ((i : Int) + 1) = (i : Int) + 1 := IntWalk.i64_in _ (by omega)
                    clear y1 y2
                    generalize L.getD i 0 = y at *
                    go_wp2_with fail
                    go_roundw
                    case rel => exact ⟨i + 1, by omega, by go_num, by trivial⟩
                    case measure => simp [intOf]; omega
                  · obtain rfl : m = i := by omega
                    have i1 : ¬ (m : Int) < (m : Int) := by omega
                    go_upto_region 21 with fail
                    obtain ⟨⟨oP0, oP1, oP2, oP3⟩, fP0, fP1, fP2, fP3⟩ := And.intro P3.out.cells P3.out.free
                    obtain ⟨oQ0, oQ1, oQ2, oQ3⟩ := Q3.out.cells
                    go_wp2_with fail
                    clear oP0 oP1 oP2 oP3 fP0 fP1 fP2 fP3 oQ0 oQ1 oQ2 oQ3
                    have P9 := Lib.hid (P3.out.set4 1 ((e : Int) + 1) 0 sq)
                    have O9 := Lib.hid (show OBox ((((wr.setCell ⟨bP, 0, none⟩ (.int .i64 1)).setCell ⟨bP, 1, none⟩ (.int .i64 ((e : Int) + 1))).setCell ⟨bP, 2, none⟩ (.int .i64 0)).setCell ⟨bP, 3, none⟩ (.string sq)) bO ok ob od on from (heap_set4 _ _ _ _ _ _ _ HNO.out).trans O3.out)
                    have HB9 := Lib.hid (below_set4 (u0 := .int .i64 1) (u1 := .int .i64 ((e : Int) + 1)) (u2 := .int .i64 0) (u3 := .string sq) HB3.out HLE.out)
                    generalize (((wr.setCell ⟨bP, 0, none⟩ (.int .i64 1)).setCell ⟨bP, 1, none⟩ (.int .i64 ((e : Int) + 1))).setCell ⟨bP, 2, none⟩ (.int .i64 0)).setCell ⟨bP, 3, none⟩ (.string sq) = V9 at *
                    clear P3 HB3 O3
                    go_meet
                    exact ⟨e + 1, L ++ L, HG2.out, by rw [← HSQ.out, show (((e + 1 : Nat)) : Int) = (e : Int) + 1 by omega]; exact P9.out, O9.out, HB9.out⟩
              · have hm5 : m = 32 := by rw [HM.out, HG.out.2.1, he5]
                subst hm5
                clear hsq HC
                go_wp2_with fail
                go_meet
                exact ⟨e, L, HG.out, by rw [← HS.out]; exact P2.out, O2.out, HB2.out⟩
            case rest =>
              obtain ⟨e9, L9, hb1, hb2, hb3, hb4⟩ := hcut.out
              have HG9 := Lib.hid hb1
              have P0 := Lib.hid hb2
              have O0 := Lib.hid hb3
              have HB0 := Lib.hid hb4
              clear hcut hb1 hb2 hb3 hb4 P2 O2 Q2 HB2 HG HC HS HM HL TB3 HPQ HQP
              obtain ⟨es, ks, ds, xs, ss, hcase, hdo⟩ := set_let 0 L9 e9 HG9.out ob od on
              have HC := Lib.hid hcase
              have SE := Lib.hid hdo
              clear hcase hdo
              obtain ⟨s9, hs9⟩ : ∃ s, s = str (mkD L9) := ⟨_, rfl⟩
              rw [← hs9] at SE P0
              have HS9 := Lib.hid hs9
              clear hs9
              obtain ⟨oP0, oP1, oP2, oP3⟩ := P0.out.cells
              obtain ⟨oO0, oO1, oO2, oO3⟩ := O0.out.cells
              go_wp2_with fail
              clear oP0 oP1 oP2 oP3 oO0 oO1 oO2 oO3
              refine (SE.out _).mono ?_; rintro e w1 ⟨rfl, hb⟩
              have P1 := Lib.hid (P0.out.kept hb)
              have O1 := Lib.hid (O0.out.kept hb)
              have HB1 := Lib.hid (HB0.out.trans (hb.mono (Below.size HB0.out)))
              clear hb HB0 P0 O0
              clear SE
              have HPX := Lib.hid P1.out.lt
              have hal := (Below.refl (w1).heap.size (w1)).alloc (Nat.le_refl _) (.cells #[.int .i64 ks, .int .i64 ds, .int .i64 xs, .string ss] 23)
              replace P1 := Lib.hid (P1.out.kept hal)
              replace O1 := Lib.hid (O1.out.kept hal)
              have X1 := Lib.hid (PBox.new (w1) (ks) (ds) (xs) (ss))
              replace HB1 := Lib.hid (HB1.out.trans (hal.mono (Below.size HB1.out)))
              clear hal
              go_upto_if 104 with fail
              obtain ⟨bX, hbX⟩ : ∃ bX, bX = (w1).heap.size := ⟨_, rfl⟩
              rw [← hbX] at X1 ⊢
              have HLX := Lib.hid hbX
              clear hbX
              generalize (w1).alloc (.cells #[.int .i64 ks, .int .i64 ds, .int .i64 xs, .string ss] 23) = V4 at *
              rcases HC.out with ⟨rfl, hmay, rfl, rfl, rfl, hss⟩ | ⟨rfl, hmay, rfl, rfl, rfl, hss⟩
              · have HG8 := Lib.hid (HG9.out.set (bits := ob.toNat) (depth := od.toNat) (n := on) hmay.2.2)
                have HSS := Lib.hid hss
                clear hss hmay HC
                obtain ⟨⟨oP0, oP1, oP2, oP3⟩, fP0, fP1, fP2, fP3⟩ := And.intro P1.out.cells P1.out.free
                obtain ⟨oX0, oX1, oX2, oX3⟩ := X1.out.cells
                go_wp2_with fail
                clear oP0 oP1 oP2 oP3 fP0 fP1 fP2 fP3
                clear oX0 oX1 oX2 oX3
                have P9 := Lib.hid (P1.out.set4 1 (e9 : Int) 0 ss)
                have HB9 := Lib.hid (below_set4 (u0 := .int .i64 1) (u1 := .int .i64 (e9 : Int)) (u2 := .int .i64 0) (u3 := .string ss) HB1.out HLE.out)
                generalize (((V4.setCell ⟨bP, 0, none⟩ (.int .i64 1)).setCell ⟨bP, 1, none⟩ (.int .i64 (e9 : Int))).setCell ⟨bP, 2, none⟩ (.int .i64 0)).setCell ⟨bP, 3, none⟩ (.string ss) = V9 at *
                clear P1 HB1 
                go_roundw
                case rel => exact ⟨j + 1, by omega, by go_num, e9, _, HG8.out, by rw [← HSS.out]; exact P9.out, HB9.out⟩
                case measure => simp [intOf]; omega
              · clear hss hmay HC
                go_wp2_with fail
                go_roundw
                case rel => exact ⟨j + 1, by omega, by go_num, e9, L9, HG9.out, by rw [← HS9.out]; exact P1.out, HB1.out⟩
                case measure => simp [intOf]; omega
          · obtain rfl : n1 = j := by omega
            have j1 : ¬ (n1 : Int) < (n1 : Int) := by omega
            go_wp2_with fail
            go_ret
            exact ⟨rfl, HB0.out⟩

/-! The row's step. -/
set_option maxRecDepth 100000 in
theorem lifted (os : Os) (started : os.Started) (H : Type) (enc : TypeId × Value → H) :
    ReturnsInHanded {} Try.checked os 6 .any (Rows.dirDoublesSpec.pre6 enc Try.prog Try.f6 Rows.dirDoublesRow.domain false) (Rows.dirDoublesSpec.post enc Try.prog Try.f6 false true false false) := by
  refine returnsInHanded_of_change (C := Try.checked) own started (by kernel_rfl) Try.func6
    (ChangeSpec.witness6 (enc := enc) (C := Try.checked) false ⟨#[], #[.int .i64 0, .slice none 0 0], []⟩ 8 (by kernel_rfl) (by kernel_rfl) (by kernel_rfl) (by kernel_rfl)) ?_
  intro W base args ds gs before hval0 hW hcnd _
  have hval : ∀ (j : Nat) t v, Try.f6.params[j]? = some t → args[j]? = some v → Value.okWide Try.prog W .any base t v := hval0
  have hW' := hW
  obtain ⟨p, q, hA0, hV, rfl, hfz, hnd⟩ := hW
  have hA : DataW.TrodAll enc Try.prog W 0 (fun _ => true) true Try.f6.params.toList args.toList ds p := hA0
  rw [Try.params6] at hA hval
  obtain ⟨v0, vs0, d0, ds0, p0, q0, hargs, rfl, rfl, h0, r0⟩ := trodAll_cons hA
  obtain ⟨v1, vs1, d1, ds1, p1, q1, rfl, rfl, rfl, h1, r1⟩ := trodAll_cons r0
  obtain ⟨rfl, rfl, rfl⟩ := trodAll_nil r1
  obtain rfl : args = #[v0, v1] := by cases args; simp_all
  obtain ⟨rfl, rfl⟩ := trodVars_none hV
  obtain ⟨a0, rfl, rfl, rfl, w0⟩ := open_int Try.underlying3 (hval 0 3 v0 rfl rfl) h0
  obtain ⟨A1, n1, c1, rfl⟩ := okWide_slice Try.underlying24 (hval 1 24 v1 rfl rfl)
  have k1 := h1
  have lt1 : ∀ x ∈ p1, x.block < W.heap.size := by obtain ⟨m, hm⟩ := k1; exact DataW.trod_lt m _ _ _ hm
  obtain ⟨l1, w1, e1, f1⟩ := (by obtain ⟨fuel, hf⟩ := h1; exact ops_read hf (fun _ => rfl) : ∃ l, OpsL W A1 n1 l ∧ n1 ≤ c1 ∧ c1 ≤ maxLen)
  clear hA0 hval0
  refine (walk a0 A1 n1 c1 l1 W w0 w1 (Nat.le_trans e1 f1)).mono fun e W' ⟨he, bel⟩ => ?_
  subst he
  exact ⟨_, rfl, _, _, _, [], _, [], hW', trodAll_mk1 (shut_bool Try.underlying4 _), (trodAll_cons_mk (shut_int Try.underlying3 w0) (trodAll_cons_mk (Below.trod laidOut (by kernel_rfl) (of_decide_eq_true (by kernel_rfl)) k1 bel lt1) trodAll_mk0)), rfl, bel.frame _, fun h => by cases h⟩

theorem over : Rows.dirDoublesRow.holds Try.pinned (OpenSpec.ofChange Rows.dirDoublesSpec) :=
  OpenClaim.holds_of_wide 6 Try.f6 rfl rfl rfl rfl rfl rfl rfl ⟨rfl, rfl, rfl, rfl, rfl⟩ rfl rfl rfl rfl rfl (by kernel_rfl) Try.func6 (by kernel_rfl)
    (of_decide_eq_true (by kernel_rfl)) (by unfold Func.isWrapper; first | (rw [if_pos (by decide +kernel)]; kernel_rfl) | (rw [if_neg (by decide +kernel)]; exact ⟨rfl, rfl⟩))
    (fun os started H enc _ => lifted os started H enc)

/-- The statement. -/
theorem proved : Rows.DirDoublesSaid := over
end Go.Proofs.Ytojfnafahlpjjaa.dirDoubles
