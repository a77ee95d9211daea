/- A log that is opened, written, and left, epoch by epoch, has all records, as they were. -/
import Derived.Test.YtnjggoeahaglbaaGreatRows
import Derived.Test.YtnjggoeahaglbaaGreatLe
import Derived.Deep.RegionHeld3
import Derived.Deep.QuietTactic
import Derived.LoopTactic
import Derived.StillTailTactics
import Derived.BigQuiet
import Derived.Deep.DeepCutAuto
import Derived.Deep.RegionLaw
import Derived.Deep.CutBlock
import Derived.Lib.Hide
import Derived.WalkKit
import Derived.ProofKit
import Derived.OpenShut
import Derived.ChangeOld
import Derived.Below
import Derived.Carry
namespace Go.Proofs.YtnjggoeahaglbaaGreat.walEpochs
open Go.ChangeShapes Go.WideShapes Go.ChangeAt Go.RowKit
open Wa Fr
set_option linter.unusedVariables false

theorem own : ownKnob Tryz.prog.godebug = none := by kernel_rfl
theorem laidOut : laidOutB Tryz.prog = true := by kernel_rfl


set_option maxRecDepth 100000 in
set_option maxHeartbeats 100000000 in
theorem walk (A0 : Option Addr) (n0 c0 : Nat) (l0 : List Rc.Rc) (a1 : Int) (w : World) (w0l : Rc.RlM w.heap.size w A0 n0 l0) (w1i : (Lit.int .i64 a1).wf = true) :
    Calls Tryz.prog 6 #[.slice A0 n0 c0, .int .i64 a1] w fun e w' => e = .returned (.bool true) ∧ Below w.heap.size w w' := by
  have AL := Lib.hid Wa.alive_yes
  have HL := Lib.hid w0l
  have hn0 := w0l.1
  by_cases t0 : 16 < n0
  · have t0i : (16 : Int) < (n0 : Int) := by omega
    clear w0l
    as_aux_lemma =>
      go_enter Tryz.func6, Tryz.ntmps6
      go_wp2_with fail
      refine (AL.out _).mono ?_; rintro e w1 ⟨rfl, hb⟩
      go_wp2_with fail
      go_ret
      exact ⟨by trivial, hb⟩
  have t0i : ¬ (16 : Int) < (n0 : Int) := by omega
  clear w0l
  by_cases t1 : a1 < 1
  · as_aux_lemma =>
      go_enter Tryz.func6, Tryz.ntmps6
      go_wp2_with fail
      refine (AL.out _).mono ?_; rintro e w1 ⟨rfl, hb⟩
      go_wp2_with fail
      go_ret
      exact ⟨by trivial, hb⟩
  by_cases t2 : 5 < a1
  · as_aux_lemma =>
      go_enter Tryz.func6, Tryz.ntmps6
      go_wp2_with fail
      refine (AL.out _).mono ?_; rintro e w1 ⟨rfl, hb⟩
      go_wp2_with fail
      go_ret
      exact ⟨by trivial, hb⟩
  obtain ⟨per, rfl⟩ := Int.eq_ofNat_of_zero_le (show (0 : Int) ≤ a1 by omega)
  go_enter Tryz.func6, Tryz.ntmps6
  go_wp2_with fail
  refine (AL.out _).mono ?_; rintro e w1 ⟨rfl, hb⟩
  have HB1 := Lib.hid hb
  clear hb AL
  go_wp2_with fail
  refine (Dk.new_d 1200 (by omega) (by omega) _).mono ?_; rintro e w2 ⟨rfl, hD, hL⟩
  have L2 := Lib.hid (Lv.of_d hL)
  have HD := Lib.hid hD
  clear hD hL
  unfold Dk.ptr
  obtain ⟨p, hp⟩ : ∃ p, p = w1.heap.size + 1 := ⟨_, rfl⟩
  rw [← hp] at HD ⊢
  clear hp
  have HO := Lib.hid (dok_blank 7 1100 1200)
  go_wp2_with fail
  go_loopw [6, 7] (fun nv kv wr => ∃ k n : Nat, k ≤ 16 ∧ kv = .int .i64 (k : Int) ∧ nv = .int .i64 (n : Int) ∧ n ≤ n0 ∧ n ≤ k * per ∧ (n0 ≤ n ∨ n = k * per) ∧ Hid (∃ D, Dk.Disk w1.heap.size p D wr ∧ DOk 7 1100 1200 (k : Int) (pl l0 n) D ∧ (∀ j, j < n → Rc.rightR (l0.getD j Rc.nilR) = true) ∧ Lv w1.heap.size w1 wr)) (fun _ kv _ => 100 - (intOf kv).toNat)
  case atStart => exact ⟨0, 0, by omega, rfl, rfl, by omega, Nat.zero_le _, .inr (by omega), Lib.hid ⟨_, HD.out, HO.out, fun j hj => absurd hj (Nat.not_lt_zero _), L2.out⟩⟩
  case round =>
    obtain ⟨k, n, hk, rfl, rfl, hn, hnk1, hnk, hq⟩ := hrel
    obtain ⟨D, q1, q2, q3, q5⟩ := hq.out
    have HD := Lib.hid q1
    have HO := Lib.hid q2
    have HA := Lib.hid q3
    have L := Lib.hid q5
    clear hq q1 q2 q3 q5
    obtain ⟨P, hP⟩ : ∃ P, P = k * per := ⟨_, rfl⟩
    have hPle : P ≤ 80 := by rw [hP]; exact Nat.le_trans (Nat.mul_le_mul (show k ≤ 16 by omega) (show per ≤ 5 by omega)) (by omega)
    have eP : IntKind.i64.wrap ((k : Int) * (per : Int)) = (P : Int) := by
      have : (k : Int) * (per : Int) = (P : Int) := by rw [hP]; exact (Int.natCast_mul _ _).symm
      rw [this]
      exact IntWalk.i64_in _ (by omega)
    rw [← hP] at hnk hnk1
    have e1 : IntKind.i64.wrap ((k : Int) + 1) = (k : Int) + 1 := IntWalk.i64_in _ (by omega)
    by_cases hlt : P < n0
    · have b1 : (P : Int) < (n0 : Int) := by omega
      have hnP : n = P := by omega
      subst hnP
      have hk15 : k ≤ 15 := by
        rcases Nat.lt_or_ge k 16 with h9 | h9
        · omega
        · have h8 : k * 1 ≤ n := by rw [hP]; exact Nat.mul_le_mul_left k (by omega)
          omega
      obtain ⟨Q, hQ⟩ : ∃ Q, Q = n + per := ⟨_, rfl⟩
      have hQ2 : (k + 1) * per = Q := by rw [Nat.add_mul, hQ, hP]; omega
      have eQ : IntKind.i64.wrap (((k : Int) + 1) * (per : Int)) = (Q : Int) := by
        have : ((k : Int) + 1) * (per : Int) = (Q : Int) := by rw [← hQ2]; exact (Int.natCast_mul _ _).symm
        rw [this]
        exact IntWalk.i64_in _ (by omega)
      have HPP := Lib.hid hP
      have HQQ := Lib.hid (And.intro hQ hQ2)
      have hQn : n + 1 ≤ Q ∧ Q ≤ n + 5 := by omega
      clear hP hQ hQ2 hnk hnk1
      obtain ⟨A, hA, iA, okA, f1, f2, f3, f4, f5⟩ := HO.out.opens (ep := (k : Int) + 1) (by omega) (by omega) (by omega) (by omega) (by omega) (by omega)
      have hbs : w1.heap.size ≤ wr.heap.size := L.out.size
      have OP := Lib.hid (ls_open 7 1100 ((k : Int) + 1) wr HD.out hbs HO.out.run HO.out.pe (by omega) (by rw [HO.out.len]; omega) (by rw [HO.out.len]; omega) (by omega) okA)
      rw [hA] at OP
      have OP2 := Lib.hid (show Calls Tryz.prog 14 #[.pointer (some ⟨p, 0, none⟩), .int .i64 7, .int .i64 1100, .int .i64 ((k : Int) + 1)] wr fun e w' => ∃ q, e = .returned (.tuple #[.pointer (some ⟨q, 0, none⟩), .int .i64 0]) ∧ LS w1.heap.size q p A D w' ∧ Below wr.heap.size wr w' from OP.out)
      have IA := Lib.hid iA
      have FA := Lib.hid (show A.first = 7 ∧ A.sectors = 1100 ∧ A.epoch = (k : Int) + 1 ∧ A.recs = pl l0 n from ⟨f1, f2, f3, f4⟩)
      have hrl : A.recs.length = n := by rw [f4]; exact pl_length (by omega)
      have hdl : A.dur = n := by rw [f5]; exact pl_length (by omega)
      have HDR := Lib.hid (show D.runs = true ∧ D.left < 0 ∧ D.last.length = 1200 from ⟨HO.out.run, HO.out.left, HO.out.len⟩)
      clear OP okA hA iA f1 f2 f4 f5 HO HD
      go_wp2_with fail
      refine OP2.out.mono ?_; rintro e w3 ⟨q, rfl, hl, hb⟩
      have S3 := Lib.hid hl
      have L3 := Lib.hid (L.out.trans (.here hb hbs))
      clear hl hb OP2 L
      have LA := Lib.hid (ls_last w3 S3.out)
      have DU := Lib.hid (ls_dur w3 S3.out)
      have EP := Lib.hid (ls_epoch w3 S3.out)
      rw [hrl] at LA
      rw [hdl] at DU
      rw [f3] at EP
      clear f3 hrl hdl
      go_wp2_with fail
      refine LA.out.mono ?_; rintro e u ⟨rfl, rfl⟩
      go_wp2_with fail
      refine DU.out.mono ?_; rintro e u ⟨rfl, rfl⟩
      go_wp2_with fail
      refine EP.out.mono ?_; rintro e u ⟨rfl, rfl⟩
      clear LA DU EP
      go_wp2_with fail
      go_loopw [6, 10] (fun nv iv wr => ∃ j : Nat, nv = .int .i64 (j : Int) ∧ iv = .int .i64 (j : Int) ∧ n ≤ j ∧ j ≤ n0 ∧ j ≤ Q ∧ Hid (∃ A D, LS w1.heap.size q p A D wr ∧ Inv A D ∧ (A.first = 7 ∧ A.sectors = 1100 ∧ A.epoch = (k : Int) + 1 ∧ A.recs = pl l0 j) ∧ (D.runs = true ∧ D.left < 0 ∧ D.last.length = 1200) ∧ (∀ i, i < j → Rc.rightR (l0.getD i Rc.nilR) = true) ∧ Lv w1.heap.size w1 wr)) (fun _ iv _ => 100 - (intOf iv).toNat)
      case atStart => exact ⟨n, rfl, rfl, Nat.le_refl _, hn, by omega, Lib.hid ⟨A, D, S3.out, IA.out, FA.out, HDR.out, HA.out, L3.out⟩⟩
      case round =>
        obtain ⟨j, rfl, rfl, j1, j2, j3, hq⟩ := hrel
        obtain ⟨A, D, q1, q2, q3, q4', q5, q6⟩ := hq.out
        have S := Lib.hid q1
        have I := Lib.hid q2
        have F := Lib.hid q3
        have R := Lib.hid q4'
        have HA := Lib.hid q5
        have L := Lib.hid q6
        have hrl : A.recs.length = j := by rw [q3.2.2.2]; exact pl_length (by omega)
        clear hq q1 q2 q3 q4' q5 q6 S3 IA FA HDR L3
        by_cases hj : j < n0
        · have c1 : (j : Int) < (n0 : Int) := by omega
          by_cases hjQ : j < Q
          · have c2 : (j : Int) < (Q : Int) := by omega
            have j0 : (0 : Int) ≤ (j : Int) := by omega
            obtain ⟨b, off, hd, rfl, hbC, hat⟩ := rl_at HL.out hj
            have hbr := HB1.out.trans (L.out.below.mono HB1.out.size)
            obtain ⟨⟨c0, c1, c2, c3, c4, c5, c6, c7, c8, c9, c10, c11, c12, c13⟩, hm⟩ := hat wr hbr
            have HAT := Lib.hid hat
            obtain ⟨r, hr⟩ : ∃ r, r = l0.getD j Rc.nilR := ⟨_, rfl⟩
            rw [← hr] at c0 c1 c2 c3 c4 c5 c6 c7 c8 c9 hm HAT
            have HRR := Lib.hid hr
            have LI := Lib.hid (show Calls Tryz.prog 33 #[.agg #[.int .i64 r.kind, .int .i64 r.tx, .int .i64 r.prev, .int .i64 r.next, .string r.key, .bool r.had, .string r.old.k, .string r.old.v, .int .i64 r.old.b, .int .i64 r.old.z, .slice hd.g.A hd.g.n hd.g.c, .slice hd.p.A hd.p.n hd.p.c, .slice hd.t.A hd.t.n hd.t.c, .slice hd.d.A hd.d.n hd.d.c]] wr fun e w' => ∃ z, e = .returned (.bool z) ∧ Below wr.heap.size wr w' from (Rc.light_any r hd wr hm hbr.size).mono fun e w' ⟨z, h1, _, h2⟩ => ⟨z, h1, h2⟩)
            clear hat hm hr hbr
            go_wp2_with fail
            refine LI.out.mono ?_; rintro e w4 ⟨z, rfl, hb⟩
            have S4 := Lib.hid (S.out.kept hb)
            have L4 := Lib.hid (L.out.trans (.here hb S.out.base))
            clear hb LI L S c0 c1 c2 c3 c4 c5 c6 c7 c8 c9 c10 c11 c12 c13
            cases z with
            | false =>
              go_wp2_with fail
              go_ret
              exact ⟨by trivial, HB1.out.trans (L4.out.below.mono HB1.out.size)⟩
            | true =>
              have hbr := HB1.out.trans (L4.out.below.mono HB1.out.size)
              obtain ⟨⟨c0, c1, c2, c3, c4, c5, c6, c7, c8, c9, c10, c11, c12, c13⟩, hm⟩ := HAT.out w4 hbr
              have RR := Lib.hid (show Calls Tryz.prog 34 #[.agg #[.int .i64 r.kind, .int .i64 r.tx, .int .i64 r.prev, .int .i64 r.next, .string r.key, .bool r.had, .string r.old.k, .string r.old.v, .int .i64 r.old.b, .int .i64 r.old.z, .slice hd.g.A hd.g.n hd.g.c, .slice hd.p.A hd.p.n hd.p.c, .slice hd.t.A hd.t.n hd.t.c, .slice hd.d.A hd.d.n hd.d.c]] w4 fun e w' => e = .returned (.bool (Rc.rightR r)) ∧ Below w4.heap.size w4 w' from Rc.rright_is r hd w4 hm hbr.size)
              clear hm hbr
              go_wp2_with fail
              refine RR.out.mono ?_; rintro e w5 ⟨rfl, hb⟩
              have S5 := Lib.hid (S4.out.kept hb)
              have L5 := Lib.hid (L4.out.trans (.here hb S4.out.base))
              clear hb RR L4 S4 c0 c1 c2 c3 c4 c5 c6 c7 c8 c9 c10 c11 c12 c13
              cases hrr : Rc.rightR r with
              | false =>
                go_wp2_with fail
                go_ret
                exact ⟨by trivial, HB1.out.trans (L5.out.below.mono HB1.out.size)⟩
              | true =>
                have hbr := HB1.out.trans (L5.out.below.mono HB1.out.size)
                obtain ⟨⟨c0, c1, c2, c3, c4, c5, c6, c7, c8, c9, c10, c11, c12, c13⟩, hm⟩ := HAT.out w5 hbr
                have AP := Lib.hid (show Calls Tryz.prog 16 #[.pointer (some ⟨q, 0, none⟩), .agg #[.int .i64 r.kind, .int .i64 r.tx, .int .i64 r.prev, .int .i64 r.next, .string r.key, .bool r.had, .string r.old.k, .string r.old.v, .int .i64 r.old.b, .int .i64 r.old.z, .slice hd.g.A hd.g.n hd.g.c, .slice hd.p.A hd.p.n hd.p.c, .slice hd.t.A hd.t.n hd.t.c, .slice hd.d.A hd.d.n hd.d.c]] w5 fun e w' => AppP w1.heap.size q p A D r w5 e w' from ls_append r hd w5 S5.out I.out hm hbr.size)
                clear hm hbr
                have e2 : IntKind.i64.wrap ((j : Int) + 1) = (j : Int) + 1 := IntWalk.i64_in _ (by omega)
                have e3 : IntKind.i64.wrap ((j : Int) + 1 - 1) = (j : Int) := by rw [IntWalk.i64_in _ (by omega)]; omega
                have e4 : ((A.recs.length + 1 : Nat) : Int) = (j : Int) + 1 := by omega
                go_wp2_with fail
                refine AP.out.mono ?_; rintro e w6 (⟨z1, _⟩ | ⟨z1, z2, rfl, hl, hb⟩ | ⟨z1, z2, rfl, hl, hb⟩)
                · rw [hrr] at z1; cases z1
                · have L6 := Lib.hid (L5.out.trans hb)
                  clear hl hb AP L5 S5
                  go_wp2_with fail
                  go_ret
                  exact ⟨by trivial, HB1.out.trans (L6.out.below.mono HB1.out.size)⟩
                · have S6 := Lib.hid hl
                  have L6 := Lib.hid (L5.out.trans hb)
                  have I6 := Lib.hid (I.out.app z1 z2)
                  have FA := Lib.hid (show (appA A r).first = 7 ∧ (appA A r).sectors = 1100 ∧ (appA A r).epoch = (k : Int) + 1 ∧ (appA A r).recs = pl l0 (j + 1) from ⟨F.out.1, F.out.2.1, F.out.2.2.1, by
                    show A.recs ++ [Rc.putS r] = _
                    rw [F.out.2.2.2, HRR.out]
                    exact pl_succ (by omega)⟩)
                  have HA6 := Lib.hid (show ∀ i, i < j + 1 → Rc.rightR (l0.getD i Rc.nilR) = true from fun i hi => by
                    by_cases e9 : i < j
                    · exact HA.out i e9
                    · obtain rfl : i = j := by omega
                      rw [← HRR.out]; exact z1)
                  clear hl hb AP L5 S5 z1 z2 c0 c1 c2 c3 c4 c5 c6 c7 c8 c9 c10 c11 c12 c13 HAT HRR I F HA hrr
                  rw [e4]
                  generalize appA A r = A6 at *
                  obtain ⟨A7, D7, g1, g2, g3, g4, g5, g6, g7, g8, _, _, TO⟩ := ls_to_any (j : Int) w6 S6.out I6.out R.out.1 R.out.2.1
                  have HTO := Lib.hid TO
                  have I7 := Lib.hid g5
                  have F7 := Lib.hid (show A7.first = 7 ∧ A7.sectors = 1100 ∧ A7.epoch = (k : Int) + 1 ∧ A7.recs = pl l0 (j + 1) from ⟨g1.trans FA.out.1, g2.trans FA.out.2.1, g3.trans FA.out.2.2.1, g4.trans FA.out.2.2.2⟩)
                  have R7 := Lib.hid (show D7.runs = true ∧ D7.left < 0 ∧ D7.last.length = 1200 from ⟨g6, g7, g8.trans R.out.2.2⟩)
                  clear TO g1 g2 g3 g4 g5 g6 g7 g8 S6 I6 FA R
                  go_wp2_with fail
                  refine HTO.out.mono ?_; rintro e w7 ⟨rfl, hl, hb⟩
                  have S7 := Lib.hid hl
                  have L7 := Lib.hid (L6.out.trans hb)
                  clear hl hb HTO L6
                  go_wp2_with fail
                  go_roundw
                  case rel => exact ⟨j + 1, by go_num, by go_num, by omega, by omega, by omega, Lib.hid ⟨A7, D7, S7.out, I7.out, F7.out, R7.out, HA6.out, L7.out⟩⟩
                  case measure => simp [intOf] <;> omega
          · have c2 : ¬ (j : Int) < (Q : Int) := by omega
            have hend : j = n0 ∨ j = Q := by omega
            obtain ⟨A7, D7, g1, g2, g3, g4, g5, g6, g7, g8, g9, g10, TO⟩ := ls_to_any (j : Int) wr S.out I.out R.out.1 R.out.2.1
            have hdd : A7.dur = A7.recs.length := by
              rcases Int.lt_or_le (A.dur : Int) (j : Int) with h9 | h9
              · exact g9 h9
              · have h10 := g10 h9
                have h11 := I.out.dn
                rw [g4]
                omega
            have HTO := Lib.hid TO
            have I7 := Lib.hid g5
            have hr7 : A7.recs.length = j := by rw [g4]; exact hrl
            have DK := Lib.hid (dok_inv (N := 1200) g5 g6 g7 (g8.trans R.out.2.2) hdd)
            rw [g1, g2, g3, g4, F.out.1, F.out.2.1, F.out.2.2.1, F.out.2.2.2] at DK
            have hdj : A7.dur = j := hdd.trans hr7
            have HKQ := Lib.hid (show j ≤ (k + 1) * per ∧ (n0 ≤ j ∨ j = (k + 1) * per) from by have := HQQ.out.2; omega)
            clear TO g1 g2 g3 g4 g5 g6 g7 g8 g9 g10 hdd I F R
            go_wp2_with fail
            refine HTO.out.mono ?_; rintro e w4 ⟨rfl, hl, hb⟩
            have S4 := Lib.hid hl
            have L4 := Lib.hid (L.out.trans hb)
            have DU := Lib.hid (ls_dur w4 S4.out)
            rw [hdj] at DU
            clear hl hb HTO L S
            have AP := Lib.hid (show Calls Tryz.prog 16 #[.pointer (some ⟨q, 0, none⟩), .agg #[.int .i64 5, .int .i64 9, .int .i64 0, .int .i64 0, .string ⟨#[]⟩, .bool false, .string ⟨#[]⟩, .string ⟨#[]⟩, .int .i64 0, .int .i64 0, .slice none 0 0, .slice none 0 0, .slice none 0 0, .slice none 0 0]] w4 fun e w' => ∃ a b, e = .returned (.tuple #[.int .i64 a, .int .i64 b]) ∧ Dk.Disk w1.heap.size p D7 w' ∧ Lv w1.heap.size w4 w' from ls_app_disk (recK 5 9 ⟨#[]⟩) Rc.hd0 w4 S4.out I7.out (recK_in w4.heap.size w4 (by unfold Rc.rng; omega) (by unfold Rc.rng; omega) (by decide)) (Nat.le_refl _))
            go_wp2_with fail
            refine DU.out.mono ?_; rintro e u ⟨rfl, rfl⟩
            go_wp2_with fail
            refine AP.out.mono ?_; rintro e w5 ⟨ea, eb, rfl, hd5, hb⟩
            have D5 := Lib.hid hd5
            have L5 := Lib.hid (L4.out.trans hb)
            clear hd5 hb AP DU S4 L4 I7
            go_wp2_with fail
            go_roundw
            case rel => exact ⟨k + 1, j, by omega, by go_num, by go_num, by omega, HKQ.out.1, HKQ.out.2, Lib.hid ⟨D7, D5.out, DK.out, HA.out, L5.out⟩⟩
            case measure => simp [intOf] <;> omega
        · have c1 : ¬ (j : Int) < (n0 : Int) := by omega
          have hend : j = n0 ∨ j = Q := by omega
          obtain ⟨A7, D7, g1, g2, g3, g4, g5, g6, g7, g8, g9, g10, TO⟩ := ls_to_any (j : Int) wr S.out I.out R.out.1 R.out.2.1
          have hdd : A7.dur = A7.recs.length := by
            rcases Int.lt_or_le (A.dur : Int) (j : Int) with h9 | h9
            · exact g9 h9
            · have h10 := g10 h9
              have h11 := I.out.dn
              rw [g4]
              omega
          have HTO := Lib.hid TO
          have I7 := Lib.hid g5
          have hr7 : A7.recs.length = j := by rw [g4]; exact hrl
          have DK := Lib.hid (dok_inv (N := 1200) g5 g6 g7 (g8.trans R.out.2.2) hdd)
          rw [g1, g2, g3, g4, F.out.1, F.out.2.1, F.out.2.2.1, F.out.2.2.2] at DK
          have hdj : A7.dur = j := hdd.trans hr7
          have HKQ := Lib.hid (show j ≤ (k + 1) * per ∧ (n0 ≤ j ∨ j = (k + 1) * per) from by have := HQQ.out.2; omega)
          clear TO g1 g2 g3 g4 g5 g6 g7 g8 g9 g10 hdd I F R
          go_wp2_with fail
          refine HTO.out.mono ?_; rintro e w4 ⟨rfl, hl, hb⟩
          have S4 := Lib.hid hl
          have L4 := Lib.hid (L.out.trans hb)
          have DU := Lib.hid (ls_dur w4 S4.out)
          rw [hdj] at DU
          clear hl hb HTO L S
          have AP := Lib.hid (show Calls Tryz.prog 16 #[.pointer (some ⟨q, 0, none⟩), .agg #[.int .i64 5, .int .i64 9, .int .i64 0, .int .i64 0, .string ⟨#[]⟩, .bool false, .string ⟨#[]⟩, .string ⟨#[]⟩, .int .i64 0, .int .i64 0, .slice none 0 0, .slice none 0 0, .slice none 0 0, .slice none 0 0]] w4 fun e w' => ∃ a b, e = .returned (.tuple #[.int .i64 a, .int .i64 b]) ∧ Dk.Disk w1.heap.size p D7 w' ∧ Lv w1.heap.size w4 w' from ls_app_disk (recK 5 9 ⟨#[]⟩) Rc.hd0 w4 S4.out I7.out (recK_in w4.heap.size w4 (by unfold Rc.rng; omega) (by unfold Rc.rng; omega) (by decide)) (Nat.le_refl _))
          go_wp2_with fail
          refine DU.out.mono ?_; rintro e u ⟨rfl, rfl⟩
          go_wp2_with fail
          refine AP.out.mono ?_; rintro e w5 ⟨ea, eb, rfl, hd5, hb⟩
          have D5 := Lib.hid hd5
          have L5 := Lib.hid (L4.out.trans hb)
          clear hd5 hb AP DU S4 L4 I7
          go_wp2_with fail
          go_roundw
          case rel => exact ⟨k + 1, j, by omega, by go_num, by go_num, by omega, HKQ.out.1, HKQ.out.2, Lib.hid ⟨D7, D5.out, DK.out, HA.out, L5.out⟩⟩
          case measure => simp [intOf] <;> omega
    · have hnn : n = n0 := by omega
      subst hnn
      have hnP : ¬ (P : Int) < (n : Int) := by omega
      have HHP := Lib.hid hP
      clear hP hnk hnk1
      obtain ⟨A, hA, iA, okA, f1, f2, f3, f4, f5⟩ := HO.out.opens (ep := 99) (by omega) (by omega) (by omega) (by omega) (by omega) (by omega)
      have hbs : w1.heap.size ≤ wr.heap.size := L.out.size
      have OP := Lib.hid (ls_open 7 1100 99 wr HD.out hbs HO.out.run HO.out.pe (by omega) (by rw [HO.out.len]; omega) (by rw [HO.out.len]; omega) (by omega) okA)
      rw [hA] at OP
      have OP2 := Lib.hid (show Calls Tryz.prog 14 #[.pointer (some ⟨p, 0, none⟩), .int .i64 7, .int .i64 1100, .int .i64 99] wr fun e w' => ∃ q, e = .returned (.tuple #[.pointer (some ⟨q, 0, none⟩), .int .i64 0]) ∧ LS w1.heap.size q p A D w' ∧ Below wr.heap.size wr w' from OP.out)
      have IA := Lib.hid iA
      have hrl : A.recs.length = n := by rw [f4]; exact pl_length (by omega)
      have FA := Lib.hid f4
      clear OP okA hA iA f1 f2 f3 f4 f5 HO HD
      go_wp2_with fail
      refine OP2.out.mono ?_; rintro e w3 ⟨q, rfl, hl, hb⟩
      have S3 := Lib.hid hl
      have L3 := Lib.hid (L.out.trans (.here hb hbs))
      have LA := Lib.hid (ls_last w3 S3.out)
      rw [hrl] at LA
      clear hl hb OP2 L
      go_wp2_with fail
      refine LA.out.mono ?_; rintro e u ⟨rfl, rfl⟩
      clear LA
      go_wp2_with fail
      go_loopw [15] (fun iv wr => ∃ j : Nat, j ≤ n ∧ iv = .int .i64 ((j : Int) + 1) ∧ Hid (LS w1.heap.size q p A D wr ∧ Lv w1.heap.size w1 wr)) (fun iv _ => 100 - (intOf iv).toNat)
      case atStart => exact ⟨0, Nat.zero_le _, rfl, Lib.hid ⟨S3.out, L3.out⟩⟩
      case round =>
        obtain ⟨j, hj, rfl, hq⟩ := hrel
        have S := Lib.hid hq.out.1
        have L := Lib.hid hq.out.2
        clear hq S3 L3
        by_cases hjn : j < n
        · have c1 : (j : Int) + 1 ≤ (n : Int) := by omega
          have j0 : (0 : Int) ≤ (j : Int) := by omega
          have c1b : (j : Int) < (n : Int) := by omega
          obtain ⟨b, off, hd, rfl, hbC, hat⟩ := rl_at HL.out hjn
          have hrt := HA.out j hjn
          obtain ⟨r, hr⟩ : ∃ r, r = l0.getD j Rc.nilR := ⟨_, rfl⟩
          have hgd : A.recs.getD j [] = Rc.putS r := by rw [FA.out, hr]; exact pl_at (by omega) hjn
          rw [← hr] at hrt
          have AT := Lib.hid (ls_at2 j wr S.out IA.out (by rw [hrl]; exact hjn) hrt hgd)
          unfold Rc.rcv at AT
          have HAT := Lib.hid hat
          have HRR := Lib.hid hr
          clear hat hrt hgd hr
          go_wp2_with fail
          refine AT.out.mono ?_; rintro e w4 ⟨h2, rfl, hm2, hb⟩
          have S4 := Lib.hid (S.out.kept hb)
          have L4 := Lib.hid (L.out.trans (.here hb S.out.base))
          have HZ := Lib.hid (Rc.Bx.new w4 #[.int .i64 0, .int .i64 0, .int .i64 0, .int .i64 0, .string ⟨#[]⟩, .bool false, .string ⟨#[]⟩, .string ⟨#[]⟩, .int .i64 0, .int .i64 0, .slice none 0 0, .slice none 0 0, .slice none 0 0, .slice none 0 0] 43)
          have HB9 := Lib.hid (Rc.below_row (ds := #[.int .i64 r.kind, .int .i64 r.tx, .int .i64 r.prev, .int .i64 r.next, .string r.key, .bool r.had, .string r.old.k, .string r.old.v, .int .i64 r.old.b, .int .i64 r.old.z, .slice h2.g.A h2.g.n h2.g.c, .slice h2.p.A h2.p.n h2.p.c, .slice h2.t.A h2.t.n h2.t.c, .slice h2.d.A h2.d.n h2.d.c]) ((Below.refl w4.heap.size w4).alloc (Nat.le_refl _) (.cells #[.int .i64 0, .int .i64 0, .int .i64 0, .int .i64 0, .string ⟨#[]⟩, .bool false, .string ⟨#[]⟩, .string ⟨#[]⟩, .int .i64 0, .int .i64 0, .slice none 0 0, .slice none 0 0, .slice none 0 0, .slice none 0 0] 43)) (Nat.le_refl _))
          have S5 := Lib.hid (S4.out.kept HB9.out)
          have L5 := Lib.hid (L4.out.trans (.here HB9.out S4.out.base))
          have hm5 := Lib.hid ((hm2.kept HB9.out).more HB9.out.size)
          have hz0 := HZ.out
          have HX := Lib.hid (hz0.row #[.int .i64 r.kind, .int .i64 r.tx, .int .i64 r.prev, .int .i64 r.next, .string r.key, .bool r.had, .string r.old.k, .string r.old.v, .int .i64 r.old.b, .int .i64 r.old.z, .slice h2.g.A h2.g.n h2.g.c, .slice h2.p.A h2.p.n h2.p.c, .slice h2.t.A h2.t.n h2.t.c, .slice h2.d.A h2.d.n h2.d.c])
          clear hb AT hm2 S L S4 L4 HB9 HZ
          go_wp2_with (refine wpList_store_row rfl 43 (.tmp 16) (.tmp 172) rfl w4.heap.size #[.int .i64 r.kind, .int .i64 r.tx, .int .i64 r.prev, .int .i64 r.next, .string r.key, .bool r.had, .string r.old.k, .string r.old.v, .int .i64 r.old.b, .int .i64 r.old.z, .slice h2.g.A h2.g.n h2.g.c, .slice h2.p.A h2.p.n h2.p.c, .slice h2.t.A h2.t.n h2.t.c, .slice h2.d.A h2.d.n h2.d.c] rfl rfl 43 _ hz0 (by kernel_rfl) rfl (by simp [Value.oneCell']) ?_; clear hz0; generalize hV : World.setRow _ _ _ = V at *; clear hV)
          have hbr := HB1.out.trans (L5.out.below.mono HB1.out.size)
          obtain ⟨⟨c0, cc1, c2, c3, c4, c5, c6, c7, c8, c9, c10, c11, c12, c13⟩, hm⟩ := HAT.out V hbr
          rw [← HRR.out] at c0 cc1 c2 c3 c4 c5 c6 c7 c8 c9 hm
          have SM := Lib.hid (fun (u : World) (hh : Held V u) => show Calls Tryz.prog 27 #[.agg #[.int .i64 r.kind, .int .i64 r.tx, .int .i64 r.prev, .int .i64 r.next, .string r.key, .bool r.had, .string r.old.k, .string r.old.v, .int .i64 r.old.b, .int .i64 r.old.z, .slice h2.g.A h2.g.n h2.g.c, .slice h2.p.A h2.p.n h2.p.c, .slice h2.t.A h2.t.n h2.t.c, .slice h2.d.A h2.d.n h2.d.c], .agg #[.int .i64 r.kind, .int .i64 r.tx, .int .i64 r.prev, .int .i64 r.next, .string r.key, .bool r.had, .string r.old.k, .string r.old.v, .int .i64 r.old.b, .int .i64 r.old.z, .slice hd.g.A hd.g.n hd.g.c, .slice hd.p.A hd.p.n hd.p.c, .slice hd.t.A hd.t.n hd.t.c, .slice hd.d.A hd.d.n hd.d.c]] u fun e w' => e = .returned (.bool true) ∧ Below u.heap.size u w' from by
            have h9 := Rc.samer_is r r h2 hd u (hm5.out.kept hh) (hm.kept (hh.mono hbr.size)) (Below.size hh) (Nat.le_trans hbr.size (Below.size hh))
            rw [(Rc.eqR_iff r r).2 rfl] at h9
            exact h9)
          have e9 : IntKind.i64.wrap ((j : Int) + 1 - 1) = (j : Int) := by rw [IntWalk.i64_in _ (by omega)]; omega
          have e9b : IntKind.i64.wrap (j : Int) = (j : Int) := IntWalk.i64_in _ (by omega)
          have e8 : IntKind.i64.wrap ((j : Int) + 1 + 1) = (j : Int) + 1 + 1 := IntWalk.i64_in _ (by omega)
          have x0 := fun u (hh : Held V u) => hh.cell (show V.cell? ⟨w4.heap.size, 0, none⟩ = some (.int .i64 r.kind) from HX.out.cell 0)
          have x1 := fun u (hh : Held V u) => hh.cell (show V.cell? ⟨w4.heap.size, 1, none⟩ = some (.int .i64 r.tx) from HX.out.cell 1)
          have x2 := fun u (hh : Held V u) => hh.cell (show V.cell? ⟨w4.heap.size, 2, none⟩ = some (.int .i64 r.prev) from HX.out.cell 2)
          have x3 := fun u (hh : Held V u) => hh.cell (show V.cell? ⟨w4.heap.size, 3, none⟩ = some (.int .i64 r.next) from HX.out.cell 3)
          have x4 := fun u (hh : Held V u) => hh.cell (show V.cell? ⟨w4.heap.size, 4, none⟩ = some (.string r.key) from HX.out.cell 4)
          have x5 := fun u (hh : Held V u) => hh.cell (show V.cell? ⟨w4.heap.size, 5, none⟩ = some (.bool r.had) from HX.out.cell 5)
          have x6 := fun u (hh : Held V u) => hh.cell (show V.cell? ⟨w4.heap.size, 6, none⟩ = some (.string r.old.k) from HX.out.cell 6)
          have x7 := fun u (hh : Held V u) => hh.cell (show V.cell? ⟨w4.heap.size, 7, none⟩ = some (.string r.old.v) from HX.out.cell 7)
          have x8 := fun u (hh : Held V u) => hh.cell (show V.cell? ⟨w4.heap.size, 8, none⟩ = some (.int .i64 r.old.b) from HX.out.cell 8)
          have x9 := fun u (hh : Held V u) => hh.cell (show V.cell? ⟨w4.heap.size, 9, none⟩ = some (.int .i64 r.old.z) from HX.out.cell 9)
          have x10 := fun u (hh : Held V u) => hh.cell (show V.cell? ⟨w4.heap.size, 10, none⟩ = some (.slice h2.g.A h2.g.n h2.g.c) from HX.out.cell 10)
          have x11 := fun u (hh : Held V u) => hh.cell (show V.cell? ⟨w4.heap.size, 11, none⟩ = some (.slice h2.p.A h2.p.n h2.p.c) from HX.out.cell 11)
          have x12 := fun u (hh : Held V u) => hh.cell (show V.cell? ⟨w4.heap.size, 12, none⟩ = some (.slice h2.t.A h2.t.n h2.t.c) from HX.out.cell 12)
          have x13 := fun u (hh : Held V u) => hh.cell (show V.cell? ⟨w4.heap.size, 13, none⟩ = some (.slice h2.d.A h2.d.n h2.d.c) from HX.out.cell 13)
          have d0 := fun u (hh : Held V u) => hh.cell c0
          have d1 := fun u (hh : Held V u) => hh.cell cc1
          have d2 := fun u (hh : Held V u) => hh.cell c2
          have d3 := fun u (hh : Held V u) => hh.cell c3
          have d4 := fun u (hh : Held V u) => hh.cell c4
          have d5 := fun u (hh : Held V u) => hh.cell c5
          have d6 := fun u (hh : Held V u) => hh.cell c6
          have d7 := fun u (hh : Held V u) => hh.cell c7
          have d8 := fun u (hh : Held V u) => hh.cell c8
          have d9 := fun u (hh : Held V u) => hh.cell c9
          have d10 := fun u (hh : Held V u) => hh.cell c10
          have d11 := fun u (hh : Held V u) => hh.cell c11
          have d12 := fun u (hh : Held V u) => hh.cell c12
          have d13 := fun u (hh : Held V u) => hh.cell c13
          clear hm hbr c0 cc1 c2 c3 c4 c5 c6 c7 c8 c9 c10 c11 c12 c13 HX hm5 HAT
          go_wp2_with fail
          go_region_held3 (fun u => Held V u) (first | exact Held.start _ | exact Held.step (by assumption) (by assumption) | assumption) (first
            | (go_at_call 27; refine (SM.out _ (by assumption)).mono ?_; rintro e u ⟨rfl, hb⟩))
          have HH := Lib.hid ‹Held V u›
          have S6 := Lib.hid (S5.out.kept (show Below V.heap.size V u from HH.out))
          have L6 := Lib.hid (L5.out.trans (.here (show Below V.heap.size V u from HH.out) S5.out.base))
          clear SM HH S5 L5
          go_wp2_with fail
          go_roundw
          case rel => exact ⟨j + 1, by omega, by go_num, Lib.hid ⟨S6.out, L6.out⟩⟩
          case measure => simp [intOf] <;> omega
        · have c1 : ¬ (j : Int) + 1 ≤ (n : Int) := by omega
          go_wp2_with fail
          go_ret
          exact ⟨by trivial, HB1.out.trans (L.out.below.mono HB1.out.size)⟩

/-! The row's step. -/
set_option maxRecDepth 100000 in
theorem lifted (os : Os) (started : os.Started) (H : Type) (enc : TypeId × Value → H) :
    ReturnsInHanded {} Tryz.checked os 6 .any (Rows.walEpochsSpec.pre6 enc Tryz.prog Tryz.f6 Rows.walEpochsRow.domain false) (Rows.walEpochsSpec.post enc Tryz.prog Tryz.f6 false true false false) := by
  refine returnsInHanded_of_change (C := Tryz.checked) own started (by kernel_rfl) Tryz.func6
    (ChangeSpec.witness6 (enc := enc) (C := Tryz.checked) false ⟨#[], #[.slice none 0 0, .int .i64 0], []⟩ 8 (by kernel_rfl) (by kernel_rfl) (by kernel_rfl) (by kernel_rfl)) ?_
  intro W base args ds gs before hval0 hW hcnd _
  have hval : ∀ (j : Nat) t v, Tryz.f6.params[j]? = some t → args[j]? = some v → Value.okWide Tryz.prog W .any base t v := hval0
  have hW' := hW
  obtain ⟨p, q, hA0, hV, rfl, hfz, hnd⟩ := hW
  have hA : DataW.TrodAll enc Tryz.prog W 0 (fun _ => true) true Tryz.f6.params.toList args.toList ds p := hA0
  rw [Tryz.params6] at hA hval
  obtain ⟨v0, vs0, d0, ds0, p0, q0, hargs, rfl, rfl, h0, r0⟩ := trodAll_cons hA
  obtain ⟨v1, vs1, d1, ds1, p1, q1, rfl, rfl, rfl, h1, r1⟩ := trodAll_cons r0
  obtain ⟨rfl, rfl, rfl⟩ := trodAll_nil r1
  obtain rfl : args = #[v0, v1] := by cases args; simp_all
  obtain ⟨rfl, rfl⟩ := trodVars_none hV
  have k0 := h0
  obtain ⟨A0, n0, c0, rfl⟩ := okWide_slice Tryz.underlying49 (hval 0 49 v0 rfl rfl)
  have lt0 : ∀ x ∈ p0, x.block < W.heap.size := by obtain ⟨m, hm⟩ := k0; exact DataW.trod_lt m _ _ _ hm
  obtain ⟨l0, w0⟩ := (by obtain ⟨fuel, hf⟩ := h0; obtain ⟨A9, n9, c9, l9, e9, hw9⟩ := Rc.recs_read hf (fun _ => rfl); simp only [Value.slice.injEq] at e9; obtain ⟨rfl, rfl, rfl⟩ := e9; exact ⟨l9, hw9⟩ : ∃ l, Rc.RlM W.heap.size W A0 n0 l)
  obtain ⟨a1, rfl, rfl, rfl, w1⟩ := open_int Tryz.underlying3 (hval 1 3 v1 rfl rfl) h1
  clear hA0 hval0
  refine (walk A0 n0 c0 l0 a1 W w0 w1).mono fun e W' ⟨he, bel⟩ => ?_
  subst he
  exact ⟨_, rfl, _, _, _, [], _, [], hW', trodAll_mk1 (shut_bool Tryz.underlying4 _), (trodAll_cons_mk (Below.trod laidOut (by kernel_rfl) (of_decide_eq_true (by kernel_rfl)) k0 bel lt0) (trodAll_cons_mk (shut_int Tryz.underlying3 w1) trodAll_mk0)), rfl, bel.frame _, fun h => by cases h⟩

theorem over : Rows.walEpochsRow.holds Tryz.pinned (OpenSpec.ofChange Rows.walEpochsSpec) :=
  OpenClaim.holds_of_wide 6 Tryz.f6 rfl rfl rfl rfl rfl rfl rfl ⟨rfl, rfl, rfl, rfl, rfl⟩ rfl rfl rfl rfl rfl (by kernel_rfl) Tryz.func6 (by kernel_rfl)
    (of_decide_eq_true (by kernel_rfl)) (by unfold Func.isWrapper; first | (rw [if_pos (by decide +kernel)]; kernel_rfl) | (rw [if_neg (by decide +kernel)]; exact ⟨rfl, rfl⟩))
    (fun os started H enc _ => lifted os started H enc)

/-- The statement. -/
theorem proved : Rows.WalEpochsSaid := over
end Go.Proofs.YtnjggoeahaglbaaGreat.walEpochs
