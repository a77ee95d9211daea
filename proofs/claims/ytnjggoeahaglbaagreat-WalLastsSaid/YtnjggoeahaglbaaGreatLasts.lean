/- What was flushed is there behind every crash, whatever is kept of what was not; what is there are the first ones of all. -/
import Derived.Test.YtnjggoeahaglbaaGreatRows
import Derived.Test.YtnjggoeahaglbaaGreatLt
import Derived.Deep.RegionHeld3
import Derived.Deep.QuietTactic
import Derived.LoopTactic
import Derived.StillTailTactics
import Derived.BigQuiet
import Derived.Deep.DeepCutAuto
import Derived.Deep.RegionLaw
import Derived.Deep.CutBlock
import Derived.Lib.Hide
import Derived.WalkKit
import Derived.ProofKit
import Derived.OpenShut
import Derived.ChangeOld
import Derived.Below
import Derived.Carry
namespace Go.Proofs.YtnjggoeahaglbaaGreat.walLasts
open Go.ChangeShapes Go.WideShapes Go.ChangeAt Go.RowKit
open Wa Fr
set_option linter.unusedVariables false

theorem own : ownKnob Tryz.prog.godebug = none := by kernel_rfl
theorem laidOut : laidOutB Tryz.prog = true := by kernel_rfl


set_option maxRecDepth 100000 in
set_option maxHeartbeats 100000000 in
theorem walk (A0 : Option Addr) (n0 c0 : Nat) (l0 : List Rc.Rc) (A1 : Option Addr) (n1 c1 : Nat) (l1 : List Rc.Rc) (a2 : Int) (A3 : Option Addr) (n3 c3 : Nat) (l3 : List Bool) (w : World) (w0l : Rc.RlM w.heap.size w A0 n0 l0) (w1l : Rc.RlM w.heap.size w A1 n1 l1) (w2i : (Lit.int .i64 a2).wf = true) (w3b : Fr.Bools w A3 n3 l3) (m3 : n3 ≤ maxLen) :
    Calls Tryz.prog 4 #[.slice A0 n0 c0, .slice A1 n1 c1, .int .i64 a2, .slice A3 n3 c3] w fun e w' => e = .returned (.bool true) ∧ Below w.heap.size w w' := by
  have AL := Lib.hid Wa.alive_yes
  have HLa := Lib.hid w0l
  have HLb := Lib.hid w1l
  have HK := Lib.hid w3b
  have wr2 := int_range w2i
  have hla := w0l.1
  have hlb := w1l.1
  have hlk := w3b.1
  obtain ⟨Pa, pa1, pa2, pa3, pa4⟩ := rl_src w0l
  obtain ⟨Pb, pb1, pb2, pb3, pb4⟩ := rl_src w1l
  have SA := Lib.hid pa4
  have SB := Lib.hid pb4
  clear w0l w1l w3b pa4 pb4 w2i
  by_cases t0 : 10 < n0
  · have t0i : (10 : Int) < (n0 : Int) := by omega
    as_aux_lemma =>
      go_enter Tryz.func4, Tryz.ntmps4
      go_wp2_with fail
      refine (AL.out _).mono ?_; rintro e w1 ⟨rfl, hb⟩
      go_wp2_with fail
      go_ret
      exact ⟨by trivial, hb⟩
  have t0i : ¬ (10 : Int) < (n0 : Int) := by omega
  by_cases t1 : 10 < n1
  · have t1i : (10 : Int) < (n1 : Int) := by omega
    as_aux_lemma =>
      go_enter Tryz.func4, Tryz.ntmps4
      go_wp2_with fail
      refine (AL.out _).mono ?_; rintro e w1 ⟨rfl, hb⟩
      go_wp2_with fail
      go_ret
      exact ⟨by trivial, hb⟩
  have t1i : ¬ (10 : Int) < (n1 : Int) := by omega
  by_cases t3 : 80 < n3
  · have t3i : (80 : Int) < (n3 : Int) := by omega
    as_aux_lemma =>
      go_enter Tryz.func4, Tryz.ntmps4
      go_wp2_with fail
      refine (AL.out _).mono ?_; rintro e w1 ⟨rfl, hb⟩
      go_wp2_with fail
      go_ret
      exact ⟨by trivial, hb⟩
  have t3i : ¬ (80 : Int) < (n3 : Int) := by omega
  go_enter Tryz.func4, Tryz.ntmps4
  go_wp2_with fail
  refine (AL.out _).mono ?_; rintro e w1 ⟨rfl, hb⟩
  have HB1 := Lib.hid hb
  clear hb AL
  go_wp2_with fail
  refine (Dk.new_d 2100 (by omega) (by omega) _).mono ?_; rintro e w2 ⟨rfl, hD, hL⟩
  have L2 := Lib.hid (Lv.of_d hL)
  have HD := Lib.hid hD
  have HS := Lib.hid hL.size
  clear hD hL
  unfold Dk.ptr
  obtain ⟨p, hp⟩ : ∃ p, p = w1.heap.size + 1 := ⟨_, rfl⟩
  rw [← hp] at HD ⊢
  clear hp
  obtain ⟨I1, O1⟩ := blank_inv (f := 2) (s := 2000) (n := 2100) (ep := 5) (by omega) (by omega) (by omega) (by omega) (by omega)
  have OP := Lib.hid (ls_open 2 2000 5 w2 HD.out HS.out rfl rfl (by omega) (by decide) (by decide) (by omega) O1)
  rw [blank_opG] at OP
  have II := Lib.hid I1
  have OP2 := Lib.hid (show Calls Tryz.prog 14 #[.pointer (some ⟨p, 0, none⟩), .int .i64 2, .int .i64 2000, .int .i64 5] w2 fun e w' => ∃ q, e = .returned (.tuple #[.pointer (some ⟨q, 0, none⟩), .int .i64 0]) ∧ LS w1.heap.size q p ⟨2, 2000, 5, 0, [], 0⟩ (Dk.blank 2100) w' ∧ Below w2.heap.size w2 w' from OP.out)
  clear OP I1 O1
  go_wp2_with fail
  refine OP2.out.mono ?_; rintro e w3 ⟨q, rfl, hl, hb⟩
  have S3 := Lib.hid hl
  have L3 := Lib.hid (L2.out.trans (.here hb HS.out))
  clear hl hb OP2 L2 HD HS
  obtain ⟨i0, hi0, hz0, hz1, hz2⟩ := info_parts info_rec
  go_wp2_with (at_builtin; (refine wpList_append_src _ rfl (.const (.slice none 0 0)) (.tmp 55) 49 rfl 43 i0 (.agg Rc.z14) 14 200 Tryz.underlying49 hi0 hz0 hz1 hz2 rfl (by decide) w3.heap.size (.slice none 0 0) 0 ([]) rfl (OwnR.nil _ _) (A0) n0 c0 (rhs Pa) rfl (SA.out w3 (HB1.out.trans (L3.out.below.mono HB1.out.size))) (rhs_one _) ?e1 ?e2 (Nat.le_refl _) ?_))
  case e1 => unfold maxLen; omega
  case e2 => omega
  intro v5 w5 hown5 hgr5 hbk5
  have HB5 := Lib.hid ((Below.refl w3.heap.size w3).grown hgr5 (Nat.le_refl _) (fun g hg => by simp [Value.ownBlock] at hg))
  obtain ⟨A5, c5, rfl⟩ := own_shape hown5
  have HO5 := Lib.hid hown5
  have L5 := Lib.hid (L3.out.trans (.of_below HB5.out (Nat.le_refl _) S3.out.base))
  clear hown5 hgr5 hbk5
  go_wp2_with (at_builtin; (refine wpList_append_src _ rfl (.tmp 56) (.tmp 57) 49 rfl 43 i0 (.agg Rc.z14) 14 200 Tryz.underlying49 hi0 hz0 hz1 hz2 rfl (by decide) w3.heap.size (.slice A5 n0 c5) n0 (rhs Pa) rfl HO5.out (A1) n1 c1 (rhs Pb) rfl (SB.out w5 (HB1.out.trans (L5.out.below.mono HB1.out.size))) (rhs_one _) ?e3 ?e4 HB5.out.size ?_))
  case e3 => unfold maxLen; omega
  case e4 => omega
  intro v6 w6 hown6 hgr6 hbk6
  have HB6 := Lib.hid (HB5.out.grown hgr6 HB5.out.size (fun g hg => (World.ownsRow.lt HO5.out g hg).1))
  have hPl : (Pa ++ Pb).length = n0 + n1 := by rw [List.length_append, pa1, pb1]
  have HO6 := Lib.hid (show OwnR w3.heap.size w6 v6 (Pa ++ Pb) from by unfold OwnR; rw [hPl, rhs_append]; exact hown6)
  have S6 := Lib.hid (S3.out.kept HB6.out)
  have L6 := Lib.hid (L3.out.trans (.of_below HB6.out (Nat.le_refl _) S3.out.base))
  have hPm : ∀ k, k < n0 + n1 → Rc.RcM w.heap.size w ((Pa ++ Pb).getD k rh0).1 ((Pa ++ Pb).getD k rh0).2 := fun k hk => by
    rw [List.getD_eq_getElem?_getD]
    by_cases h9 : k < n0
    · rw [List.getElem?_append_left (by omega), ← List.getD_eq_getElem?_getD]; exact pa3 k h9
    · rw [List.getElem?_append_right (by omega), ← List.getD_eq_getElem?_getD]; exact pb3 _ (by omega)
  have HPM := Lib.hid hPm
  obtain ⟨P, hP⟩ : ∃ P, P = Pa ++ Pb := ⟨_, rfl⟩
  rw [← hP] at hPl HO6 HPM
  obtain ⟨N, hN⟩ : ∃ N, N = n0 + n1 := ⟨_, rfl⟩
  rw [← hN] at hPl hown6 HPM
  obtain ⟨v6A, v6c, rfl⟩ := own_shape hown6
  have hN20 : N ≤ 20 := by omega
  have hNn : n0 ≤ N := by omega
  have HL9 := Lib.hid (show ∃ L : List Rc.Rc, L.length = N ∧ ∀ k, k < N → L.getD k Rc.nilR = (P.getD k rh0).1 from ⟨P.map (·.1), by rw [List.length_map, hPl], fun k hk => by
    rw [List.getD_eq_getElem?_getD, List.getElem?_map, List.getD_eq_getElem?_getD, List.getElem?_eq_getElem (show k < P.length by omega)]; rfl⟩)
  obtain ⟨L, hLl, hLk⟩ := HL9.out
  have HLK := Lib.hid hLk
  have HS3 := Lib.hid (show w1.heap.size ≤ w3.heap.size from L3.out.size)
  clear hown6 hgr6 hbk6 HO5 L5 hP HB5 HB6 pa2 pa3 pb2 pb3 hPm hN HL9 hLk SA SB S3 L3 pa1 pb1 HLa HLb
  go_wp2_with fail
  go_loopw [12, 60] (fun va x wr => ∃ j : Nat, j ≤ N ∧ x = .int .i64 (j : Int) ∧ (∃ (Aa : Option Addr) (ca : Nat), va = .slice Aa j ca ∧ Hid (∃ A D, LS w1.heap.size q p A D wr ∧ Inv A D ∧ (A.first = 2 ∧ A.sectors = 2000 ∧ A.epoch = 5 ∧ A.recs = pl L j ∧ A.dur = (if n0 ≤ j then n0 else 0)) ∧ (D.runs = true ∧ D.left < 0 ∧ D.last.length = 2100) ∧ (∀ b ∈ Wa.part A.first A.sectors D.last, High A.epoch b) ∧ OwnR w3.heap.size wr (.slice v6A N v6c) P ∧ OwnR w3.heap.size wr (.slice Aa j ca) (P.take j) ∧ (∀ g, (Value.slice v6A N v6c).ownBlock = some g → (Value.slice Aa j ca).ownBlock ≠ some g) ∧ (∀ i, i < j → Rc.rightR (L.getD i Rc.nilR) = true) ∧ Lv w1.heap.size w1 wr))) (fun _ x _ => 100 - (intOf x).toNat)
  case atStart =>
    refine ⟨0, Nat.zero_le _, rfl, none, 0, rfl, Lib.hid ⟨_, _, S6.out, II.out, ⟨rfl, rfl, rfl, rfl, ?_⟩, ⟨rfl, by decide, List.length_replicate ..⟩, fun b hb hg => ?_, HO6.out, OwnR.nil _ _, fun g _ hh => by simp [Value.ownBlock] at hh, fun i hi => absurd hi (Nat.not_lt_zero _), L6.out⟩⟩
    · show 0 = if n0 ≤ 0 then n0 else 0
      split <;> omega
    · rw [zeros_none (zeros_part _ _ 2100 b hb)] at hg; cases hg
  case round =>
    obtain ⟨j, hj, rfl, Aa, ca, rfl, hq⟩ := hrel
    obtain ⟨A, D, q1, q2, q3, q4, q5, q6, q7, q8, q9, q10⟩ := hq.out
    have S := Lib.hid q1
    have I := Lib.hid q2
    have F := Lib.hid q3
    have R := Lib.hid q4
    have HI := Lib.hid q5
    have OP := Lib.hid q6
    have OA := Lib.hid q7
    have AP := Lib.hid q8
    have HA := Lib.hid q9
    have Lw := Lib.hid q10
    have hrl : A.recs.length = j := by rw [q3.2.2.2.1]; exact pl_length (by omega)
    clear hq q1 q2 q3 q4 q5 q6 q7 q8 q9 q10 S6 II L6 HO6
    have j0 : (0 : Int) ≤ (j : Int) := by omega
    by_cases hjN : j < N
    · have b1 : (j : Int) < (N : Int) := by omega
      obtain ⟨g6, rfl, _, _, ⟨c0, c1, c2, c3, c4, c5, c6, c7, c8, c9, c10, c11, c12, c13⟩⟩ := OP.out.at (k := j) (by omega)
      have hlj := HLK.out j hjN
      have hm := HPM.out j hjN
      obtain ⟨rh, hrh⟩ : ∃ rh, P.getD j rh0 = rh := ⟨_, rfl⟩
      rw [hrh] at c0 c1 c2 c3 c4 c5 c6 c7 c8 c9 c10 c11 c12 c13 hlj hm
      obtain ⟨r, hd⟩ := rh
      dsimp only at c0 c1 c2 c3 c4 c5 c6 c7 c8 c9 c10 c11 c12 c13 hlj hm
      have HM := Lib.hid hm
      have HLJ := Lib.hid hlj
      have HRH := Lib.hid hrh
      have HZ := Lib.hid (Rc.Bx.new wr #[.int .i64 0, .int .i64 0, .int .i64 0, .int .i64 0, .string ⟨#[]⟩, .bool false, .string ⟨#[]⟩, .string ⟨#[]⟩, .int .i64 0, .int .i64 0, .slice none 0 0, .slice none 0 0, .slice none 0 0, .slice none 0 0] 43)
      have HB9 := Lib.hid (Rc.below_row (ds := #[.int .i64 r.kind, .int .i64 r.tx, .int .i64 r.prev, .int .i64 r.next, .string r.key, .bool r.had, .string r.old.k, .string r.old.v, .int .i64 r.old.b, .int .i64 r.old.z, .slice hd.g.A hd.g.n hd.g.c, .slice hd.p.A hd.p.n hd.p.c, .slice hd.t.A hd.t.n hd.t.c, .slice hd.d.A hd.d.n hd.d.c]) ((Below.refl wr.heap.size wr).alloc (Nat.le_refl _) (.cells #[.int .i64 0, .int .i64 0, .int .i64 0, .int .i64 0, .string ⟨#[]⟩, .bool false, .string ⟨#[]⟩, .string ⟨#[]⟩, .int .i64 0, .int .i64 0, .slice none 0 0, .slice none 0 0, .slice none 0 0, .slice none 0 0] 43)) (Nat.le_refl _))
      have S4 := Lib.hid (S.out.kept HB9.out)
      have L4 := Lib.hid (Lw.out.trans (.here HB9.out S.out.base))
      have OP4 := Lib.hid (OP.out.kept HB9.out)
      have OA4 := Lib.hid (OA.out.kept HB9.out)
      have hzz := HZ.out
      have HX := Lib.hid (hzz.row #[.int .i64 r.kind, .int .i64 r.tx, .int .i64 r.prev, .int .i64 r.next, .string r.key, .bool r.had, .string r.old.k, .string r.old.v, .int .i64 r.old.b, .int .i64 r.old.z, .slice hd.g.A hd.g.n hd.g.c, .slice hd.p.A hd.p.n hd.p.c, .slice hd.t.A hd.t.n hd.t.c, .slice hd.d.A hd.d.n hd.d.c])
      clear hlj hm hrh S Lw OP OA HB9 HZ
      obtain ⟨B, hB⟩ : ∃ B, B = wr.heap.size := ⟨_, rfl⟩
      go_wp2_with (refine wpList_store_row rfl 43 (.tmp 14) (.tmp 64) rfl wr.heap.size #[.int .i64 r.kind, .int .i64 r.tx, .int .i64 r.prev, .int .i64 r.next, .string r.key, .bool r.had, .string r.old.k, .string r.old.v, .int .i64 r.old.b, .int .i64 r.old.z, .slice hd.g.A hd.g.n hd.g.c, .slice hd.p.A hd.p.n hd.p.c, .slice hd.t.A hd.t.n hd.t.c, .slice hd.d.A hd.d.n hd.d.c] rfl rfl 43 _ hzz (by kernel_rfl) rfl (by simp [Value.oneCell']) ?_; clear hzz c0 c1 c2 c3 c4 c5 c6 c7 c8 c9 c10 c11 c12 c13; generalize hV : World.setRow _ _ _ = V at *; clear hV; rw [← hB]; rw [← hB] at HX; clear hB; obtain ⟨x0, x1, x2, x3, x4, x5, x6, x7, x8, x9, x10, x11, x12, x13⟩ := Rc.rcs_at r hd V B HX.out)
      have hbr := HB1.out.trans (L4.out.below.mono HB1.out.size)
      have LI := Lib.hid (show Calls Tryz.prog 33 #[.agg #[.int .i64 r.kind, .int .i64 r.tx, .int .i64 r.prev, .int .i64 r.next, .string r.key, .bool r.had, .string r.old.k, .string r.old.v, .int .i64 r.old.b, .int .i64 r.old.z, .slice hd.g.A hd.g.n hd.g.c, .slice hd.p.A hd.p.n hd.p.c, .slice hd.t.A hd.t.n hd.t.c, .slice hd.d.A hd.d.n hd.d.c]] V fun e w' => ∃ z, e = .returned (.bool z) ∧ Below V.heap.size V w' from (Rc.light_any r hd V (HM.out.kept hbr) hbr.size).mono fun e w' ⟨z, h1, _, h2⟩ => ⟨z, h1, h2⟩)
      clear hbr
      go_wp2_with fail
      refine LI.out.mono ?_; rintro e w4 ⟨z, rfl, hb⟩
      have S5 := Lib.hid (S4.out.kept hb)
      have L5 := Lib.hid (L4.out.trans (.here hb S4.out.base))
      have OP5 := Lib.hid (OP4.out.kept hb)
      have OA5 := Lib.hid (OA4.out.kept hb)
      have HX5 := Lib.hid (HX.out.held hb)
      clear hb LI x0 x1 x2 x3 x4 x5 x6 x7 x8 x9 x10 x11 x12 x13 S4 L4 OP4 OA4 HX
      cases z with
      | false =>
        go_wp2_with fail
        go_ret
        exact ⟨by trivial, HB1.out.trans (L5.out.below.mono HB1.out.size)⟩
      | true =>
        have hbr := HB1.out.trans (L5.out.below.mono HB1.out.size)
        have RR := Lib.hid (show Calls Tryz.prog 34 #[.agg #[.int .i64 r.kind, .int .i64 r.tx, .int .i64 r.prev, .int .i64 r.next, .string r.key, .bool r.had, .string r.old.k, .string r.old.v, .int .i64 r.old.b, .int .i64 r.old.z, .slice hd.g.A hd.g.n hd.g.c, .slice hd.p.A hd.p.n hd.p.c, .slice hd.t.A hd.t.n hd.t.c, .slice hd.d.A hd.d.n hd.d.c]] w4 fun e w' => e = .returned (.bool (Rc.rightR r)) ∧ Below w4.heap.size w4 w' from Rc.rright_is r hd w4 (HM.out.kept hbr) hbr.size)
        have x0 : w4.cell? ⟨B, 0, none⟩ = some (.int .i64 r.kind) := HX5.out.cell 0
        have x1 : w4.cell? ⟨B, 1, none⟩ = some (.int .i64 r.tx) := HX5.out.cell 1
        have x2 : w4.cell? ⟨B, 2, none⟩ = some (.int .i64 r.prev) := HX5.out.cell 2
        have x3 : w4.cell? ⟨B, 3, none⟩ = some (.int .i64 r.next) := HX5.out.cell 3
        have x4 : w4.cell? ⟨B, 4, none⟩ = some (.string r.key) := HX5.out.cell 4
        have x5 : w4.cell? ⟨B, 5, none⟩ = some (.bool r.had) := HX5.out.cell 5
        have x6 : w4.cell? ⟨B, 6, none⟩ = some (.string r.old.k) := HX5.out.cell 6
        have x7 : w4.cell? ⟨B, 7, none⟩ = some (.string r.old.v) := HX5.out.cell 7
        have x8 : w4.cell? ⟨B, 8, none⟩ = some (.int .i64 r.old.b) := HX5.out.cell 8
        have x9 : w4.cell? ⟨B, 9, none⟩ = some (.int .i64 r.old.z) := HX5.out.cell 9
        have x10 : w4.cell? ⟨B, 10, none⟩ = some (.slice hd.g.A hd.g.n hd.g.c) := HX5.out.cell 10
        have x11 : w4.cell? ⟨B, 11, none⟩ = some (.slice hd.p.A hd.p.n hd.p.c) := HX5.out.cell 11
        have x12 : w4.cell? ⟨B, 12, none⟩ = some (.slice hd.t.A hd.t.n hd.t.c) := HX5.out.cell 12
        have x13 : w4.cell? ⟨B, 13, none⟩ = some (.slice hd.d.A hd.d.n hd.d.c) := HX5.out.cell 13
        clear hbr
        go_wp2_with fail
        refine RR.out.mono ?_; rintro e w5 ⟨rfl, hb⟩
        have S6 := Lib.hid (S5.out.kept hb)
        have L6 := Lib.hid (L5.out.trans (.here hb S5.out.base))
        have OP6 := Lib.hid (OP5.out.kept hb)
        have OA6 := Lib.hid (OA5.out.kept hb)
        have HX6 := Lib.hid (HX5.out.held hb)
        clear hb RR x0 x1 x2 x3 x4 x5 x6 x7 x8 x9 x10 x11 x12 x13 S5 L5 OP5 OA5 HX5
        cases hrr : Rc.rightR r with
        | false =>
          go_wp2_with fail
          go_ret
          exact ⟨by trivial, HB1.out.trans (L6.out.below.mono HB1.out.size)⟩
        | true =>
          have hbr := HB1.out.trans (L6.out.below.mono HB1.out.size)
          have AQ := Lib.hid (show Calls Tryz.prog 16 #[.pointer (some ⟨q, 0, none⟩), .agg #[.int .i64 r.kind, .int .i64 r.tx, .int .i64 r.prev, .int .i64 r.next, .string r.key, .bool r.had, .string r.old.k, .string r.old.v, .int .i64 r.old.b, .int .i64 r.old.z, .slice hd.g.A hd.g.n hd.g.c, .slice hd.p.A hd.p.n hd.p.c, .slice hd.t.A hd.t.n hd.t.c, .slice hd.d.A hd.d.n hd.d.c]] w5 fun e w' => AppP w1.heap.size q p A D r w5 e w' from ls_append r hd w5 S6.out I.out (HM.out.kept hbr) hbr.size)
          have x0 : w5.cell? ⟨B, 0, none⟩ = some (.int .i64 r.kind) := HX6.out.cell 0
          have x1 : w5.cell? ⟨B, 1, none⟩ = some (.int .i64 r.tx) := HX6.out.cell 1
          have x2 : w5.cell? ⟨B, 2, none⟩ = some (.int .i64 r.prev) := HX6.out.cell 2
          have x3 : w5.cell? ⟨B, 3, none⟩ = some (.int .i64 r.next) := HX6.out.cell 3
          have x4 : w5.cell? ⟨B, 4, none⟩ = some (.string r.key) := HX6.out.cell 4
          have x5 : w5.cell? ⟨B, 5, none⟩ = some (.bool r.had) := HX6.out.cell 5
          have x6 : w5.cell? ⟨B, 6, none⟩ = some (.string r.old.k) := HX6.out.cell 6
          have x7 : w5.cell? ⟨B, 7, none⟩ = some (.string r.old.v) := HX6.out.cell 7
          have x8 : w5.cell? ⟨B, 8, none⟩ = some (.int .i64 r.old.b) := HX6.out.cell 8
          have x9 : w5.cell? ⟨B, 9, none⟩ = some (.int .i64 r.old.z) := HX6.out.cell 9
          have x10 : w5.cell? ⟨B, 10, none⟩ = some (.slice hd.g.A hd.g.n hd.g.c) := HX6.out.cell 10
          have x11 : w5.cell? ⟨B, 11, none⟩ = some (.slice hd.p.A hd.p.n hd.p.c) := HX6.out.cell 11
          have x12 : w5.cell? ⟨B, 12, none⟩ = some (.slice hd.t.A hd.t.n hd.t.c) := HX6.out.cell 12
          have x13 : w5.cell? ⟨B, 13, none⟩ = some (.slice hd.d.A hd.d.n hd.d.c) := HX6.out.cell 13
          clear hbr
          have e2 : IntKind.i64.wrap ((j : Int) + 1) = (j : Int) + 1 := IntWalk.i64_in _ (by omega)
          have e4 : ((A.recs.length + 1 : Nat) : Int) = (j : Int) + 1 := by omega
          go_wp2_with fail
          refine AQ.out.mono ?_; rintro e w6 (⟨z1, _⟩ | ⟨z1, z2, rfl, hl, hb⟩ | ⟨z1, z2, rfl, hl, hb⟩)
          · rw [hrr] at z1; cases z1
          · have L7 := Lib.hid (L6.out.trans hb)
            clear hl hb AQ L6 S6 x0 x1 x2 x3 x4 x5 x6 x7 x8 x9 x10 x11 x12 x13
            go_wp2_with fail
            go_ret
            exact ⟨by trivial, HB1.out.trans (L7.out.below.mono HB1.out.size)⟩
          · have S7 := Lib.hid hl
            have L7 := Lib.hid (L6.out.trans hb)
            have OP7 := Lib.hid (OP6.out.lv hb)
            have OA7 := Lib.hid (OA6.out.lv hb)
            have HX7 := Lib.hid (show Rc.Bx w6 B #[.int .i64 r.kind, .int .i64 r.tx, .int .i64 r.prev, .int .i64 r.next, .string r.key, .bool r.had, .string r.old.k, .string r.old.v, .int .i64 r.old.b, .int .i64 r.old.z, .slice hd.g.A hd.g.n hd.g.c, .slice hd.p.A hd.p.n hd.p.c, .slice hd.t.A hd.t.n hd.t.c, .slice hd.d.A hd.d.n hd.d.c] 43 from (hb.other B _ _ _ HX6.out (by decide) (by decide) (by decide) (by decide) (by decide)).trans HX6.out)
            have I7 := Lib.hid (I.out.app z1 z2)
            have hdn := I.out.dn
            have F7 := Lib.hid (show (appA A r).first = 2 ∧ (appA A r).sectors = 2000 ∧ (appA A r).epoch = 5 ∧ (appA A r).recs = pl L (j + 1) ∧ (appA A r).dur = (if n0 ≤ j then n0 else 0) from ⟨F.out.1, F.out.2.1, F.out.2.2.1, by
              show A.recs ++ [Rc.putS r] = _
              rw [F.out.2.2.2.1, ← HLJ.out]
              exact pl_succ (by omega), F.out.2.2.2.2⟩)
            have HI7 := Lib.hid (show ∀ b ∈ Wa.part (appA A r).first (appA A r).sectors D.last, High (appA A r).epoch b from HI.out)
            have HA7 := Lib.hid (show ∀ i, i < j + 1 → Rc.rightR (L.getD i Rc.nilR) = true from fun i hi => by
              by_cases e9 : i < j
              · exact HA.out i e9
              · obtain rfl : i = j := by omega
                rw [HLJ.out]; exact z1)
            clear hl hb AQ L6 S6 OP6 OA6 HX6 I F HI HA z1 z2 hdn x0 x1 x2 x3 x4 x5 x6 x7 x8 x9 x10 x11 x12 x13
            rw [e4]
            clear e4 hrl
            generalize appA A r = A7 at *
            have x0 : w6.cell? ⟨B, 0, none⟩ = some (.int .i64 r.kind) := HX7.out.cell 0
            have x1 : w6.cell? ⟨B, 1, none⟩ = some (.int .i64 r.tx) := HX7.out.cell 1
            have x2 : w6.cell? ⟨B, 2, none⟩ = some (.int .i64 r.prev) := HX7.out.cell 2
            have x3 : w6.cell? ⟨B, 3, none⟩ = some (.int .i64 r.next) := HX7.out.cell 3
            have x4 : w6.cell? ⟨B, 4, none⟩ = some (.string r.key) := HX7.out.cell 4
            have x5 : w6.cell? ⟨B, 5, none⟩ = some (.bool r.had) := HX7.out.cell 5
            have x6 : w6.cell? ⟨B, 6, none⟩ = some (.string r.old.k) := HX7.out.cell 6
            have x7 : w6.cell? ⟨B, 7, none⟩ = some (.string r.old.v) := HX7.out.cell 7
            have x8 : w6.cell? ⟨B, 8, none⟩ = some (.int .i64 r.old.b) := HX7.out.cell 8
            have x9 : w6.cell? ⟨B, 9, none⟩ = some (.int .i64 r.old.z) := HX7.out.cell 9
            have x10 : w6.cell? ⟨B, 10, none⟩ = some (.slice hd.g.A hd.g.n hd.g.c) := HX7.out.cell 10
            have x11 : w6.cell? ⟨B, 11, none⟩ = some (.slice hd.p.A hd.p.n hd.p.c) := HX7.out.cell 11
            have x12 : w6.cell? ⟨B, 12, none⟩ = some (.slice hd.t.A hd.t.n hd.t.c) := HX7.out.cell 12
            have x13 : w6.cell? ⟨B, 13, none⟩ = some (.slice hd.d.A hd.d.n hd.d.c) := HX7.out.cell 13
            have HSR := Lib.hid (fun (u : World) (hu : Rc.Bx u w6.heap.size #[.int .i64 r.kind, .int .i64 r.tx, .int .i64 r.prev, .int .i64 r.next, .string r.key, .bool r.had, .string r.old.k, .string r.old.v, .int .i64 r.old.b, .int .i64 r.old.z, .slice hd.g.A hd.g.n hd.g.c, .slice hd.p.A hd.p.n hd.p.c, .slice hd.t.A hd.t.n hd.t.c, .slice hd.d.A hd.d.n hd.d.c] 43) => show Src u 14 (some ⟨w6.heap.size, 0, none⟩) 1 (rhs [((r, hd) : RH)]) from ⟨rfl, fun _ => ⟨_, rfl, fun i v hv => by
              have hv2 : (#[.int .i64 r.kind, .int .i64 r.tx, .int .i64 r.prev, .int .i64 r.next, .string r.key, .bool r.had, .string r.old.k, .string r.old.v, .int .i64 r.old.b, .int .i64 r.old.z, .slice hd.g.A hd.g.n hd.g.c, .slice hd.p.A hd.p.n hd.p.c, .slice hd.t.A hd.t.n hd.t.c, .slice hd.d.A hd.d.n hd.d.c] : Array Value)[i]? = some v := by
                have e9 : rhs [((r, hd) : RH)] = (#[.int .i64 r.kind, .int .i64 r.tx, .int .i64 r.prev, .int .i64 r.next, .string r.key, .bool r.had, .string r.old.k, .string r.old.v, .int .i64 r.old.b, .int .i64 r.old.z, .slice hd.g.A hd.g.n hd.g.c, .slice hd.p.A hd.p.n hd.p.c, .slice hd.t.A hd.t.n hd.t.c, .slice hd.d.A hd.d.n hd.d.c] : Array Value).toList := by unfold rhs; rw [List.flatMap_cons, List.flatMap_nil, List.append_nil]; rfl
                rw [e9] at hv
                simpa using hv
              rw [Rc.aplain, Nat.zero_add]
              exact (hu.cell i).trans hv2⟩⟩)
            have hcs := HSR.out _ (Rc.Bx.new w6 #[.int .i64 r.kind, .int .i64 r.tx, .int .i64 r.prev, .int .i64 r.next, .string r.key, .bool r.had, .string r.old.k, .string r.old.v, .int .i64 r.old.b, .int .i64 r.old.z, .slice hd.g.A hd.g.n hd.g.c, .slice hd.p.A hd.p.n hd.p.c, .slice hd.t.A hd.t.n hd.t.c, .slice hd.d.A hd.d.n hd.d.c] 43)
            have hoa : World.ownsRow (w6.alloc (.cells #[.int .i64 r.kind, .int .i64 r.tx, .int .i64 r.prev, .int .i64 r.next, .string r.key, .bool r.had, .string r.old.k, .string r.old.v, .int .i64 r.old.b, .int .i64 r.old.z, .slice hd.g.A hd.g.n hd.g.c, .slice hd.p.A hd.p.n hd.p.c, .slice hd.t.A hd.t.n hd.t.c, .slice hd.d.A hd.d.n hd.d.c] 43)) w3.heap.size 43 14 (.slice Aa j ca) j (rhs (P.take j)) := by
              have h9 := World.ownsRow.alloc OA7.out (.cells #[.int .i64 r.kind, .int .i64 r.tx, .int .i64 r.prev, .int .i64 r.next, .string r.key, .bool r.had, .string r.old.k, .string r.old.v, .int .i64 r.old.b, .int .i64 r.old.z, .slice hd.g.A hd.g.n hd.g.c, .slice hd.p.A hd.p.n hd.p.c, .slice hd.t.A hd.t.n hd.t.c, .slice hd.d.A hd.d.n hd.d.c] 43)
              rw [List.length_take, Nat.min_eq_left (by omega)] at h9
              exact h9
            have hbs6 : w3.heap.size ≤ (w6.alloc (.cells #[.int .i64 r.kind, .int .i64 r.tx, .int .i64 r.prev, .int .i64 r.next, .string r.key, .bool r.had, .string r.old.k, .string r.old.v, .int .i64 r.old.b, .int .i64 r.old.z, .slice hd.g.A hd.g.n hd.g.c, .slice hd.p.A hd.p.n hd.p.c, .slice hd.t.A hd.t.n hd.t.c, .slice hd.d.A hd.d.n hd.d.c] 43)).heap.size := by
              rw [World.size_alloc]
              have h8 := World.ownsRow.lt OP7.out g6 rfl
              omega
            go_wp2_with (at_builtin; refine wpList_append_src _ rfl (.tmp 89) (.tmp 91) 49 rfl 43 i0 (.agg Rc.z14) 14 200 Tryz.underlying49 hi0 hz0 hz1 hz2 rfl (by decide) w3.heap.size (.slice Aa j ca) j (rhs (P.take j)) rfl hoa (some ⟨w6.heap.size, 0, none⟩) 1 1 (rhs [((r, hd) : RH)]) rfl hcs (rhs_one _) ?e5 ?e6 hbs6 ?_)
            case e5 => unfold maxLen; omega
            case e6 => omega
            intro v8 w8 hown8 hgr8 hbk8
            have S8 := Lib.hid (rec_app S7.out OA7.out hgr8)
            have L8 := Lib.hid (show Lv w1.heap.size w1 w8 from .of_below ((L7.out.below.alloc L7.out.size (.cells #[.int .i64 r.kind, .int .i64 r.tx, .int .i64 r.prev, .int .i64 r.next, .string r.key, .bool r.had, .string r.old.k, .string r.old.v, .int .i64 r.old.b, .int .i64 r.old.z, .slice hd.g.A hd.g.n hd.g.c, .slice hd.p.A hd.p.n hd.p.c, .slice hd.t.A hd.t.n hd.t.c, .slice hd.d.A hd.d.n hd.d.c] 43)).grown hgr8 (by rw [World.size_alloc]; have := L7.out.size; omega) (fun g hg => Nat.le_trans HS3.out (World.ownsRow.lt OA7.out g hg).1)) (Nat.le_refl _) (Nat.le_refl _))
            have OP8 := Lib.hid (OP7.out.aside hgr8 AP.out)
            have htk : P.take j ++ [((r, hd) : RH)] = P.take (j + 1) := by rw [take_snoc P j rh0 (by omega), HRH.out]
            have OA8 := Lib.hid (show OwnR w3.heap.size w8 v8 (P.take (j + 1)) from by
              rw [← htk]
              unfold OwnR
              rw [List.length_append, List.length_take, Nat.min_eq_left (by omega), rhs_append]
              exact hown8)
            have AP8 := Lib.hid (show ∀ g, (Value.slice (some ⟨g6, 0, none⟩) N v6c).ownBlock = some g → v8.ownBlock ≠ some g from fun g hg e => by
              rcases hbk8 with h9 | h9
              · exact AP.out g hg (h9.symm.trans e)
              · rw [h9] at e
                have := (World.ownsRow.lt OP7.out g hg).2
                simp only [Option.some.injEq] at e
                omega)
            obtain ⟨A8, c8, hv8⟩ := OA8.out.shape
            rw [List.length_take, Nat.min_eq_left (by omega)] at hv8
            subst hv8
            clear htk hown8 hgr8 hbk8 S7 L7 OP7 OA7 HX7 hcs hoa hbs6 HSR AP x0 x1 x2 x3 x4 x5 x6 x7 x8 x9 x10 x11 x12 x13
            have e9 : IntKind.i64.wrap ((n0 : Int) - 1) = (n0 : Int) - 1 := IntWalk.i64_in _ (by omega)
            by_cases hj1 : j + 1 = n0
            · have m2 : ((j : Int) == (n0 : Int) - 1) = true := by rw [beq_iff_eq]; omega
              have m3' : (j : Int) = (n0 : Int) - 1 := by omega
              obtain ⟨D9, g1, g2, g3, g4, g5, FL⟩ := ls_flush_all w8 S8.out I7.out R.out.1 R.out.2.1 HI7.out
              have HFL := Lib.hid FL
              have I9 := Lib.hid g1
              have hr7 : A7.recs.length = j + 1 := by rw [F7.out.2.2.2.1]; exact pl_length (by omega)
              have F9 := Lib.hid (show ({ A7 with dur := A7.recs.length, fin := A7.fin + cntB (A7.recs.drop A7.dur) } : Lg).first = 2 ∧ ({ A7 with dur := A7.recs.length, fin := A7.fin + cntB (A7.recs.drop A7.dur) } : Lg).sectors = 2000 ∧ ({ A7 with dur := A7.recs.length, fin := A7.fin + cntB (A7.recs.drop A7.dur) } : Lg).epoch = 5 ∧ ({ A7 with dur := A7.recs.length, fin := A7.fin + cntB (A7.recs.drop A7.dur) } : Lg).recs = pl L (j + 1) ∧ ({ A7 with dur := A7.recs.length, fin := A7.fin + cntB (A7.recs.drop A7.dur) } : Lg).dur = (if n0 ≤ j + 1 then n0 else 0) from ⟨F7.out.1, F7.out.2.1, F7.out.2.2.1, F7.out.2.2.2.1, by rw [if_pos (by omega)]; show A7.recs.length = n0; omega⟩)
              have HI9 := Lib.hid (show ∀ b ∈ Wa.part ({ A7 with dur := A7.recs.length, fin := A7.fin + cntB (A7.recs.drop A7.dur) } : Lg).first ({ A7 with dur := A7.recs.length, fin := A7.fin + cntB (A7.recs.drop A7.dur) } : Lg).sectors D9.last, High ({ A7 with dur := A7.recs.length, fin := A7.fin + cntB (A7.recs.drop A7.dur) } : Lg).epoch b from g5)
              have R9 := Lib.hid (show D9.runs = true ∧ D9.left < 0 ∧ D9.last.length = 2100 from ⟨g2, g3, g4.trans R.out.2.2⟩)
              clear FL g1 g2 g3 g4 g5 I7 F7 HI7 R
              go_wp2_with fail
              refine HFL.out.mono ?_; rintro e w9 ⟨rfl, hl, hb⟩
              have S9 := Lib.hid hl
              have L9 := Lib.hid (L8.out.trans hb)
              have OP9 := Lib.hid (OP8.out.lv hb)
              have OA9 := Lib.hid (OA8.out.lv hb)
              clear hl hb HFL S8 L8 OP8 OA8
              go_wp2_with fail
              go_roundw
              case rel => exact ⟨j + 1, by omega, by go_num, A8, c8, (by first | rfl | rw [hj1]), Lib.hid ⟨_, _, S9.out, I9.out, F9.out, R9.out, HI9.out, OP9.out, OA9.out, AP8.out, HA7.out, L9.out⟩⟩
              case measure => simp [intOf] <;> omega
            · have m2 : ((j : Int) == (n0 : Int) - 1) = false := by rw [beq_eq_false_iff_ne]; omega
              have m3' : ¬ (j : Int) = (n0 : Int) - 1 := by omega
              have F9 := Lib.hid (show A7.first = 2 ∧ A7.sectors = 2000 ∧ A7.epoch = 5 ∧ A7.recs = pl L (j + 1) ∧ A7.dur = (if n0 ≤ j + 1 then n0 else 0) from ⟨F7.out.1, F7.out.2.1, F7.out.2.2.1, F7.out.2.2.2.1, by
                rw [F7.out.2.2.2.2]
                by_cases h9 : n0 ≤ j
                · rw [if_pos h9, if_pos (by omega)]
                · rw [if_neg h9, if_neg (by omega)]⟩)
              clear F7
              go_wp2_with fail
              go_roundw
              case rel => exact ⟨j + 1, by omega, by go_num, A8, c8, (by first | rfl | rw [hj1]), Lib.hid ⟨_, _, S8.out, I7.out, F9.out, R.out, HI7.out, OP8.out, OA8.out, AP8.out, HA7.out, L8.out⟩⟩
              case measure => simp [intOf] <;> omega
    · have b1 : ¬ (j : Int) < (N : Int) := by omega
      obtain rfl : j = N := by omega
      have hdur : A.dur = n0 := by rw [F.out.2.2.2.2, if_pos hNn]
      have hrecs : A.recs = pl L j := F.out.2.2.2.1
      have ST := Lib.hid (ls_stop a2 wr S.out R.out.1 wr2.1 wr2.2)
      have I1 : Inv A { D with left := a2 } := I.out.calm rfl I.out.pe
      obtain ⟨K, k1, k2, k3, k4, k5, k6, k7, k8, k9, k10⟩ := lasts_end (L := pl L j) I1 hrecs (show ∀ b ∈ Wa.part A.first A.sectors ({ D with left := a2 } : Dk.St).last, High A.epoch b from HI.out) R.out.1 l3
      have hpl : (pl L j).length = j := pl_length (by omega)
      rw [hpl] at k2 k3
      rw [hdur] at k1
      rw [F.out.1, F.out.2.1] at k8 k9 k10
      rw [F.out.2.2.1] at k9 k10
      have II1 := Lib.hid I1
      have OA4a := Lib.hid OA.out
      clear I1
      have htl : P.take j = P := List.take_of_length_le (by omega)
      rw [htl] at OA4a
      obtain ⟨R9, hR9⟩ : ∃ R9, flushG A { D with left := a2 } = R9 := ⟨_, rfl⟩
      have FLf := Lib.hid (fun (u : World) (hu : LS w1.heap.size q p A { D with left := a2 } u) => ls_flush u hu II1.out)
      rw [hR9] at FLf k3 k4 k5 k6 k7 k8 k9 k10
      obtain ⟨DX, hDX⟩ : ∃ DX, Dk.crashed R9.2.1 l3 = DX := ⟨_, rfl⟩
      rw [hDX] at k5 k6 k7 k8 k9 k10
      have hXl : DX.last.length = 2100 := k7.trans R.out.2.2
      obtain ⟨IX0, OK0⟩ := open_inv (f := 2) (s := 2000) (ep := 6) (D := DX) (by omega) (by omega) (by omega) (by omega) (by omega) k6 k9 (fun x hx => by
        rw [k8] at hx
        exact I.out.ok x (by rw [hrecs]; exact List.mem_of_mem_take hx))
      obtain ⟨AX, hAX⟩ : ∃ AX, opG 2 2000 6 (Wa.part 2 2000 DX.last) = AX := ⟨_, rfl⟩
      rw [hAX] at IX0
      have HAX := Lib.hid hAX
      have IX := Lib.hid IX0
      have HOK := Lib.hid OK0
      have HX2 := Lib.hid (show DX.runs = true ∧ DX.pend = [] ∧ DX.last.length = 2100 from ⟨k5, k6, hXl⟩)
      have HRX := Lib.hid (show AX.recs = (pl L j).take K from by rw [← hAX]; exact k8)
      have hrK : AX.recs.length = K := by rw [HRX.out, List.length_take, hpl]; omega
      have kn1 : ¬ K < n0 := by omega
      have kn2 : ¬ j < K := by omega
      have kk1 : ¬ (K : Int) < (n0 : Int) := by omega
      have kk2 : ¬ (j : Int) < (K : Int) := by omega
      have HK0 := Lib.hid (show okO (Wa.part 2 2000 DX.last) 5 = true → K = 0 from fun h9 => by
        unfold okO at h9
        rw [Bool.and_eq_true, decide_eq_true_eq] at h9
        rcases Nat.eq_zero_or_pos K with h8 | h8
        · exact h8
        · have hne : (scan (Wa.part 2 2000 DX.last)).out ≠ [] := fun e => by
            rw [k8] at e
            have := congrArg List.length e
            rw [List.length_take, hpl, List.length_nil] at this
            omega
          have := scan_high k10 hne
          omega)
      clear k5 k6 k7 k8 k9 k10 hXl IX0 OK0 hAX hdur hpl htl I F R HI OP AP
      go_wp2_with fail
      refine ST.out.mono ?_; rintro e w4 ⟨rfl, hl, hb⟩
      have FL := Lib.hid (FLf.out w4 hl)
      have L4 := Lib.hid (Lw.out.trans hb)
      have OA4 := Lib.hid (OA4a.out.lv hb)
      clear hl hb ST FLf OA4a OA Lw
      rcases k3 with ⟨hcode, hKj⟩ | hcode
      · have hjK : j = K := hKj.symm
        clear hKj
        subst hjK
        go_wp2_with fail
        refine FL.out.mono ?_; rintro e w5 ⟨rfl, hl, hb⟩
        rw [hcode]
        have L5 := Lib.hid (L4.out.trans hb)
        have OA5 := Lib.hid (OA4.out.lv hb)
        have hbr := HB1.out.trans (L5.out.below.mono HB1.out.size)
        have CR := Lib.hid (Dk.crash_d hl.disk l3 A3 c3 (by omega) (by rw [hlk]; exact m3) (keeps_of HK.out hbr HB1.out.size))
        rw [hlk, hDX] at CR
        have LSb := Lib.hid hl.base
        clear hl hb FL L4 OA4 hbr hcode
        go_wp2_with fail
        refine CR.out.mono ?_; rintro e w6 ⟨rfl, hd6, hl6⟩
        have L6 := Lib.hid (L5.out.trans (.of_d hl6))
        have OA6 := Lib.hid (OA5.out.lv (.of_d hl6))
        have D6 := Lib.hid hd6
        clear hd6 hl6 CR L5 OA5
        have OPN := Lib.hid (ls_open 2 2000 6 w6 D6.out L6.out.size HX2.out.1 HX2.out.2.1 (by omega) (by rw [HX2.out.2.2]; omega) (by rw [HX2.out.2.2]; omega) (by omega) HOK.out)
        have OPN2 := Lib.hid (show Calls Tryz.prog 14 #[.pointer (some ⟨p, 0, none⟩), .int .i64 2, .int .i64 2000, .int .i64 6] w6 fun e w' => ∃ q, e = .returned (.tuple #[.pointer (some ⟨q, 0, none⟩), .int .i64 0]) ∧ LS w1.heap.size q p AX DX w' ∧ Below w6.heap.size w6 w' from by rw [← HAX.out]; exact OPN.out)
        clear OPN
        go_wp2_with fail
        refine OPN2.out.mono ?_; rintro e w7 ⟨m, rfl, hl, hb⟩
        have S7 := Lib.hid hl
        have L7 := Lib.hid (L6.out.trans (.here hb L6.out.size))
        have OA7 := Lib.hid (OA6.out.kept hb)
        have LQ := Lib.hid (fun (u : World) (hu : LS w1.heap.size m p AX DX u) => show Calls Tryz.prog 28 #[.pointer (some ⟨m, 0, none⟩)] u fun e w' => e = .returned (.int .i64 (j : Int)) ∧ u = w' from by have h9 := ls_last u hu; rw [hrK] at h9; exact h9)
        have LA := Lib.hid (LQ.out w7 S7.out)
        clear hl hb OPN2 L6 OA6 D6
        go_wp2_with fail
        refine LA.out.mono ?_; rintro e u ⟨rfl, rfl⟩
        go_wp2_with fail
        refine LA.out.mono ?_; rintro e u ⟨rfl, rfl⟩
        go_wp2_with fail
        refine LA.out.mono ?_; rintro e u ⟨rfl, rfl⟩
        go_wp2_with fail
        go_loopw [20] (fun iv wr => ∃ i : Nat, i ≤ j ∧ iv = .int .i64 ((i : Int) + 1) ∧ Hid (LS w1.heap.size m p AX DX wr ∧ OwnR w3.heap.size wr (.slice Aa j ca) P ∧ Lv w1.heap.size w1 wr)) (fun iv _ => 100 - (intOf iv).toNat)
        case atStart => exact ⟨0, Nat.zero_le _, rfl, Lib.hid ⟨S7.out, OA7.out, L7.out⟩⟩
        case round =>
          obtain ⟨i, hi, rfl, hq⟩ := hrel
          have S8 := Lib.hid hq.out.1
          have OA8 := Lib.hid hq.out.2.1
          have L8 := Lib.hid hq.out.2.2
          have LA := Lib.hid (LQ.out wr S8.out)
          clear hq S7 OA7 L7
          by_cases hiK : i < j
          · have c1 : (i : Int) + 1 ≤ (j : Int) := by omega
            have i0' : (0 : Int) ≤ (i : Int) := by omega
            have c1b : (i : Int) < (j : Int) := by omega
            have hlj := HLK.out i (by omega)
            have hm := HPM.out i (by omega)
            have hrt := HA.out i (by omega)
            obtain ⟨rh, hrh⟩ : ∃ rh, P.getD i rh0 = rh := ⟨_, rfl⟩
            rw [hrh] at hlj hm
            rw [hlj] at hrt
            have hgd : AX.recs.getD i [] = Rc.putS rh.1 := by
              rw [HRX.out, List.getD_eq_getElem?_getD, List.getElem?_take, if_pos hiK, ← List.getD_eq_getElem?_getD, pl_at (by omega) (show i < j by omega), hlj]
            obtain ⟨r, hd⟩ := rh
            dsimp only at hlj hm hrt hgd
            have AT := Lib.hid (ls_at2 i wr S8.out IX.out (by rw [hrK]; exact hiK) hrt hgd)
            unfold Rc.rcv at AT
            have HM := Lib.hid hm
            have HRH := Lib.hid hrh
            clear hlj hm hrt hgd hrh
            go_wp2_with fail
            refine LA.out.mono ?_; rintro e u ⟨rfl, rfl⟩
            go_wp2_with fail
            refine AT.out.mono ?_; rintro e w10 ⟨h2, rfl, hm2, hb⟩
            have S10 := Lib.hid (S8.out.kept hb)
            have L10 := Lib.hid (L8.out.trans (.here hb S8.out.base))
            have OA10 := Lib.hid (OA8.out.kept hb)
            have HZ := Lib.hid (Rc.Bx.new w10 #[.int .i64 0, .int .i64 0, .int .i64 0, .int .i64 0, .string ⟨#[]⟩, .bool false, .string ⟨#[]⟩, .string ⟨#[]⟩, .int .i64 0, .int .i64 0, .slice none 0 0, .slice none 0 0, .slice none 0 0, .slice none 0 0] 43)
            have HB9 := Lib.hid (Rc.below_row (ds := #[.int .i64 r.kind, .int .i64 r.tx, .int .i64 r.prev, .int .i64 r.next, .string r.key, .bool r.had, .string r.old.k, .string r.old.v, .int .i64 r.old.b, .int .i64 r.old.z, .slice h2.g.A h2.g.n h2.g.c, .slice h2.p.A h2.p.n h2.p.c, .slice h2.t.A h2.t.n h2.t.c, .slice h2.d.A h2.d.n h2.d.c]) ((Below.refl w10.heap.size w10).alloc (Nat.le_refl _) (.cells #[.int .i64 0, .int .i64 0, .int .i64 0, .int .i64 0, .string ⟨#[]⟩, .bool false, .string ⟨#[]⟩, .string ⟨#[]⟩, .int .i64 0, .int .i64 0, .slice none 0 0, .slice none 0 0, .slice none 0 0, .slice none 0 0] 43)) (Nat.le_refl _))
            have S11 := Lib.hid (S10.out.kept HB9.out)
            have L11 := Lib.hid (L10.out.trans (.here HB9.out S10.out.base))
            have OA11 := Lib.hid (OA10.out.kept HB9.out)
            have hm5 := Lib.hid ((hm2.kept HB9.out).more HB9.out.size)
            have hz0' := HZ.out
            have HX := Lib.hid (hz0'.row #[.int .i64 r.kind, .int .i64 r.tx, .int .i64 r.prev, .int .i64 r.next, .string r.key, .bool r.had, .string r.old.k, .string r.old.v, .int .i64 r.old.b, .int .i64 r.old.z, .slice h2.g.A h2.g.n h2.g.c, .slice h2.p.A h2.p.n h2.p.c, .slice h2.t.A h2.t.n h2.t.c, .slice h2.d.A h2.d.n h2.d.c])
            clear hb AT LA hm2 S8 L8 OA8 S10 L10 OA10 HB9 HZ
            go_wp2_with (refine wpList_store_row rfl 43 (.tmp 21) (.tmp 158) rfl w10.heap.size #[.int .i64 r.kind, .int .i64 r.tx, .int .i64 r.prev, .int .i64 r.next, .string r.key, .bool r.had, .string r.old.k, .string r.old.v, .int .i64 r.old.b, .int .i64 r.old.z, .slice h2.g.A h2.g.n h2.g.c, .slice h2.p.A h2.p.n h2.p.c, .slice h2.t.A h2.t.n h2.t.c, .slice h2.d.A h2.d.n h2.d.c] rfl rfl 43 _ hz0' (by kernel_rfl) rfl (by simp [Value.oneCell']) ?_; clear hz0'; generalize hV : World.setRow _ _ _ = V at *; clear hV)
            have hbr := HB1.out.trans (L11.out.below.mono HB1.out.size)
            obtain ⟨ga, rfl, _, _, ⟨c0, cc1, c2, c3, c4, c5, c6, c7, c8, c9, c10, c11, c12, c13⟩⟩ := OA11.out.at (k := i) (by omega)
            rw [HRH.out] at c0 cc1 c2 c3 c4 c5 c6 c7 c8 c9 c10 c11 c12 c13
            have SM := Lib.hid (fun (u : World) (hh : Held V u) => show Calls Tryz.prog 27 #[.agg #[.int .i64 r.kind, .int .i64 r.tx, .int .i64 r.prev, .int .i64 r.next, .string r.key, .bool r.had, .string r.old.k, .string r.old.v, .int .i64 r.old.b, .int .i64 r.old.z, .slice h2.g.A h2.g.n h2.g.c, .slice h2.p.A h2.p.n h2.p.c, .slice h2.t.A h2.t.n h2.t.c, .slice h2.d.A h2.d.n h2.d.c], .agg #[.int .i64 r.kind, .int .i64 r.tx, .int .i64 r.prev, .int .i64 r.next, .string r.key, .bool r.had, .string r.old.k, .string r.old.v, .int .i64 r.old.b, .int .i64 r.old.z, .slice hd.g.A hd.g.n hd.g.c, .slice hd.p.A hd.p.n hd.p.c, .slice hd.t.A hd.t.n hd.t.c, .slice hd.d.A hd.d.n hd.d.c]] u fun e w' => e = .returned (.bool true) ∧ Below u.heap.size u w' from by
              have h9 := Rc.samer_is r r h2 hd u (hm5.out.kept hh) ((HM.out.kept hbr).kept (hh.mono hbr.size)) (Below.size hh) (Nat.le_trans hbr.size (Below.size hh))
              rw [(Rc.eqR_iff r r).2 rfl] at h9
              exact h9)
            have e9 : IntKind.i64.wrap ((i : Int) + 1 - 1) = (i : Int) := by rw [IntWalk.i64_in _ (by omega)]; omega
            have e9b : IntKind.i64.wrap (i : Int) = (i : Int) := IntWalk.i64_in _ (by omega)
            have e8 : IntKind.i64.wrap ((i : Int) + 1 + 1) = (i : Int) + 1 + 1 := IntWalk.i64_in _ (by omega)
            have x0 := fun u (hh : Held V u) => hh.cell (show V.cell? ⟨w10.heap.size, 0, none⟩ = some (.int .i64 r.kind) from HX.out.cell 0)
            have x1 := fun u (hh : Held V u) => hh.cell (show V.cell? ⟨w10.heap.size, 1, none⟩ = some (.int .i64 r.tx) from HX.out.cell 1)
            have x2 := fun u (hh : Held V u) => hh.cell (show V.cell? ⟨w10.heap.size, 2, none⟩ = some (.int .i64 r.prev) from HX.out.cell 2)
            have x3 := fun u (hh : Held V u) => hh.cell (show V.cell? ⟨w10.heap.size, 3, none⟩ = some (.int .i64 r.next) from HX.out.cell 3)
            have x4 := fun u (hh : Held V u) => hh.cell (show V.cell? ⟨w10.heap.size, 4, none⟩ = some (.string r.key) from HX.out.cell 4)
            have x5 := fun u (hh : Held V u) => hh.cell (show V.cell? ⟨w10.heap.size, 5, none⟩ = some (.bool r.had) from HX.out.cell 5)
            have x6 := fun u (hh : Held V u) => hh.cell (show V.cell? ⟨w10.heap.size, 6, none⟩ = some (.string r.old.k) from HX.out.cell 6)
            have x7 := fun u (hh : Held V u) => hh.cell (show V.cell? ⟨w10.heap.size, 7, none⟩ = some (.string r.old.v) from HX.out.cell 7)
            have x8 := fun u (hh : Held V u) => hh.cell (show V.cell? ⟨w10.heap.size, 8, none⟩ = some (.int .i64 r.old.b) from HX.out.cell 8)
            have x9 := fun u (hh : Held V u) => hh.cell (show V.cell? ⟨w10.heap.size, 9, none⟩ = some (.int .i64 r.old.z) from HX.out.cell 9)
            have x10 := fun u (hh : Held V u) => hh.cell (show V.cell? ⟨w10.heap.size, 10, none⟩ = some (.slice h2.g.A h2.g.n h2.g.c) from HX.out.cell 10)
            have x11 := fun u (hh : Held V u) => hh.cell (show V.cell? ⟨w10.heap.size, 11, none⟩ = some (.slice h2.p.A h2.p.n h2.p.c) from HX.out.cell 11)
            have x12 := fun u (hh : Held V u) => hh.cell (show V.cell? ⟨w10.heap.size, 12, none⟩ = some (.slice h2.t.A h2.t.n h2.t.c) from HX.out.cell 12)
            have x13 := fun u (hh : Held V u) => hh.cell (show V.cell? ⟨w10.heap.size, 13, none⟩ = some (.slice h2.d.A h2.d.n h2.d.c) from HX.out.cell 13)
            have d0 := fun u (hh : Held V u) => hh.cell c0
            have d1 := fun u (hh : Held V u) => hh.cell cc1
            have d2 := fun u (hh : Held V u) => hh.cell c2
            have d3 := fun u (hh : Held V u) => hh.cell c3
            have d4 := fun u (hh : Held V u) => hh.cell c4
            have d5 := fun u (hh : Held V u) => hh.cell c5
            have d6 := fun u (hh : Held V u) => hh.cell c6
            have d7 := fun u (hh : Held V u) => hh.cell c7
            have d8 := fun u (hh : Held V u) => hh.cell c8
            have d9 := fun u (hh : Held V u) => hh.cell c9
            have d10 := fun u (hh : Held V u) => hh.cell c10
            have d11 := fun u (hh : Held V u) => hh.cell c11
            have d12 := fun u (hh : Held V u) => hh.cell c12
            have d13 := fun u (hh : Held V u) => hh.cell c13
            clear hbr c0 cc1 c2 c3 c4 c5 c6 c7 c8 c9 c10 c11 c12 c13 HX hm5
            go_wp2_with fail
            go_region_held3 (fun u => Held V u) (first | exact Held.start _ | exact Held.step (by assumption) (by assumption) | assumption) (first
              | (go_at_call 27; refine (SM.out _ (by assumption)).mono ?_; rintro e u ⟨rfl, hb⟩))
            have HH := Lib.hid ‹Held V u›
            have S12 := Lib.hid (S11.out.kept (show Below V.heap.size V u from HH.out))
            have L12 := Lib.hid (L11.out.trans (.here (show Below V.heap.size V u from HH.out) S11.out.base))
            have OA12 := Lib.hid (OA11.out.kept (show Below V.heap.size V u from HH.out))
            clear SM HH S11 L11 OA11
            go_wp2_with fail
            go_roundw
            case rel => exact ⟨i + 1, by omega, by go_num, Lib.hid ⟨S12.out, OA12.out, L12.out⟩⟩
            case measure => simp [intOf] <;> omega
          · have c1 : ¬ (i : Int) + 1 ≤ (j : Int) := by omega
            have AG := Lib.hid (open_it 2 2000 5 wr S8.out.disk (by rw [HX2.out.2.2]; omega) HX2.out.1 (decide_eq_true (by rw [HX2.out.2.2]; omega)) (by omega))
            rw [HX2.out.2.1, Dk.appl_nil] at AG
            go_wp2_with fail
            refine LA.out.mono ?_; rintro e u ⟨rfl, rfl⟩
            go_wp2_with fail
            refine AG.out.mono ?_; rintro e w11 ⟨hb, ⟨_, rfl⟩ | ⟨hok5, q5, v5, rfl, _⟩⟩
            · have S9 := Lib.hid (S8.out.kept hb)
              have L9 := Lib.hid (L8.out.trans (.here hb S8.out.base))
              have LA2 := Lib.hid (LQ.out w11 S9.out)
              go_wp2_with fail
              refine LA2.out.mono ?_; rintro e u ⟨rfl, rfl⟩
              go_wp2_with fail
              all_goals (go_ret; exact ⟨by trivial, HB1.out.trans (L9.out.below.mono HB1.out.size)⟩)
            · have hK0 : j = 0 := HK0.out hok5
              have S9 := Lib.hid (S8.out.kept hb)
              have L9 := Lib.hid (L8.out.trans (.here hb S8.out.base))
              have LA2 := Lib.hid (LQ.out w11 S9.out)
              have hK0i : ((j : Int) == 0) = true := by rw [beq_iff_eq]; omega
              have hK0j : (j : Int) = 0 := by omega
              go_wp2_with fail
              refine LA2.out.mono ?_; rintro e u ⟨rfl, rfl⟩
              go_wp2_with fail
              go_ret
              exact ⟨by trivial, HB1.out.trans (L9.out.below.mono HB1.out.size)⟩
      · skip
        go_wp2_with fail
        refine FL.out.mono ?_; rintro e w5 ⟨rfl, hl, hb⟩
        rw [hcode]
        have L5 := Lib.hid (L4.out.trans hb)
        have OA5 := Lib.hid (OA4.out.lv hb)
        have hbr := HB1.out.trans (L5.out.below.mono HB1.out.size)
        have CR := Lib.hid (Dk.crash_d hl.disk l3 A3 c3 (by omega) (by rw [hlk]; exact m3) (keeps_of HK.out hbr HB1.out.size))
        rw [hlk, hDX] at CR
        have LSb := Lib.hid hl.base
        clear hl hb FL L4 OA4 hbr hcode
        go_wp2_with fail
        refine CR.out.mono ?_; rintro e w6 ⟨rfl, hd6, hl6⟩
        have L6 := Lib.hid (L5.out.trans (.of_d hl6))
        have OA6 := Lib.hid (OA5.out.lv (.of_d hl6))
        have D6 := Lib.hid hd6
        clear hd6 hl6 CR L5 OA5
        have OPN := Lib.hid (ls_open 2 2000 6 w6 D6.out L6.out.size HX2.out.1 HX2.out.2.1 (by omega) (by rw [HX2.out.2.2]; omega) (by rw [HX2.out.2.2]; omega) (by omega) HOK.out)
        have OPN2 := Lib.hid (show Calls Tryz.prog 14 #[.pointer (some ⟨p, 0, none⟩), .int .i64 2, .int .i64 2000, .int .i64 6] w6 fun e w' => ∃ q, e = .returned (.tuple #[.pointer (some ⟨q, 0, none⟩), .int .i64 0]) ∧ LS w1.heap.size q p AX DX w' ∧ Below w6.heap.size w6 w' from by rw [← HAX.out]; exact OPN.out)
        clear OPN
        go_wp2_with fail
        refine OPN2.out.mono ?_; rintro e w7 ⟨m, rfl, hl, hb⟩
        have S7 := Lib.hid hl
        have L7 := Lib.hid (L6.out.trans (.here hb L6.out.size))
        have OA7 := Lib.hid (OA6.out.kept hb)
        have LQ := Lib.hid (fun (u : World) (hu : LS w1.heap.size m p AX DX u) => show Calls Tryz.prog 28 #[.pointer (some ⟨m, 0, none⟩)] u fun e w' => e = .returned (.int .i64 (K : Int)) ∧ u = w' from by have h9 := ls_last u hu; rw [hrK] at h9; exact h9)
        have LA := Lib.hid (LQ.out w7 S7.out)
        clear hl hb OPN2 L6 OA6 D6
        go_wp2_with fail
        refine LA.out.mono ?_; rintro e u ⟨rfl, rfl⟩
        go_wp2_with fail
        refine LA.out.mono ?_; rintro e u ⟨rfl, rfl⟩
        go_wp2_with fail
        go_loopw [20] (fun iv wr => ∃ i : Nat, i ≤ K ∧ iv = .int .i64 ((i : Int) + 1) ∧ Hid (LS w1.heap.size m p AX DX wr ∧ OwnR w3.heap.size wr (.slice Aa j ca) P ∧ Lv w1.heap.size w1 wr)) (fun iv _ => 100 - (intOf iv).toNat)
        case atStart => exact ⟨0, Nat.zero_le _, rfl, Lib.hid ⟨S7.out, OA7.out, L7.out⟩⟩
        case round =>
          obtain ⟨i, hi, rfl, hq⟩ := hrel
          have S8 := Lib.hid hq.out.1
          have OA8 := Lib.hid hq.out.2.1
          have L8 := Lib.hid hq.out.2.2
          have LA := Lib.hid (LQ.out wr S8.out)
          clear hq S7 OA7 L7
          by_cases hiK : i < K
          · have c1 : (i : Int) + 1 ≤ (K : Int) := by omega
            have i0' : (0 : Int) ≤ (i : Int) := by omega
            have c1b : (i : Int) < (j : Int) := by omega
            have hlj := HLK.out i (by omega)
            have hm := HPM.out i (by omega)
            have hrt := HA.out i (by omega)
            obtain ⟨rh, hrh⟩ : ∃ rh, P.getD i rh0 = rh := ⟨_, rfl⟩
            rw [hrh] at hlj hm
            rw [hlj] at hrt
            have hgd : AX.recs.getD i [] = Rc.putS rh.1 := by
              rw [HRX.out, List.getD_eq_getElem?_getD, List.getElem?_take, if_pos hiK, ← List.getD_eq_getElem?_getD, pl_at (by omega) (show i < j by omega), hlj]
            obtain ⟨r, hd⟩ := rh
            dsimp only at hlj hm hrt hgd
            have AT := Lib.hid (ls_at2 i wr S8.out IX.out (by rw [hrK]; exact hiK) hrt hgd)
            unfold Rc.rcv at AT
            have HM := Lib.hid hm
            have HRH := Lib.hid hrh
            clear hlj hm hrt hgd hrh
            go_wp2_with fail
            refine LA.out.mono ?_; rintro e u ⟨rfl, rfl⟩
            go_wp2_with fail
            refine AT.out.mono ?_; rintro e w10 ⟨h2, rfl, hm2, hb⟩
            have S10 := Lib.hid (S8.out.kept hb)
            have L10 := Lib.hid (L8.out.trans (.here hb S8.out.base))
            have OA10 := Lib.hid (OA8.out.kept hb)
            have HZ := Lib.hid (Rc.Bx.new w10 #[.int .i64 0, .int .i64 0, .int .i64 0, .int .i64 0, .string ⟨#[]⟩, .bool false, .string ⟨#[]⟩, .string ⟨#[]⟩, .int .i64 0, .int .i64 0, .slice none 0 0, .slice none 0 0, .slice none 0 0, .slice none 0 0] 43)
            have HB9 := Lib.hid (Rc.below_row (ds := #[.int .i64 r.kind, .int .i64 r.tx, .int .i64 r.prev, .int .i64 r.next, .string r.key, .bool r.had, .string r.old.k, .string r.old.v, .int .i64 r.old.b, .int .i64 r.old.z, .slice h2.g.A h2.g.n h2.g.c, .slice h2.p.A h2.p.n h2.p.c, .slice h2.t.A h2.t.n h2.t.c, .slice h2.d.A h2.d.n h2.d.c]) ((Below.refl w10.heap.size w10).alloc (Nat.le_refl _) (.cells #[.int .i64 0, .int .i64 0, .int .i64 0, .int .i64 0, .string ⟨#[]⟩, .bool false, .string ⟨#[]⟩, .string ⟨#[]⟩, .int .i64 0, .int .i64 0, .slice none 0 0, .slice none 0 0, .slice none 0 0, .slice none 0 0] 43)) (Nat.le_refl _))
            have S11 := Lib.hid (S10.out.kept HB9.out)
            have L11 := Lib.hid (L10.out.trans (.here HB9.out S10.out.base))
            have OA11 := Lib.hid (OA10.out.kept HB9.out)
            have hm5 := Lib.hid ((hm2.kept HB9.out).more HB9.out.size)
            have hz0' := HZ.out
            have HX := Lib.hid (hz0'.row #[.int .i64 r.kind, .int .i64 r.tx, .int .i64 r.prev, .int .i64 r.next, .string r.key, .bool r.had, .string r.old.k, .string r.old.v, .int .i64 r.old.b, .int .i64 r.old.z, .slice h2.g.A h2.g.n h2.g.c, .slice h2.p.A h2.p.n h2.p.c, .slice h2.t.A h2.t.n h2.t.c, .slice h2.d.A h2.d.n h2.d.c])
            clear hb AT LA hm2 S8 L8 OA8 S10 L10 OA10 HB9 HZ
            go_wp2_with (refine wpList_store_row rfl 43 (.tmp 21) (.tmp 158) rfl w10.heap.size #[.int .i64 r.kind, .int .i64 r.tx, .int .i64 r.prev, .int .i64 r.next, .string r.key, .bool r.had, .string r.old.k, .string r.old.v, .int .i64 r.old.b, .int .i64 r.old.z, .slice h2.g.A h2.g.n h2.g.c, .slice h2.p.A h2.p.n h2.p.c, .slice h2.t.A h2.t.n h2.t.c, .slice h2.d.A h2.d.n h2.d.c] rfl rfl 43 _ hz0' (by kernel_rfl) rfl (by simp [Value.oneCell']) ?_; clear hz0'; generalize hV : World.setRow _ _ _ = V at *; clear hV)
            have hbr := HB1.out.trans (L11.out.below.mono HB1.out.size)
            obtain ⟨ga, rfl, _, _, ⟨c0, cc1, c2, c3, c4, c5, c6, c7, c8, c9, c10, c11, c12, c13⟩⟩ := OA11.out.at (k := i) (by omega)
            rw [HRH.out] at c0 cc1 c2 c3 c4 c5 c6 c7 c8 c9 c10 c11 c12 c13
            have SM := Lib.hid (fun (u : World) (hh : Held V u) => show Calls Tryz.prog 27 #[.agg #[.int .i64 r.kind, .int .i64 r.tx, .int .i64 r.prev, .int .i64 r.next, .string r.key, .bool r.had, .string r.old.k, .string r.old.v, .int .i64 r.old.b, .int .i64 r.old.z, .slice h2.g.A h2.g.n h2.g.c, .slice h2.p.A h2.p.n h2.p.c, .slice h2.t.A h2.t.n h2.t.c, .slice h2.d.A h2.d.n h2.d.c], .agg #[.int .i64 r.kind, .int .i64 r.tx, .int .i64 r.prev, .int .i64 r.next, .string r.key, .bool r.had, .string r.old.k, .string r.old.v, .int .i64 r.old.b, .int .i64 r.old.z, .slice hd.g.A hd.g.n hd.g.c, .slice hd.p.A hd.p.n hd.p.c, .slice hd.t.A hd.t.n hd.t.c, .slice hd.d.A hd.d.n hd.d.c]] u fun e w' => e = .returned (.bool true) ∧ Below u.heap.size u w' from by
              have h9 := Rc.samer_is r r h2 hd u (hm5.out.kept hh) ((HM.out.kept hbr).kept (hh.mono hbr.size)) (Below.size hh) (Nat.le_trans hbr.size (Below.size hh))
              rw [(Rc.eqR_iff r r).2 rfl] at h9
              exact h9)
            have e9 : IntKind.i64.wrap ((i : Int) + 1 - 1) = (i : Int) := by rw [IntWalk.i64_in _ (by omega)]; omega
            have e9b : IntKind.i64.wrap (i : Int) = (i : Int) := IntWalk.i64_in _ (by omega)
            have e8 : IntKind.i64.wrap ((i : Int) + 1 + 1) = (i : Int) + 1 + 1 := IntWalk.i64_in _ (by omega)
            have x0 := fun u (hh : Held V u) => hh.cell (show V.cell? ⟨w10.heap.size, 0, none⟩ = some (.int .i64 r.kind) from HX.out.cell 0)
            have x1 := fun u (hh : Held V u) => hh.cell (show V.cell? ⟨w10.heap.size, 1, none⟩ = some (.int .i64 r.tx) from HX.out.cell 1)
            have x2 := fun u (hh : Held V u) => hh.cell (show V.cell? ⟨w10.heap.size, 2, none⟩ = some (.int .i64 r.prev) from HX.out.cell 2)
            have x3 := fun u (hh : Held V u) => hh.cell (show V.cell? ⟨w10.heap.size, 3, none⟩ = some (.int .i64 r.next) from HX.out.cell 3)
            have x4 := fun u (hh : Held V u) => hh.cell (show V.cell? ⟨w10.heap.size, 4, none⟩ = some (.string r.key) from HX.out.cell 4)
            have x5 := fun u (hh : Held V u) => hh.cell (show V.cell? ⟨w10.heap.size, 5, none⟩ = some (.bool r.had) from HX.out.cell 5)
            have x6 := fun u (hh : Held V u) => hh.cell (show V.cell? ⟨w10.heap.size, 6, none⟩ = some (.string r.old.k) from HX.out.cell 6)
            have x7 := fun u (hh : Held V u) => hh.cell (show V.cell? ⟨w10.heap.size, 7, none⟩ = some (.string r.old.v) from HX.out.cell 7)
            have x8 := fun u (hh : Held V u) => hh.cell (show V.cell? ⟨w10.heap.size, 8, none⟩ = some (.int .i64 r.old.b) from HX.out.cell 8)
            have x9 := fun u (hh : Held V u) => hh.cell (show V.cell? ⟨w10.heap.size, 9, none⟩ = some (.int .i64 r.old.z) from HX.out.cell 9)
            have x10 := fun u (hh : Held V u) => hh.cell (show V.cell? ⟨w10.heap.size, 10, none⟩ = some (.slice h2.g.A h2.g.n h2.g.c) from HX.out.cell 10)
            have x11 := fun u (hh : Held V u) => hh.cell (show V.cell? ⟨w10.heap.size, 11, none⟩ = some (.slice h2.p.A h2.p.n h2.p.c) from HX.out.cell 11)
            have x12 := fun u (hh : Held V u) => hh.cell (show V.cell? ⟨w10.heap.size, 12, none⟩ = some (.slice h2.t.A h2.t.n h2.t.c) from HX.out.cell 12)
            have x13 := fun u (hh : Held V u) => hh.cell (show V.cell? ⟨w10.heap.size, 13, none⟩ = some (.slice h2.d.A h2.d.n h2.d.c) from HX.out.cell 13)
            have d0 := fun u (hh : Held V u) => hh.cell c0
            have d1 := fun u (hh : Held V u) => hh.cell cc1
            have d2 := fun u (hh : Held V u) => hh.cell c2
            have d3 := fun u (hh : Held V u) => hh.cell c3
            have d4 := fun u (hh : Held V u) => hh.cell c4
            have d5 := fun u (hh : Held V u) => hh.cell c5
            have d6 := fun u (hh : Held V u) => hh.cell c6
            have d7 := fun u (hh : Held V u) => hh.cell c7
            have d8 := fun u (hh : Held V u) => hh.cell c8
            have d9 := fun u (hh : Held V u) => hh.cell c9
            have d10 := fun u (hh : Held V u) => hh.cell c10
            have d11 := fun u (hh : Held V u) => hh.cell c11
            have d12 := fun u (hh : Held V u) => hh.cell c12
            have d13 := fun u (hh : Held V u) => hh.cell c13
            clear hbr c0 cc1 c2 c3 c4 c5 c6 c7 c8 c9 c10 c11 c12 c13 HX hm5
            go_wp2_with fail
            go_region_held3 (fun u => Held V u) (first | exact Held.start _ | exact Held.step (by assumption) (by assumption) | assumption) (first
              | (go_at_call 27; refine (SM.out _ (by assumption)).mono ?_; rintro e u ⟨rfl, hb⟩))
            have HH := Lib.hid ‹Held V u›
            have S12 := Lib.hid (S11.out.kept (show Below V.heap.size V u from HH.out))
            have L12 := Lib.hid (L11.out.trans (.here (show Below V.heap.size V u from HH.out) S11.out.base))
            have OA12 := Lib.hid (OA11.out.kept (show Below V.heap.size V u from HH.out))
            clear SM HH S11 L11 OA11
            go_wp2_with fail
            go_roundw
            case rel => exact ⟨i + 1, by omega, by go_num, Lib.hid ⟨S12.out, OA12.out, L12.out⟩⟩
            case measure => simp [intOf] <;> omega
          · have c1 : ¬ (i : Int) + 1 ≤ (K : Int) := by omega
            have AG := Lib.hid (open_it 2 2000 5 wr S8.out.disk (by rw [HX2.out.2.2]; omega) HX2.out.1 (decide_eq_true (by rw [HX2.out.2.2]; omega)) (by omega))
            rw [HX2.out.2.1, Dk.appl_nil] at AG
            go_wp2_with fail
            refine LA.out.mono ?_; rintro e u ⟨rfl, rfl⟩
            go_wp2_with fail
            refine AG.out.mono ?_; rintro e w11 ⟨hb, ⟨_, rfl⟩ | ⟨hok5, q5, v5, rfl, _⟩⟩
            · have S9 := Lib.hid (S8.out.kept hb)
              have L9 := Lib.hid (L8.out.trans (.here hb S8.out.base))
              have LA2 := Lib.hid (LQ.out w11 S9.out)
              go_wp2_with fail
              refine LA2.out.mono ?_; rintro e u ⟨rfl, rfl⟩
              go_wp2_with fail
              all_goals (go_ret; exact ⟨by trivial, HB1.out.trans (L9.out.below.mono HB1.out.size)⟩)
            · have hK0 : K = 0 := HK0.out hok5
              have S9 := Lib.hid (S8.out.kept hb)
              have L9 := Lib.hid (L8.out.trans (.here hb S8.out.base))
              have LA2 := Lib.hid (LQ.out w11 S9.out)
              have hK0i : ((K : Int) == 0) = true := by rw [beq_iff_eq]; omega
              have hK0j : (K : Int) = 0 := by omega
              go_wp2_with fail
              refine LA2.out.mono ?_; rintro e u ⟨rfl, rfl⟩
              go_wp2_with fail
              go_ret
              exact ⟨by trivial, HB1.out.trans (L9.out.below.mono HB1.out.size)⟩

/-! The row's step. -/
set_option maxRecDepth 100000 in
theorem lifted (os : Os) (started : os.Started) (H : Type) (enc : TypeId × Value → H) :
    ReturnsInHanded {} Tryz.checked os 4 .any (Rows.walLastsSpec.pre6 enc Tryz.prog Tryz.f4 Rows.walLastsRow.domain false) (Rows.walLastsSpec.post enc Tryz.prog Tryz.f4 false true false false) := by
  refine returnsInHanded_of_change (C := Tryz.checked) own started (by kernel_rfl) Tryz.func4
    (ChangeSpec.witness6 (enc := enc) (C := Tryz.checked) false ⟨#[], #[.slice none 0 0, .slice none 0 0, .int .i64 0, .slice none 0 0], []⟩ 8 (by kernel_rfl) (by kernel_rfl) (by kernel_rfl) (by kernel_rfl)) ?_
  intro W base args ds gs before hval0 hW hcnd _
  have hval : ∀ (j : Nat) t v, Tryz.f4.params[j]? = some t → args[j]? = some v → Value.okWide Tryz.prog W .any base t v := hval0
  have hW' := hW
  obtain ⟨p, q, hA0, hV, rfl, hfz, hnd⟩ := hW
  have hA : DataW.TrodAll enc Tryz.prog W 0 (fun _ => true) true Tryz.f4.params.toList args.toList ds p := hA0
  rw [Tryz.params4] at hA hval
  obtain ⟨v0, vs0, d0, ds0, p0, q0, hargs, rfl, rfl, h0, r0⟩ := trodAll_cons hA
  obtain ⟨v1, vs1, d1, ds1, p1, q1, rfl, rfl, rfl, h1, r1⟩ := trodAll_cons r0
  obtain ⟨v2, vs2, d2, ds2, p2, q2, rfl, rfl, rfl, h2, r2⟩ := trodAll_cons r1
  obtain ⟨v3, vs3, d3, ds3, p3, q3, rfl, rfl, rfl, h3, r3⟩ := trodAll_cons r2
  obtain ⟨rfl, rfl, rfl⟩ := trodAll_nil r3
  obtain rfl : args = #[v0, v1, v2, v3] := by cases args; simp_all
  obtain ⟨rfl, rfl⟩ := trodVars_none hV
  have k0 := h0
  obtain ⟨A0, n0, c0, rfl⟩ := okWide_slice Tryz.underlying49 (hval 0 49 v0 rfl rfl)
  have lt0 : ∀ x ∈ p0, x.block < W.heap.size := by obtain ⟨m, hm⟩ := k0; exact DataW.trod_lt m _ _ _ hm
  obtain ⟨l0, w0⟩ := (by obtain ⟨fuel, hf⟩ := h0; obtain ⟨A9, n9, c9, l9, e9, hw9⟩ := Rc.recs_read hf (fun _ => rfl); simp only [Value.slice.injEq] at e9; obtain ⟨rfl, rfl, rfl⟩ := e9; exact ⟨l9, hw9⟩ : ∃ l, Rc.RlM W.heap.size W A0 n0 l)
  have k1 := h1
  obtain ⟨A1, n1, c1, rfl⟩ := okWide_slice Tryz.underlying49 (hval 1 49 v1 rfl rfl)
  have lt1 : ∀ x ∈ p1, x.block < W.heap.size := by obtain ⟨m, hm⟩ := k1; exact DataW.trod_lt m _ _ _ hm
  obtain ⟨l1, w1⟩ := (by obtain ⟨fuel, hf⟩ := h1; obtain ⟨A9, n9, c9, l9, e9, hw9⟩ := Rc.recs_read hf (fun _ => rfl); simp only [Value.slice.injEq] at e9; obtain ⟨rfl, rfl, rfl⟩ := e9; exact ⟨l9, hw9⟩ : ∃ l, Rc.RlM W.heap.size W A1 n1 l)
  obtain ⟨a2, rfl, rfl, rfl, w2⟩ := open_int Tryz.underlying3 (hval 2 3 v2 rfl rfl) h2
  obtain ⟨A3, n3, c3, rfl⟩ := okWide_slice Tryz.underlying44 (hval 3 44 v3 rfl rfl)
  have k3 := h3
  have lt3 : ∀ x ∈ p3, x.block < W.heap.size := by obtain ⟨m, hm⟩ := k3; exact DataW.trod_lt m _ _ _ hm
  obtain ⟨l3, w3, e3, f3⟩ := (by obtain ⟨fuel, hf⟩ := h3; exact bools_read hf (fun _ => rfl) : ∃ l, Bools W A3 n3 l ∧ n3 ≤ c3 ∧ c3 ≤ maxLen)
  clear hA0 hval0
  refine (walk A0 n0 c0 l0 A1 n1 c1 l1 a2 A3 n3 c3 l3 W w0 w1 w2 w3 (Nat.le_trans e3 f3)).mono fun e W' ⟨he, bel⟩ => ?_
  subst he
  exact ⟨_, rfl, _, _, _, [], _, [], hW', trodAll_mk1 (shut_bool Tryz.underlying4 _), (trodAll_cons_mk (Below.trod laidOut (by kernel_rfl) (of_decide_eq_true (by kernel_rfl)) k0 bel lt0) (trodAll_cons_mk (Below.trod laidOut (by kernel_rfl) (of_decide_eq_true (by kernel_rfl)) k1 bel lt1) (trodAll_cons_mk (shut_int Tryz.underlying3 w2) (trodAll_cons_mk (Below.trod laidOut (by kernel_rfl) (of_decide_eq_true (by kernel_rfl)) k3 bel lt3) trodAll_mk0)))), rfl, bel.frame _, fun h => by cases h⟩

theorem over : Rows.walLastsRow.holds Tryz.pinned (OpenSpec.ofChange Rows.walLastsSpec) :=
  OpenClaim.holds_of_wide 4 Tryz.f4 rfl rfl rfl rfl rfl rfl rfl ⟨rfl, rfl, rfl, rfl, rfl⟩ rfl rfl rfl rfl rfl (by kernel_rfl) Tryz.func4 (by kernel_rfl)
    (of_decide_eq_true (by kernel_rfl)) (by unfold Func.isWrapper; first | (rw [if_pos (by decide +kernel)]; kernel_rfl) | (rw [if_neg (by decide +kernel)]; exact ⟨rfl, rfl⟩))
    (fun os started H enc _ => lifted os started H enc)

/-- The statement. -/
theorem proved : Rows.WalLastsSaid := over
end Go.Proofs.YtnjggoeahaglbaaGreat.walLasts
