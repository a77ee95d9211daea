/- As many records have room as sectors have; what has none is refused, and changes nothing. -/
import Derived.Test.YtnjggoeahaglbaaGreatRows
import Derived.Test.YtnjggoeahaglbaaGreatLfu
import Derived.Deep.RegionHeld3
import Derived.Deep.QuietTactic
import Derived.LoopTactic
import Derived.StillTailTactics
import Derived.BigQuiet
import Derived.Deep.DeepCutAuto
import Derived.Deep.RegionLaw
import Derived.Deep.CutBlock
import Derived.Lib.Hide
import Derived.WalkKit
import Derived.ProofKit
import Derived.OpenShut
import Derived.ChangeOld
import Derived.Below
import Derived.Carry
namespace Go.Proofs.YtnjggoeahaglbaaGreat.walFull
open Go.ChangeShapes Go.WideShapes Go.ChangeAt Go.RowKit
open Wa Fr
set_option linter.unusedVariables false

theorem own : ownKnob Tryz.prog.godebug = none := by kernel_rfl
theorem laidOut : laidOutB Tryz.prog = true := by kernel_rfl


set_option maxRecDepth 100000 in
set_option maxHeartbeats 100000000 in
theorem walk (a0 a1 : Int) (w : World) (w0i : (Lit.int .i64 a0).wf = true) (w1i : (Lit.int .i64 a1).wf = true) :
    Calls Tryz.prog 5 #[.int .i64 a0, .int .i64 a1] w fun e w' => e = .returned (.bool true) ∧ Below w.heap.size w w' := by
  have AL := Lib.hid Wa.alive_yes
  by_cases t0 : a0 < 1
  · as_aux_lemma =>
      go_enter Tryz.func5, Tryz.ntmps5
      go_wp2_with fail
      refine (AL.out _).mono ?_; rintro e w1 ⟨rfl, hb⟩
      go_wp2_with fail
      go_ret
      exact ⟨by trivial, hb⟩
  by_cases t1 : 60 < a0
  · as_aux_lemma =>
      go_enter Tryz.func5, Tryz.ntmps5
      go_wp2_with fail
      refine (AL.out _).mono ?_; rintro e w1 ⟨rfl, hb⟩
      go_wp2_with fail
      go_ret
      exact ⟨by trivial, hb⟩
  by_cases t2 : a1 < 0
  · as_aux_lemma =>
      go_enter Tryz.func5, Tryz.ntmps5
      go_wp2_with fail
      refine (AL.out _).mono ?_; rintro e w1 ⟨rfl, hb⟩
      go_wp2_with fail
      go_ret
      exact ⟨by trivial, hb⟩
  by_cases t3 : 255 < a1
  · as_aux_lemma =>
      go_enter Tryz.func5, Tryz.ntmps5
      go_wp2_with fail
      refine (AL.out _).mono ?_; rintro e w1 ⟨rfl, hb⟩
      go_wp2_with fail
      go_ret
      exact ⟨by trivial, hb⟩
  obtain ⟨s, rfl⟩ := Int.eq_ofNat_of_zero_le (show (0 : Int) ≤ a0 by omega)
  obtain ⟨z, rfl⟩ := Int.eq_ofNat_of_zero_le (show (0 : Int) ≤ a1 by omega)
  have hz : z ≤ 255 := by omega
  have hM1 : s * 56 / (34 + z) ≤ 98 := by
    rw [← Nat.lt_succ_iff]
    refine Nat.div_lt_of_lt_mul ?_
    have : (34 + z) * 99 ≥ 34 * 99 := Nat.mul_le_mul_right 99 (by omega)
    omega
  have hDV := Lib.hid (fun m => full_div (s := s) (z := z) (m := m) hz)
  have hMM := Lib.hid (Nat.div_mul_le_self (s * 56) (34 + z))
  obtain ⟨M, hM⟩ : ∃ M, M = s * 56 / (34 + z) := ⟨_, rfl⟩
  rw [← hM] at hM1 hDV hMM
  have HM := Lib.hid hM
  clear hM
  go_enter Tryz.func5, Tryz.ntmps5
  go_wp2_with fail
  refine (AL.out _).mono ?_; rintro e w1 ⟨rfl, hb⟩
  have HB1 := Lib.hid hb
  clear hb AL
  go_wp2_with fail
  refine (Dk.new_d 100 (by omega) (by omega) _).mono ?_; rintro e w2 ⟨rfl, hD, hL⟩
  have L2 := Lib.hid (Lv.of_d hL)
  have HD := Lib.hid hD
  have HS := Lib.hid hL.size
  clear hD hL
  unfold Dk.ptr
  obtain ⟨p, hp⟩ : ∃ p, p = w1.heap.size + 1 := ⟨_, rfl⟩
  rw [← hp] at HD ⊢
  clear hp
  have hbl : (Dk.blank 100).last.length = 100 := List.length_replicate ..
  obtain ⟨I1, O1⟩ := blank_inv (f := 2) (s := s) (n := 100) (ep := 1) (by omega) (by omega) (by omega) (by omega) (by omega)
  have OP := Lib.hid (ls_open 2 s 1 w2 HD.out HS.out rfl rfl (by omega) (by rw [hbl]; omega) (by rw [hbl]; omega) (by omega) O1)
  rw [blank_opG] at OP
  have II := Lib.hid I1
  have OP2 := Lib.hid (show Calls Tryz.prog 14 #[.pointer (some ⟨p, 0, none⟩), .int .i64 2, .int .i64 (s : Int), .int .i64 1] w2 fun e w' => ∃ q, e = .returned (.tuple #[.pointer (some ⟨q, 0, none⟩), .int .i64 0]) ∧ LS w1.heap.size q p ⟨2, s, 1, 0, [], 0⟩ (Dk.blank 100) w' ∧ Below w2.heap.size w2 w' from OP.out)
  clear OP I1 O1
  go_wp2_with fail
  refine OP2.out.mono ?_; rintro e w3 ⟨q, rfl, hl, hb⟩
  have S3 := Lib.hid hl
  have L3 := Lib.hid (L2.out.trans (.here hb HS.out))
  clear hl hb OP2 L2 HD HS
  obtain ⟨w5, hm2, hcv, hb5⟩ := make_str z (by omega) w3
  have hm3 : (Instr.makeSlice 70 (.int .i64 (z : Int)) (.int .i64 (z : Int))).run Tryz.prog w3 = .ok (.slice (some ⟨w3.heap.size, 0, none⟩) z z) w5 := hm2
  have S5 := Lib.hid (S3.out.kept hb5)
  have L5 := Lib.hid (L3.out.trans (.here hb5 S3.out.base))
  obtain ⟨sz, hsz⟩ : ∃ sz, sz = str (zs z) := ⟨_, rfl⟩
  rw [← hsz] at hcv
  have HSZ := Lib.hid hsz
  have HZ := Lib.hid (Rc.Bx.new w5 #[.int .i64 0, .int .i64 0, .int .i64 0, .int .i64 0, .string ⟨#[]⟩, .bool false, .string ⟨#[]⟩, .string ⟨#[]⟩, .int .i64 0, .int .i64 0, .slice none 0 0, .slice none 0 0, .slice none 0 0, .slice none 0 0] 43)
  have HB9 := Lib.hid (Rc.below_row (ds := #[.int .i64 1, .int .i64 0, .int .i64 0, .int .i64 0, .string sz, .bool false, .string ⟨#[]⟩, .string ⟨#[]⟩, .int .i64 0, .int .i64 0, .slice none 0 0, .slice none 0 0, .slice none 0 0, .slice none 0 0]) ((Below.refl w5.heap.size w5).alloc (Nat.le_refl _) (.cells #[.int .i64 0, .int .i64 0, .int .i64 0, .int .i64 0, .string ⟨#[]⟩, .bool false, .string ⟨#[]⟩, .string ⟨#[]⟩, .int .i64 0, .int .i64 0, .slice none 0 0, .slice none 0 0, .slice none 0 0, .slice none 0 0] 43)) (Nat.le_refl _))
  have S6 := Lib.hid (S5.out.kept HB9.out)
  have L6 := Lib.hid (L5.out.trans (.here HB9.out S5.out.base))
  have hz0 := HZ.out
  have HX := Lib.hid (hz0.row #[.int .i64 1, .int .i64 0, .int .i64 0, .int .i64 0, .string sz, .bool false, .string ⟨#[]⟩, .string ⟨#[]⟩, .int .i64 0, .int .i64 0, .slice none 0 0, .slice none 0 0, .slice none 0 0, .slice none 0 0])
  have hgs : w1.heap.size ≤ w5.heap.size := L5.out.size
  clear hsz hm2 hb5 S3 L3 S5 L5 HB9 HZ
  go_wp2_with (refine wpList_store_row rfl 43 (.tmp 8) (.tmp 54) rfl w5.heap.size #[.int .i64 1, .int .i64 0, .int .i64 0, .int .i64 0, .string sz, .bool false, .string ⟨#[]⟩, .string ⟨#[]⟩, .int .i64 0, .int .i64 0, .slice none 0 0, .slice none 0 0, .slice none 0 0, .slice none 0 0] rfl rfl 43 _ hz0 (by kernel_rfl) rfl (by simp [Value.oneCell']) ?_; clear hz0; generalize hV : World.setRow _ _ _ = V at *; clear hV)
  obtain ⟨g, hg⟩ : ∃ g, g = w5.heap.size := ⟨_, rfl⟩
  rw [← hg] at HX hgs ⊢
  clear hg
  go_loopw [9, 10] (fun nv kv wr => ∃ k : Nat, k ≤ M ∧ kv = .int .i64 (k : Int) ∧ nv = .int .i64 (k : Int) ∧ Hid (LS w1.heap.size q p (fullG s z k) (Dk.blank 100) wr ∧ Inv (fullG s z k) (Dk.blank 100) ∧ Lv w1.heap.size w1 wr ∧ Rc.Bx wr g #[.int .i64 1, .int .i64 0, .int .i64 0, .int .i64 0, .string sz, .bool false, .string ⟨#[]⟩, .string ⟨#[]⟩, .int .i64 0, .int .i64 0, .slice none 0 0, .slice none 0 0, .slice none 0 0, .slice none 0 0] 43)) (fun _ kv _ => 400 - (intOf kv).toNat)
  case atStart => exact ⟨0, Nat.zero_le _, rfl, rfl, Lib.hid ⟨S6.out, II.out, L6.out, HX.out⟩⟩
  case round =>
    obtain ⟨k, hk, rfl, rfl, hq⟩ := hrel
    have S := Lib.hid hq.out.1
    have I := Lib.hid hq.out.2.1
    have L := Lib.hid hq.out.2.2.1
    have X := Lib.hid hq.out.2.2.2
    clear hq S6 II L6 HX hcv hm3
    have b1 : (k : Int) < 300 := by omega
    have x0 : wr.cell? ⟨g, 0, none⟩ = some (.int .i64 1) := X.out.cell 0
    have x1 : wr.cell? ⟨g, 1, none⟩ = some (.int .i64 0) := X.out.cell 1
    have x2 : wr.cell? ⟨g, 2, none⟩ = some (.int .i64 0) := X.out.cell 2
    have x3 : wr.cell? ⟨g, 3, none⟩ = some (.int .i64 0) := X.out.cell 3
    have x4 : wr.cell? ⟨g, 4, none⟩ = some (.string sz) := X.out.cell 4
    have x5 : wr.cell? ⟨g, 5, none⟩ = some (.bool false) := X.out.cell 5
    have x6 : wr.cell? ⟨g, 6, none⟩ = some (.string ⟨#[]⟩) := X.out.cell 6
    have x7 : wr.cell? ⟨g, 7, none⟩ = some (.string ⟨#[]⟩) := X.out.cell 7
    have x8 : wr.cell? ⟨g, 8, none⟩ = some (.int .i64 0) := X.out.cell 8
    have x9 : wr.cell? ⟨g, 9, none⟩ = some (.int .i64 0) := X.out.cell 9
    have x10 : wr.cell? ⟨g, 10, none⟩ = some (.slice none 0 0) := X.out.cell 10
    have x11 : wr.cell? ⟨g, 11, none⟩ = some (.slice none 0 0) := X.out.cell 11
    have x12 : wr.cell? ⟨g, 12, none⟩ = some (.slice none 0 0) := X.out.cell 12
    have x13 : wr.cell? ⟨g, 13, none⟩ = some (.slice none 0 0) := X.out.cell 13
    have AP := Lib.hid (ls_append (fullR z) Rc.hd0 wr S.out I.out (recK_in wr.heap.size wr (by unfold Rc.rng; omega) (by unfold Rc.rng; omega) (by rw [str_size, zs_length]; unfold maxLen; omega)) (Nat.le_refl _))
    have AP2 := Lib.hid (show Calls Tryz.prog 16 #[.pointer (some ⟨q, 0, none⟩), .agg #[.int .i64 1, .int .i64 0, .int .i64 0, .int .i64 0, .string sz, .bool false, .string ⟨#[]⟩, .string ⟨#[]⟩, .int .i64 0, .int .i64 0, .slice none 0 0, .slice none 0 0, .slice none 0 0, .slice none 0 0]] wr fun e w' => AppP w1.heap.size q p (fullG s z k) (Dk.blank 100) (fullR z) wr e w' from by rw [HSZ.out]; exact AP.out)
    have HFR := Lib.hid (full_right hz)
    have HRM := Lib.hid (full_room (s := s) (m := k) hz)
    have hll : (((fullG s z k).recs.length + 1 : Nat) : Int) = (k : Int) + 1 := by rw [show (fullG s z k).recs = List.replicate k (Rc.putS (fullR z)) from rfl, List.length_replicate]; omega
    clear AP
    go_wp2_with fail
    refine AP2.out.mono ?_; rintro e w6 (⟨z1, _⟩ | ⟨z1, z2, rfl, hl, hb⟩ | ⟨z1, z2, rfl, hl, hb⟩)
    · rw [HFR.out] at z1; cases z1
    · have S6 := Lib.hid hl
      have L6 := Lib.hid (L.out.trans hb)
      have X6 := Lib.hid (show Rc.Bx w6 g #[.int .i64 1, .int .i64 0, .int .i64 0, .int .i64 0, .string sz, .bool false, .string ⟨#[]⟩, .string ⟨#[]⟩, .int .i64 0, .int .i64 0, .slice none 0 0, .slice none 0 0, .slice none 0 0, .slice none 0 0] 43 from (hb.other g _ _ _ X.out (by decide) (by decide) (by decide) (by decide) (by decide)).trans X.out)
      have hkM : k = M := by
        rw [HRM.out] at z2
        have := of_decide_eq_false z2
        rw [hDV.out k] at this
        omega
      subst hkM
      clear hl hb AP2 L S X HRM hll z1 z2
      clear x0 x1 x2 x3 x4 x5 x6 x7 x8 x9 x10 x11 x12 x13
      obtain ⟨V1, hV1⟩ : ∃ V1, V1 = (s : Int) - (((k * (34 + z) + 55) / 56 : Nat) : Int) := ⟨_, rfl⟩
      have hlf : (((fullG s z k).sectors : Int) - ((fullG s z k).fin : Int) - (cntB ((fullG s z k).recs.drop (fullG s z k).dur) : Int)) = V1 := by
        rw [hV1]
        show (s : Int) - 0 - ((cntB (List.replicate k (Rc.putS (fullR z)))  : Nat) : Int) = _
        rw [full_cnt hz]
        omega
      have LF := Lib.hid (ls_left w6 S6.out I.out)
      rw [hlf] at LF
      have hmm := hMM.out
      obtain ⟨T, hT⟩ : ∃ T, T = k * (34 + z) := ⟨_, rfl⟩
      rw [← hT] at hmm hV1
      have hTU : T + 55 < 100000 := by omega
      obtain ⟨U, hU⟩ : ∃ U : Nat, U = (T + 55) / 56 := ⟨_, rfl⟩
      rw [← hU] at hV1
      obtain ⟨one, hone⟩ : ∃ one : Nat, one = 34 + z := ⟨_, rfl⟩
      have hk2 : k = s * 56 / one := by rw [hone]; exact HM.out
      have e0 : IntKind.i64.wrap (34 + (z : Int)) = (one : Int) := by rw [IntWalk.i64_in _ (by omega)]; omega
      have f1 : IntKind.i64.wrap ((s : Int) * 56) = (s : Int) * 56 := IntWalk.i64_in _ (by omega)
      have f2 : ((s : Int) * 56) / (one : Int) = (k : Int) := by
        have h9 : ((s * 56 : Nat) : Int) / (one : Int) = (k : Int) := by rw [hk2]; rfl
        rw [← h9]
        congr 1
      have f2b : ((s : Int) * 56).tdiv (one : Int) = (k : Int) := by rw [Int.tdiv_eq_ediv_of_nonneg (by omega)]; exact f2
      have f3 : IntKind.i64.wrap ((k : Int)) = (k : Int) := IntWalk.i64_in _ (by omega)
      have f4 : IntKind.i64.wrap ((k : Int) * (one : Int)) = (T : Int) := by
        have : (k : Int) * (one : Int) = (T : Int) := by rw [hT, hone]; exact (Int.natCast_mul _ _).symm
        rw [this]
        exact IntWalk.i64_in _ (by omega)
      have f5 : IntKind.i64.wrap ((T : Int) + 56) = (T : Int) + 56 := IntWalk.i64_in _ (by omega)
      have f6 : IntKind.i64.wrap ((T : Int) + 56 - 1) = (T : Int) + 56 - 1 := IntWalk.i64_in _ (by omega)
      have f7b : ((T : Int) + 56 - 1) / 56 = (U : Int) := by omega
      have f7 : ((T : Int) + 56 - 1).tdiv 56 = (U : Int) := by rw [Int.tdiv_eq_ediv_of_nonneg (by omega)]; exact f7b
      have f8 : IntKind.i64.wrap (U : Int) = (U : Int) := IntWalk.i64_in _ (by omega)
      have f9 : IntKind.i64.wrap ((s : Int) - (U : Int)) = V1 := by rw [hV1]; exact IntWalk.i64_in _ (by omega)
      have f0 : ((one : Int) == 0) = false := by rw [beq_eq_false_iff_ne]; omega
      have HV1 := Lib.hid (show (s : Int) - ((0 + (k * (34 + z) + 55) / 56 : Nat) : Int) - ((0 : Nat) : Int) = V1 from by rw [hV1, hU, hT]; omega)
      have f0b : ¬ one = 0 := by omega
      have f0c : ¬ (one : Int) = 0 := by omega
      clear hk2 hU
      clear hlf hT hV1 hone
      go_wp2_with fail
      refine LF.out.mono ?_; rintro e w7 ⟨rfl, hb⟩
      have S7 := Lib.hid (S6.out.kept hb)
      have L7 := Lib.hid (L6.out.trans (.here hb S6.out.base))
      have X7 := Lib.hid (X6.out.held hb)
      have x0 : w7.cell? ⟨g, 0, none⟩ = some (.int .i64 1) := X7.out.cell 0
      have x1 : w7.cell? ⟨g, 1, none⟩ = some (.int .i64 0) := X7.out.cell 1
      have x2 : w7.cell? ⟨g, 2, none⟩ = some (.int .i64 0) := X7.out.cell 2
      have x3 : w7.cell? ⟨g, 3, none⟩ = some (.int .i64 0) := X7.out.cell 3
      have x4 : w7.cell? ⟨g, 4, none⟩ = some (.string sz) := X7.out.cell 4
      have x5 : w7.cell? ⟨g, 5, none⟩ = some (.bool false) := X7.out.cell 5
      have x6 : w7.cell? ⟨g, 6, none⟩ = some (.string ⟨#[]⟩) := X7.out.cell 6
      have x7 : w7.cell? ⟨g, 7, none⟩ = some (.string ⟨#[]⟩) := X7.out.cell 7
      have x8 : w7.cell? ⟨g, 8, none⟩ = some (.int .i64 0) := X7.out.cell 8
      have x9 : w7.cell? ⟨g, 9, none⟩ = some (.int .i64 0) := X7.out.cell 9
      have x10 : w7.cell? ⟨g, 10, none⟩ = some (.slice none 0 0) := X7.out.cell 10
      have x11 : w7.cell? ⟨g, 11, none⟩ = some (.slice none 0 0) := X7.out.cell 11
      have x12 : w7.cell? ⟨g, 12, none⟩ = some (.slice none 0 0) := X7.out.cell 12
      have x13 : w7.cell? ⟨g, 13, none⟩ = some (.slice none 0 0) := X7.out.cell 13
      have AP := Lib.hid (ls_append (fullR z) Rc.hd0 w7 S7.out I.out (recK_in w7.heap.size w7 (by unfold Rc.rng; omega) (by unfold Rc.rng; omega) (by rw [str_size, zs_length]; unfold maxLen; omega)) (Nat.le_refl _))
      have AP2 := Lib.hid (show Calls Tryz.prog 16 #[.pointer (some ⟨q, 0, none⟩), .agg #[.int .i64 1, .int .i64 0, .int .i64 0, .int .i64 0, .string sz, .bool false, .string ⟨#[]⟩, .string ⟨#[]⟩, .int .i64 0, .int .i64 0, .slice none 0 0, .slice none 0 0, .slice none 0 0, .slice none 0 0]] w7 fun e w' => e = .returned (.tuple #[.int .i64 0, .int .i64 7]) ∧ LS w1.heap.size q p (fullG s z k) (Dk.blank 100) w' ∧ Lv w1.heap.size w7 w' from by
        rw [HSZ.out]
        refine AP.out.mono ?_
        rintro e w' (⟨z1, _⟩ | ⟨z1, z2, a, b, c⟩ | ⟨z1, z2, _⟩)
        · rw [HFR.out] at z1; cases z1
        · exact ⟨a, b, c⟩
        · rw [full_room hz] at z2
          have := of_decide_eq_true z2
          rw [hDV.out k] at this
          omega)
      clear hb AP L6 S6 X6 LF
      go_wp2_with fail
      refine AP2.out.mono ?_; rintro e w8 ⟨rfl, hl, hb⟩
      have S8 := Lib.hid hl
      have L8 := Lib.hid (L7.out.trans hb)
      clear hl hb AP2 L7 S7 X7
      clear x0 x1 x2 x3 x4 x5 x6 x7 x8 x9 x10 x11 x12 x13
      have hrl : (fullG s z k).recs.length = k := List.length_replicate ..
      have LA := Lib.hid (ls_last w8 S8.out)
      rw [hrl] at LA
      obtain ⟨D', hi, hr, hl, hn, FL⟩ := ls_flush_ok w8 S8.out I.out rfl (by decide)
      have HFL := Lib.hid FL
      have I9 := Lib.hid hi
      have HR9 := Lib.hid hr
      have HN9 := Lib.hid (show D'.last.length = 100 from hn)
      clear FL hi hr hl hn
      go_wp2_with fail
      refine LA.out.mono ?_; rintro e u ⟨rfl, rfl⟩
      go_wp2_with fail
      refine HFL.out.mono ?_; rintro e w9 ⟨rfl, hl, hb⟩
      have S9 := Lib.hid hl
      have L9 := Lib.hid (L8.out.trans hb)
      clear hl hb LA HFL S8 L8 I
      obtain ⟨i7, o7, e7⟩ := again_inv (ep := 2) I9.out (show (1 : Int) < 2 from by decide) (by decide)
      have OP := Lib.hid (ls_open 2 s 2 w9 S9.out.disk S9.out.base HR9.out I9.out.pe (by omega) I9.out.dl I9.out.d1 (by omega) o7)
      have e8 : opG 2 s 2 (Wa.part 2 s D'.last) = ⟨2, s, 2, 0 + cntB ((fullG s z k).recs.drop 0), (fullG s z k).recs.take (fullG s z k).recs.length, (fullG s z k).recs.length⟩ := e7
      have I10 := Lib.hid i7
      have hc9 : cntB ((fullG s z k).recs.drop 0) = (k * (34 + z) + 55) / 56 := full_cnt hz
      have HOP2 := Lib.hid (show Calls Tryz.prog 14 #[.pointer (some ⟨p, 0, none⟩), .int .i64 2, .int .i64 (s : Int), .int .i64 2] w9 fun e w' => ∃ q, e = .returned (.tuple #[.pointer (some ⟨q, 0, none⟩), .int .i64 0]) ∧ LS w1.heap.size q p (opG 2 s 2 (Wa.part 2 s D'.last)) D' w' ∧ Below w9.heap.size w9 w' from OP.out)
      clear OP i7 o7 e7
      go_wp2_with fail
      refine HOP2.out.mono ?_; rintro e w10 ⟨m, rfl, hl, hb⟩
      have S10 := Lib.hid hl
      have L10 := Lib.hid (L9.out.trans (.here hb S9.out.base))
      have LA := Lib.hid (ls_last w10 S10.out)
      have LF := Lib.hid (ls_left w10 S10.out I10.out)
      have g1 : (opG 2 s 2 (Wa.part 2 s D'.last)).recs.length = k := by rw [e8]; show ((fullG s z k).recs.take (fullG s z k).recs.length).length = k; rw [List.take_length, hrl]
      have g2 : (((opG 2 s 2 (Wa.part 2 s D'.last)).sectors : Int) - ((opG 2 s 2 (Wa.part 2 s D'.last)).fin : Int) - (cntB ((opG 2 s 2 (Wa.part 2 s D'.last)).recs.drop (opG 2 s 2 (Wa.part 2 s D'.last)).dur) : Int)) = V1 := by
        rw [e8]
        show (s : Int) - ((0 + cntB ((fullG s z k).recs.drop 0) : Nat) : Int) - ((cntB (((fullG s z k).recs.take (fullG s z k).recs.length).drop (fullG s z k).recs.length) : Nat) : Int) = V1
        rw [List.take_length, List.drop_length, cnt_nil, hc9]
        exact HV1.out
      rw [g1] at LA
      rw [g2] at LF
      clear hl hb HOP2 L9 S9 e8 g1 g2 hc9
      go_wp2_with fail
      refine LA.out.mono ?_; rintro e u ⟨rfl, rfl⟩
      go_wp2_with fail
      refine LF.out.mono ?_; rintro e u ⟨rfl, hb⟩
      go_wp2_with fail
      go_ret
      exact ⟨by trivial, HB1.out.trans ((L10.out.trans (.here hb S10.out.base)).below.mono HB1.out.size)⟩
    · have hkM : k < M := by
        rw [HRM.out] at z2
        have := of_decide_eq_true z2
        rwa [hDV.out k] at this
      have S6 := Lib.hid hl
      have L6 := Lib.hid (L.out.trans hb)
      have X6 := Lib.hid (show Rc.Bx w6 g #[.int .i64 1, .int .i64 0, .int .i64 0, .int .i64 0, .string sz, .bool false, .string ⟨#[]⟩, .string ⟨#[]⟩, .int .i64 0, .int .i64 0, .slice none 0 0, .slice none 0 0, .slice none 0 0, .slice none 0 0] 43 from (hb.other g _ _ _ X.out (by decide) (by decide) (by decide) (by decide) (by decide)).trans X.out)
      have I6 := Lib.hid (I.out.app z1 z2)
      rw [full_succ] at S6 I6
      have e1 : IntKind.i64.wrap ((k : Int) + 1) = (k : Int) + 1 := IntWalk.i64_in _ (by omega)
      clear hl hb AP2 L S X HRM hll z1 z2
      go_wp2_with fail
      go_roundw
      case rel => exact ⟨k + 1, by omega, by go_num, by go_num, Lib.hid ⟨S6.out, I6.out, L6.out, X6.out⟩⟩
      case measure => simp [intOf] <;> omega

/-! The row's step. -/
set_option maxRecDepth 100000 in
theorem lifted (os : Os) (started : os.Started) (H : Type) (enc : TypeId × Value → H) :
    ReturnsInHanded {} Tryz.checked os 5 .any (Rows.walFullSpec.pre6 enc Tryz.prog Tryz.f5 Rows.walFullRow.domain false) (Rows.walFullSpec.post enc Tryz.prog Tryz.f5 false true false false) := by
  refine returnsInHanded_of_change (C := Tryz.checked) own started (by kernel_rfl) Tryz.func5
    (ChangeSpec.witness6 (enc := enc) (C := Tryz.checked) false ⟨#[], #[.int .i64 0, .int .i64 0], []⟩ 8 (by kernel_rfl) (by kernel_rfl) (by kernel_rfl) (by kernel_rfl)) ?_
  intro W base args ds gs before hval0 hW hcnd _
  have hval : ∀ (j : Nat) t v, Tryz.f5.params[j]? = some t → args[j]? = some v → Value.okWide Tryz.prog W .any base t v := hval0
  have hW' := hW
  obtain ⟨p, q, hA0, hV, rfl, hfz, hnd⟩ := hW
  have hA : DataW.TrodAll enc Tryz.prog W 0 (fun _ => true) true Tryz.f5.params.toList args.toList ds p := hA0
  rw [Tryz.params5] at hA hval
  obtain ⟨v0, vs0, d0, ds0, p0, q0, hargs, rfl, rfl, h0, r0⟩ := trodAll_cons hA
  obtain ⟨v1, vs1, d1, ds1, p1, q1, rfl, rfl, rfl, h1, r1⟩ := trodAll_cons r0
  obtain ⟨rfl, rfl, rfl⟩ := trodAll_nil r1
  obtain rfl : args = #[v0, v1] := by cases args; simp_all
  obtain ⟨rfl, rfl⟩ := trodVars_none hV
  obtain ⟨a0, rfl, rfl, rfl, w0⟩ := open_int Tryz.underlying3 (hval 0 3 v0 rfl rfl) h0
  obtain ⟨a1, rfl, rfl, rfl, w1⟩ := open_int Tryz.underlying3 (hval 1 3 v1 rfl rfl) h1
  clear hA0 hval0
  refine (walk a0 a1 W w0 w1).mono fun e W' ⟨he, bel⟩ => ?_
  subst he
  exact ⟨_, rfl, _, _, _, [], _, [], hW', trodAll_mk1 (shut_bool Tryz.underlying4 _), (trodAll_cons_mk (shut_int Tryz.underlying3 w0) (trodAll_cons_mk (shut_int Tryz.underlying3 w1) trodAll_mk0)), rfl, bel.frame _, fun h => by cases h⟩

theorem over : Rows.walFullRow.holds Tryz.pinned (OpenSpec.ofChange Rows.walFullSpec) :=
  OpenClaim.holds_of_wide 5 Tryz.f5 rfl rfl rfl rfl rfl rfl rfl ⟨rfl, rfl, rfl, rfl, rfl⟩ rfl rfl rfl rfl rfl (by kernel_rfl) Tryz.func5 (by kernel_rfl)
    (of_decide_eq_true (by kernel_rfl)) (by unfold Func.isWrapper; first | (rw [if_pos (by decide +kernel)]; kernel_rfl) | (rw [if_neg (by decide +kernel)]; exact ⟨rfl, rfl⟩))
    (fun os started H enc _ => lifted os started H enc)

/-- The statement. -/
theorem proved : Rows.WalFullSaid := over
end Go.Proofs.YtnjggoeahaglbaaGreat.walFull
