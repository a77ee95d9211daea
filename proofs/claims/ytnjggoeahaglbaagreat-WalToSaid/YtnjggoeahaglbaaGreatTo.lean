/- The log is written up to a record just if it is not yet; then all of it is. -/
import Derived.Test.YtnjggoeahaglbaaGreatRows
import Derived.Test.YtnjggoeahaglbaaGreatLk
import Derived.Deep.RegionHeld3
import Derived.Deep.QuietTactic
import Derived.LoopTactic
import Derived.StillTailTactics
import Derived.BigQuiet
import Derived.Deep.DeepCutAuto
import Derived.Deep.RegionLaw
import Derived.Deep.CutBlock
import Derived.Lib.Hide
import Derived.WalkKit
import Derived.ProofKit
import Derived.OpenShut
import Derived.ChangeOld
import Derived.Below
import Derived.Carry
namespace Go.Proofs.YtnjggoeahaglbaaGreat.walTo
open Go.ChangeShapes Go.WideShapes Go.ChangeAt Go.RowKit
open Wa Fr
set_option linter.unusedVariables false

theorem own : ownKnob Tryz.prog.godebug = none := by kernel_rfl
theorem laidOut : laidOutB Tryz.prog = true := by kernel_rfl


set_option maxRecDepth 100000 in
set_option maxHeartbeats 100000000 in
theorem walk (a0 a1 : Int) (w : World) (w0i : (Lit.int .i64 a0).wf = true) (w1i : (Lit.int .i64 a1).wf = true) :
    Calls Tryz.prog 7 #[.int .i64 a0, .int .i64 a1] w fun e w' => e = .returned (.bool true) ∧ Below w.heap.size w w' := by
  have AL := Lib.hid Wa.alive_yes
  have wr1 := int_range w1i
  by_cases t0 : a0 < 1
  · as_aux_lemma =>
      go_enter Tryz.func7, Tryz.ntmps7
      go_wp2_with fail
      refine (AL.out _).mono ?_; rintro e w1 ⟨rfl, hb⟩
      go_wp2_with fail
      go_ret
      exact ⟨by trivial, hb⟩
  by_cases t1 : 20 < a0
  · as_aux_lemma =>
      go_enter Tryz.func7, Tryz.ntmps7
      go_wp2_with fail
      refine (AL.out _).mono ?_; rintro e w1 ⟨rfl, hb⟩
      go_wp2_with fail
      go_ret
      exact ⟨by trivial, hb⟩
  obtain ⟨n, rfl⟩ := Int.eq_ofNat_of_zero_le (show (0 : Int) ≤ a0 by omega)
  go_enter Tryz.func7, Tryz.ntmps7
  go_wp2_with fail
  refine (AL.out _).mono ?_; rintro e w1 ⟨rfl, hb⟩
  have HB1 := Lib.hid hb
  clear hb AL
  go_wp2_with fail
  refine (Dk.new_d 300 (by omega) (by omega) _).mono ?_; rintro e w2 ⟨rfl, hD, hL⟩
  have L2 := Lib.hid (Lv.of_d hL)
  have HD := Lib.hid hD
  have HS := Lib.hid hL.size
  clear hD hL
  unfold Dk.ptr
  obtain ⟨p, hp⟩ : ∃ p, p = w1.heap.size + 1 := ⟨_, rfl⟩
  rw [← hp] at HD ⊢
  clear hp
  obtain ⟨I1, O1⟩ := blank_inv (f := 0) (s := 250) (n := 300) (ep := 3) (by omega) (by omega) (by omega) (by omega) (by omega)
  have OP := Lib.hid (ls_open 0 250 3 w2 HD.out HS.out rfl rfl (by omega) (by decide) (by decide) (by omega) O1)
  rw [blank_opG] at OP
  have II := Lib.hid I1
  have OP2 := Lib.hid (show Calls Tryz.prog 14 #[.pointer (some ⟨p, 0, none⟩), .int .i64 0, .int .i64 250, .int .i64 3] w2 fun e w' => ∃ q, e = .returned (.tuple #[.pointer (some ⟨q, 0, none⟩), .int .i64 0]) ∧ LS w1.heap.size q p ⟨0, 250, 3, 0, [], 0⟩ (Dk.blank 300) w' ∧ Below w2.heap.size w2 w' from OP.out)
  clear OP I1 O1
  go_wp2_with fail
  refine OP2.out.mono ?_; rintro e w3 ⟨q, rfl, hl, hb⟩
  have S3 := Lib.hid hl
  have L3 := Lib.hid (L2.out.trans (.here hb HS.out))
  clear hl hb OP2 L2 HD HS
  go_wp2_with fail
  go_loopw [8] (fun kv wr => ∃ k : Nat, k ≤ n ∧ kv = .int .i64 ((k : Int) + 1) ∧ Hid (LS w1.heap.size q p (abG k) (Dk.blank 300) wr ∧ Inv (abG k) (Dk.blank 300) ∧ Lv w1.heap.size w1 wr)) (fun kv _ => 100 - (intOf kv).toNat)
  case atStart => exact ⟨0, Nat.zero_le _, rfl, Lib.hid ⟨S3.out, II.out, L3.out⟩⟩
  case round =>
    obtain ⟨k, hk, rfl, hq⟩ := hrel
    have S := Lib.hid hq.out.1
    have I := Lib.hid hq.out.2.1
    have L := Lib.hid hq.out.2.2
    clear hq S3 II L3
    by_cases hlt : k < n
    · have b1 : (k : Int) + 1 ≤ (n : Int) := by omega
      have AP := Lib.hid (ls_app_ok (recK 6 ((k : Int) + 1) ⟨#[]⟩) Rc.hd0 wr S.out I.out (recK_in wr.heap.size wr (by unfold Rc.rng; omega) (by unfold Rc.rng; omega) (by decide)) (Nat.le_refl _) (ab_right (by omega)) (ab_room (by omega)))
      rw [abG_succ] at AP
      have hll : (((abG k).recs.length + 1 : Nat) : Int) = (k : Int) + 1 := by rw [show (abG k).recs = abL k from rfl, abL_length]; omega
      rw [hll] at AP
      have AP2 := Lib.hid (show Calls Tryz.prog 16 #[.pointer (some ⟨q, 0, none⟩), .agg #[.int .i64 6, .int .i64 ((k : Int) + 1), .int .i64 0, .int .i64 0, .string ⟨#[]⟩, .bool false, .string ⟨#[]⟩, .string ⟨#[]⟩, .int .i64 0, .int .i64 0, .slice none 0 0, .slice none 0 0, .slice none 0 0, .slice none 0 0]] wr fun e w' => e = .returned (.tuple #[.int .i64 ((k : Int) + 1), .int .i64 0]) ∧ LS w1.heap.size q p (abG (k + 1)) (Dk.blank 300) w' ∧ Lv w1.heap.size wr w' from AP.out)
      have I2 := Lib.hid (I.out.app (ab_right (k := k) (by omega)) (ab_room (k := k) (by omega)))
      rw [abG_succ] at I2
      have e1 : IntKind.i64.wrap ((k : Int) + 1 + 1) = (k : Int) + 1 + 1 := IntWalk.i64_in _ (by omega)
      clear AP hll
      go_wp2_with fail
      refine AP2.out.mono ?_; rintro e w4 ⟨rfl, hl, hb⟩
      have L4 := Lib.hid (L.out.trans hb)
      have S4 := Lib.hid hl
      clear hl hb AP2 L S I
      go_wp2_with fail
      go_roundw
      case rel => exact ⟨k + 1, by omega, by go_num, Lib.hid ⟨S4.out, I2.out, L4.out⟩⟩
      case measure => simp [intOf] <;> omega
    · have b1 : ¬ (k : Int) + 1 ≤ (n : Int) := by omega
      obtain rfl : k = n := by omega
      have hlen : (abG k).recs.length = k := abL_length k
      by_cases ha : 0 < a1
      · obtain ⟨D6, hi6, hr6, hl6, hn6, TO⟩ := ls_to_ok a1 wr S.out I.out rfl (by decide) (show ((0 : Nat) : Int) < a1 by omega)
        have HTO := Lib.hid TO
        have II5 := Lib.hid hi6
        clear TO hi6 hr6 hl6 hn6 S I
        go_wp2_with fail
        refine HTO.out.mono ?_; rintro e w5 ⟨rfl, hl, hb⟩
        have S5 := Lib.hid hl
        have L5 := Lib.hid (L.out.trans hb)
        clear hl hb HTO L
        have LA := Lib.hid (ls_last w5 S5.out)
        have DU := Lib.hid (ls_dur w5 S5.out)
        have PE := Lib.hid (disk_pend S5.out.disk II5.out.pe)
        have CR := Lib.hid (disk_crash S5.out.disk II5.out.pe)
        rw [show ({ abG k with dur := (abG k).recs.length, fin := (abG k).fin + cntB ((abG k).recs.drop (abG k).dur) } : Lg).recs.length = k from hlen] at LA
        rw [show ({ abG k with dur := (abG k).recs.length, fin := (abG k).fin + cntB ((abG k).recs.drop (abG k).dur) } : Lg).dur = k from hlen] at DU
        go_wp2_with fail
        refine DU.out.mono ?_; rintro e u ⟨rfl, rfl⟩
        go_wp2_with fail
        refine LA.out.mono ?_; rintro e u ⟨rfl, rfl⟩
        go_wp2_with fail
        refine PE.out.mono ?_; rintro e u ⟨rfl, rfl⟩
        go_wp2_with fail
        refine CR.out.mono ?_; rintro e w6 ⟨rfl, hd, hb⟩
        have L6 := Lib.hid (L5.out.trans hb)
        obtain ⟨i7, o7, e7⟩ := again_inv (ep := 4) (II5.out.calm (D' := ⟨D6.last, [], true, -1⟩) rfl rfl) (show (3 : Int) < 4 from by decide) (by decide)
        have hbs : w1.heap.size ≤ w6.heap.size := L6.out.size
        have OP := Lib.hid (ls_open 0 250 4 w6 hd hbs rfl rfl (by omega) II5.out.dl II5.out.d1 (by omega) o7)
        have e8 : opG 0 250 4 (Wa.part 0 250 D6.last) = ⟨0, 250, 4, 0 + cntB ((abL k).drop 0), (abL k).take (abL k).length, (abL k).length⟩ := e7
        have OP2 := Lib.hid (show Calls Tryz.prog 14 #[.pointer (some ⟨p, 0, none⟩), .int .i64 0, .int .i64 250, .int .i64 4] w6 fun e w' => ∃ q, e = .returned (.tuple #[.pointer (some ⟨q, 0, none⟩), .int .i64 0]) ∧ LS w1.heap.size q p ⟨0, 250, 4, 0 + cntB ((abL k).drop 0), (abL k).take (abL k).length, (abL k).length⟩ ⟨D6.last, [], true, -1⟩ w' ∧ Below w6.heap.size w6 w' from by rw [← e8]; exact OP.out)
        clear i7 o7 e7 OP e8 hd hb CR PE DU LA L5
        go_wp2_with fail
        refine OP2.out.mono ?_; rintro e w7 ⟨m, rfl, hl, hb⟩
        have LA := Lib.hid (ls_last w7 hl)
        have HB7 := Lib.hid (HB1.out.trans ((L6.out.trans (.here hb hbs)).below.mono HB1.out.size))
        clear hl hb OP2
        rw [show (((abL k).take (abL k).length).length : Nat) = k from by rw [List.take_length]; exact abL_length k] at LA
        go_wp2_with fail
        refine LA.out.mono ?_; rintro e u ⟨rfl, rfl⟩
        go_wp2_with fail
        go_ret
        exact ⟨by trivial, HB7.out⟩
      · have hw := ls_to_not a1 wr S.out I.out (show a1 ≤ ((0 : Nat) : Int) by omega)
        have HTO := Lib.hid hw
        have II5 := Lib.hid I.out
        obtain ⟨D6, hD6⟩ : ∃ D6, D6 = Dk.blank 300 := ⟨_, rfl⟩
        rw [← hD6] at HTO II5
        clear hw hD6 S I
        go_wp2_with fail
        refine HTO.out.mono ?_; rintro e w5 ⟨rfl, hl, hb⟩
        have S5 := Lib.hid hl
        have L5 := Lib.hid (L.out.trans hb)
        clear hl hb HTO L
        have LA := Lib.hid (ls_last w5 S5.out)
        have DU := Lib.hid (ls_dur w5 S5.out)
        have PE := Lib.hid (disk_pend S5.out.disk II5.out.pe)
        have CR := Lib.hid (disk_crash S5.out.disk II5.out.pe)
        rw [hlen] at LA
        rw [show ((abG k).dur : Nat) = 0 from rfl] at DU
        go_wp2_with fail
        refine DU.out.mono ?_; rintro e u ⟨rfl, rfl⟩
        go_wp2_with fail
        refine LA.out.mono ?_; rintro e u ⟨rfl, rfl⟩
        go_wp2_with fail
        refine PE.out.mono ?_; rintro e u ⟨rfl, rfl⟩
        go_wp2_with fail
        refine CR.out.mono ?_; rintro e w6 ⟨rfl, hd, hb⟩
        have L6 := Lib.hid (L5.out.trans hb)
        obtain ⟨i7, o7, e7⟩ := again_inv (ep := 4) (II5.out.calm (D' := ⟨D6.last, [], true, -1⟩) rfl rfl) (show (3 : Int) < 4 from by decide) (by decide)
        have hbs : w1.heap.size ≤ w6.heap.size := L6.out.size
        have OP := Lib.hid (ls_open 0 250 4 w6 hd hbs rfl rfl (by omega) II5.out.dl II5.out.d1 (by omega) o7)
        have e8 : opG 0 250 4 (Wa.part 0 250 D6.last) = ⟨0, 250, 4, 0, (abL k).take 0, 0⟩ := e7
        have OP2 := Lib.hid (show Calls Tryz.prog 14 #[.pointer (some ⟨p, 0, none⟩), .int .i64 0, .int .i64 250, .int .i64 4] w6 fun e w' => ∃ q, e = .returned (.tuple #[.pointer (some ⟨q, 0, none⟩), .int .i64 0]) ∧ LS w1.heap.size q p ⟨0, 250, 4, 0, (abL k).take 0, 0⟩ ⟨D6.last, [], true, -1⟩ w' ∧ Below w6.heap.size w6 w' from by rw [← e8]; exact OP.out)
        clear i7 o7 e7 OP e8 hd hb CR PE DU LA L5
        go_wp2_with fail
        refine OP2.out.mono ?_; rintro e w7 ⟨m, rfl, hl, hb⟩
        have LA := Lib.hid (ls_last w7 hl)
        have HB7 := Lib.hid (HB1.out.trans ((L6.out.trans (.here hb hbs)).below.mono HB1.out.size))
        clear hl hb OP2
        rw [show (((abL k).take 0).length : Nat) = 0 from rfl] at LA
        go_wp2_with fail
        refine LA.out.mono ?_; rintro e u ⟨rfl, rfl⟩
        go_wp2_with fail
        go_ret
        exact ⟨by trivial, HB7.out⟩

/-! The row's step. -/
set_option maxRecDepth 100000 in
theorem lifted (os : Os) (started : os.Started) (H : Type) (enc : TypeId × Value → H) :
    ReturnsInHanded {} Tryz.checked os 7 .any (Rows.walToSpec.pre6 enc Tryz.prog Tryz.f7 Rows.walToRow.domain false) (Rows.walToSpec.post enc Tryz.prog Tryz.f7 false true false false) := by
  refine returnsInHanded_of_change (C := Tryz.checked) own started (by kernel_rfl) Tryz.func7
    (ChangeSpec.witness6 (enc := enc) (C := Tryz.checked) false ⟨#[], #[.int .i64 0, .int .i64 0], []⟩ 8 (by kernel_rfl) (by kernel_rfl) (by kernel_rfl) (by kernel_rfl)) ?_
  intro W base args ds gs before hval0 hW hcnd _
  have hval : ∀ (j : Nat) t v, Tryz.f7.params[j]? = some t → args[j]? = some v → Value.okWide Tryz.prog W .any base t v := hval0
  have hW' := hW
  obtain ⟨p, q, hA0, hV, rfl, hfz, hnd⟩ := hW
  have hA : DataW.TrodAll enc Tryz.prog W 0 (fun _ => true) true Tryz.f7.params.toList args.toList ds p := hA0
  rw [Tryz.params7] at hA hval
  obtain ⟨v0, vs0, d0, ds0, p0, q0, hargs, rfl, rfl, h0, r0⟩ := trodAll_cons hA
  obtain ⟨v1, vs1, d1, ds1, p1, q1, rfl, rfl, rfl, h1, r1⟩ := trodAll_cons r0
  obtain ⟨rfl, rfl, rfl⟩ := trodAll_nil r1
  obtain rfl : args = #[v0, v1] := by cases args; simp_all
  obtain ⟨rfl, rfl⟩ := trodVars_none hV
  obtain ⟨a0, rfl, rfl, rfl, w0⟩ := open_int Tryz.underlying3 (hval 0 3 v0 rfl rfl) h0
  obtain ⟨a1, rfl, rfl, rfl, w1⟩ := open_int Tryz.underlying3 (hval 1 3 v1 rfl rfl) h1
  clear hA0 hval0
  refine (walk a0 a1 W w0 w1).mono fun e W' ⟨he, bel⟩ => ?_
  subst he
  exact ⟨_, rfl, _, _, _, [], _, [], hW', trodAll_mk1 (shut_bool Tryz.underlying4 _), (trodAll_cons_mk (shut_int Tryz.underlying3 w0) (trodAll_cons_mk (shut_int Tryz.underlying3 w1) trodAll_mk0)), rfl, bel.frame _, fun h => by cases h⟩

theorem over : Rows.walToRow.holds Tryz.pinned (OpenSpec.ofChange Rows.walToSpec) :=
  OpenClaim.holds_of_wide 7 Tryz.f7 rfl rfl rfl rfl rfl rfl rfl ⟨rfl, rfl, rfl, rfl, rfl⟩ rfl rfl rfl rfl rfl (by kernel_rfl) Tryz.func7 (by kernel_rfl)
    (of_decide_eq_true (by kernel_rfl)) (by unfold Func.isWrapper; first | (rw [if_pos (by decide +kernel)]; kernel_rfl) | (rw [if_neg (by decide +kernel)]; exact ⟨rfl, rfl⟩))
    (fun os started H enc _ => lifted os started H enc)

/-- The statement. -/
theorem proved : Rows.WalToSaid := over
end Go.Proofs.YtnjggoeahaglbaaGreat.walTo
