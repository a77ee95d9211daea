/- Each record that is appended leaves as much less as it takes; a flush leaves no more than there was. -/
import Derived.Test.YtnjggoeahaglbaaGreatRows
import Derived.Test.YtnjggoeahaglbaaGreatLk
import Derived.Deep.RegionHeld3
import Derived.Deep.QuietTactic
import Derived.LoopTactic
import Derived.StillTailTactics
import Derived.BigQuiet
import Derived.Deep.DeepCutAuto
import Derived.Deep.RegionLaw
import Derived.Deep.CutBlock
import Derived.Lib.Hide
import Derived.WalkKit
import Derived.ProofKit
import Derived.OpenShut
import Derived.ChangeOld
import Derived.Below
import Derived.Carry
namespace Go.Proofs.YtnjggoeahaglbaaGreat.walLeft
open Go.ChangeShapes Go.WideShapes Go.ChangeAt Go.RowKit
open Wa Fr
set_option linter.unusedVariables false

theorem own : ownKnob Tryz.prog.godebug = none := by kernel_rfl
theorem laidOut : laidOutB Tryz.prog = true := by kernel_rfl


set_option maxRecDepth 100000 in
set_option maxHeartbeats 100000000 in
theorem walk (A0 : Option Addr) (n0 c0 : Nat) (l0 : List Int) (w : World) (w0t : Ints w A0 n0 l0) (m0 : n0 ≤ maxLen) :
    Calls Tryz.prog 9 #[.slice A0 n0 c0] w fun e w' => e = .returned (.bool true) ∧ Below w.heap.size w w' := by
  have AL := Lib.hid Wa.alive_yes
  have HI := Lib.hid w0t
  by_cases t0 : 20 < n0
  · have t0i : (20 : Int) < (n0 : Int) := by omega
    clear w0t m0
    as_aux_lemma =>
      go_enter Tryz.func9, Tryz.ntmps9
      go_wp2_with fail
      refine (AL.out _).mono ?_; rintro e w1 ⟨rfl, hb⟩
      go_wp2_with fail
      go_ret
      exact ⟨by trivial, hb⟩
  have t0i : ¬ (20 : Int) < (n0 : Int) := by omega
  clear w0t m0
  go_enter Tryz.func9, Tryz.ntmps9
  go_wp2_with fail
  refine (AL.out _).mono ?_; rintro e w1 ⟨rfl, hb⟩
  have HB1 := Lib.hid hb
  clear hb AL
  go_wp2_with fail
  refine (Dk.new_d 700 (by omega) (by omega) _).mono ?_; rintro e w2 ⟨rfl, hD, hL⟩
  have L2 := Lib.hid (Lv.of_d hL)
  have HD := Lib.hid hD
  have HS := Lib.hid hL.size
  clear hD hL
  unfold Dk.ptr
  obtain ⟨p, hp⟩ : ∃ p, p = w1.heap.size + 1 := ⟨_, rfl⟩
  rw [← hp] at HD ⊢
  clear hp
  obtain ⟨I1, O1⟩ := blank_inv (f := 1) (s := 600) (n := 700) (ep := 1) (by omega) (by omega) (by omega) (by omega) (by omega)
  have OP := Lib.hid (ls_open 1 600 1 w2 HD.out HS.out rfl rfl (by omega) (by decide) (by decide) (by omega) O1)
  rw [blank_opG] at OP
  have II := Lib.hid I1
  have OP2 := Lib.hid (show Calls Tryz.prog 14 #[.pointer (some ⟨p, 0, none⟩), .int .i64 1, .int .i64 600, .int .i64 1] w2 fun e w' => ∃ q, e = .returned (.tuple #[.pointer (some ⟨q, 0, none⟩), .int .i64 0]) ∧ LS w1.heap.size q p ⟨1, 600, 1, 0, [], 0⟩ (Dk.blank 700) w' ∧ Below w2.heap.size w2 w' from OP.out)
  clear OP I1 O1
  go_wp2_with fail
  refine OP2.out.mono ?_; rintro e w3 ⟨q, rfl, hl, hb⟩
  have S3 := Lib.hid hl
  have L3 := Lib.hid (L2.out.trans (.here hb HS.out))
  clear hl hb OP2 L2 HD HS
  go_wp2_with fail
  go_loopw [35] (fun x wr => ∃ k : Nat, k ≤ n0 ∧ x = .int .i64 k ∧ ∃ (A : Lg) (D : Dk.St), Hid (LS w1.heap.size q p A D wr ∧ Inv A D ∧ D.runs = true ∧ D.left < 0 ∧ Lv w1.heap.size w1 wr)) (fun x _ => n0 - (intOf x).toNat)
  case atStart => exact ⟨0, Nat.zero_le _, rfl, _, _, Lib.hid ⟨S3.out, II.out, rfl, by decide, L3.out⟩⟩
  case round =>
    obtain ⟨k, hk, rfl, A, D, hq⟩ := hrel
    have S := Lib.hid hq.out.1
    have I := Lib.hid hq.out.2.1
    have HR := Lib.hid hq.out.2.2.1
    have HLF := Lib.hid hq.out.2.2.2.1
    have L := Lib.hid hq.out.2.2.2.2
    clear hq S3 II L3
    have b0 : (0 : Int) ≤ (k : Int) := by omega
    by_cases hlt : k < n0
    · have b1 : (k : Int) < (n0 : Int) := by omega
      obtain ⟨b, off, rfl, hbl, c00, r1, r2⟩ := HI.out.2 k hlt
      have cI := Fr.cell_kept (HB1.out.trans (L.out.below.mono HB1.out.size)) hbl c00
      clear c00
      generalize l0.getD k 0 = n at *
      by_cases u0 : n < 0
      · as_aux_lemma =>
          go_wp2_with fail
          go_ret
          exact ⟨by trivial, HB1.out.trans (L.out.below.mono HB1.out.size)⟩
      by_cases u1 : 255 < n
      · as_aux_lemma =>
          go_wp2_with fail
          go_ret
          exact ⟨by trivial, HB1.out.trans (L.out.below.mono HB1.out.size)⟩
      obtain ⟨N, rfl⟩ := Int.eq_ofNat_of_zero_le (show (0 : Int) ≤ n by omega)
      clear r1 r2
      have hright : Rc.rightR (recK 1 0 (str (zs N))) = true := recK_right (by decide) (by decide) (by rw [str_size, zs_length]; omega)
      have hplen : (Rc.putS (recK 1 0 (str (zs N)))).length = 32 + N := by rw [recK_length hright, str_size, zs_length]
      obtain ⟨V1, hV1⟩ : ∃ V1, V1 = (A.sectors : Int) - (A.fin : Int) - (cntB (A.recs.drop A.dur) : Int) := ⟨_, rfl⟩
      have LF := Lib.hid (ls_left wr S.out I.out)
      rw [← hV1] at LF
      have g1 := I.out.room
      have g2 := I.out.s1
      have hV1r : 0 ≤ V1 ∧ V1 ≤ 4000 := by omega
      have hmore : Rc.rightR (recK 1 0 (str (zs N))) = true → roomA A (recK 1 0 (str (zs N))) = true → ∃ V2 : Int, V2 = ((appA A (recK 1 0 (str (zs N)))).sectors : Int) - ((appA A (recK 1 0 (str (zs N)))).fin : Int) - (cntB ((appA A (recK 1 0 (str (zs N)))).recs.drop (appA A (recK 1 0 (str (zs N)))).dur) : Int) ∧ V2 ≤ V1 ∧ V1 - ((N + 89) / 56 : Nat) ≤ V2 ∧ 0 ≤ V2 := fun hx hy => by
        refine ⟨_, rfl, ?_⟩
        have hz := (I.out.app hx hy)
        have c1 := cnt_ok I.out.okD
        have c2 := cnt_ok hz.okD
        have c3 : (strmB ((appA A (recK 1 0 (str (zs N)))).recs.drop (appA A (recK 1 0 (str (zs N)))).dur)).length = (strmB (A.recs.drop A.dur)).length + (34 + N) := by
          show (strmB ((A.recs ++ [Rc.putS (recK 1 0 (str (zs N)))]).drop A.dur)).length = _
          rw [List.drop_append_of_le_length I.out.dn, strmB_append, List.length_append, show strmB [Rc.putS (recK 1 0 (str (zs N)))] = recX (Rc.putS (recK 1 0 (str (zs N)))) ++ [] from strmB_cons _ _, List.append_nil, recX_length, hplen]
          omega
        have g3 := hz.room
        have c4 : ((appA A (recK 1 0 (str (zs N)))).sectors : Int) = (A.sectors : Int) := rfl
        have c5 : ((appA A (recK 1 0 (str (zs N)))).fin : Int) = (A.fin : Int) := rfl
        have c6 : (appA A (recK 1 0 (str (zs N)))).sectors = A.sectors := rfl
        have c7 : (appA A (recK 1 0 (str (zs N)))).fin = A.fin := rfl
        omega
      have HM := Lib.hid hmore
      clear hmore
      go_wp2_with fail
      refine LF.out.mono ?_; rintro e w4 ⟨rfl, hb⟩
      have S4 := Lib.hid (S.out.kept hb)
      have L4 := Lib.hid (L.out.trans (.here hb S.out.base))
      clear hb LF L S hV1
      obtain ⟨w5, hm2, hcv, hb5⟩ := make_str N (by omega) w4
      have hm3 : (Instr.makeSlice 70 (.int .i64 (N : Int)) (.int .i64 (N : Int))).run Tryz.prog w4 = .ok (.slice (some ⟨w4.heap.size, 0, none⟩) N N) w5 := hm2
      have S5 := Lib.hid (S4.out.kept hb5)
      have L5 := Lib.hid (L4.out.trans (.here hb5 S4.out.base))
      have AP := Lib.hid (ls_append (recK 1 0 (str (zs N))) Rc.hd0 w5 S5.out I.out (recK_in w5.heap.size w5 (by unfold Rc.rng; omega) (by unfold Rc.rng; omega) (by rw [str_size, zs_length]; unfold maxLen; omega)) (Nat.le_refl _))
      have AP2 := Lib.hid (show Calls Tryz.prog 16 #[.pointer (some ⟨q, 0, none⟩), .agg #[.int .i64 1, .int .i64 0, .int .i64 0, .int .i64 0, .string (str (zs N)), .bool false, .string ⟨#[]⟩, .string ⟨#[]⟩, .int .i64 0, .int .i64 0, .slice none 0 0, .slice none 0 0, .slice none 0 0, .slice none 0 0]] w5 fun e w' => AppP w1.heap.size q p A D (recK 1 0 (str (zs N))) w5 e w' from AP.out)
      clear AP hb5 S4 L4 hm2
      generalize recK 1 0 (str (zs N)) = rr at *
      generalize str (zs N) = sz at *
      go_wp2_with fail
      refine AP2.out.mono ?_; rintro e w6 (⟨z1, _⟩ | ⟨z1, z2, rfl, hl, hb⟩ | ⟨z1, z2, rfl, hl, hb⟩)
      · rw [hright] at z1; cases z1
      · have L := Lib.hid (L5.out.trans hb)
        clear hl hb AP2 L5 S5 HM
        go_wp2_with fail
        go_ret
        exact ⟨by trivial, HB1.out.trans (L.out.below.mono HB1.out.size)⟩
      · have S6 := Lib.hid hl
        have L6 := Lib.hid (L5.out.trans hb)
        have I6 := Lib.hid (I.out.app z1 z2)
        obtain ⟨V2, hV2, v1, v2, v3⟩ := HM.out z1 z2
        have LG := Lib.hid (fun u (hb : Below w6.heap.size w6 u) => ls_left u (S6.out.kept hb) I6.out)
        rw [← hV2] at LG
        have HV2 := Lib.hid hV2
        have LG1 := Lib.hid (LG.out w6 (Below.refl _ _))
        clear hl hb AP2 L5 S5 HM I hV2
        generalize appA A rr = A6 at *
        have e1 : IntKind.i64.wrap (34 + (N : Int)) = 34 + (N : Int) := IntWalk.i64_in _ (by omega)
        have e2 : IntKind.i64.wrap (34 + (N : Int) + 56) = 34 + (N : Int) + 56 := IntWalk.i64_in _ (by omega)
        have e3 : IntKind.i64.wrap (34 + (N : Int) + 56 - 1) = 34 + (N : Int) + 56 - 1 := IntWalk.i64_in _ (by omega)
        have e4 : (34 + (N : Int) + 56 - 1).tdiv 56 = (((N + 89) / 56 : Nat) : Int) := by rw [Int.tdiv_eq_ediv_of_nonneg (by omega)]; omega
        have e5 : IntKind.i64.wrap (((N + 89) / 56 : Nat) : Int) = (((N + 89) / 56 : Nat) : Int) := IntWalk.i64_in _ (by omega)
        have e6 : IntKind.i64.wrap (V1 - (((N + 89) / 56 : Nat) : Int)) = V1 - (((N + 89) / 56 : Nat) : Int) := IntWalk.i64_in _ (by omega)
        obtain ⟨one, hone⟩ : ∃ one : Nat, one = (N + 89) / 56 := ⟨_, rfl⟩
        rw [← hone] at v2 e4 e5 e6
        have v4 : ¬ V1 < V2 := by omega
        have v5 : ¬ V2 < V1 - (one : Int) := by omega
        clear hone v1 v2
        go_wp2_with fail
        refine LG1.out.mono ?_; rintro e w7 ⟨rfl, hb⟩
        have S7 := Lib.hid (S6.out.kept hb)
        have L7 := Lib.hid (L6.out.trans (.here hb S6.out.base))
        have LG2 := Lib.hid (LG.out w7 hb)
        clear hb L6 LG LG1 S6
        go_wp2_with fail
        refine LG2.out.mono ?_; rintro e w8 ⟨rfl, hb⟩
        have S8 := Lib.hid (S7.out.kept hb)
        have L8 := Lib.hid (L7.out.trans (.here hb S7.out.base))
        clear hb L7 LG2 S7
        have m0 : ((k : Int)).tmod 3 = ((k % 3 : Nat) : Int) := by rw [Int.tmod_eq_emod_of_nonneg (by omega)]; omega
        have m1 : IntKind.i64.wrap ((k % 3 : Nat) : Int) = ((k % 3 : Nat) : Int) := IntWalk.i64_in _ (by omega)
        obtain ⟨km, hkm⟩ : ∃ km, km = k % 3 := ⟨_, rfl⟩
        rw [← hkm] at m0 m1
        have e9 : IntKind.i64.wrap ((k : Int) + 1) = (k : Int) + 1 := IntWalk.i64_in _ (by omega)
        by_cases hm9 : km = 2
        · have m2 : ((km : Int) == 2) = true := by rw [beq_iff_eq]; omega
          have LH1 := Lib.hid (ls_left w8 S8.out I6.out)
          rw [← HV2.out] at LH1
          go_wp2_with fail
          refine LH1.out.mono ?_; rintro e w9 ⟨rfl, hb⟩
          have S9 := Lib.hid (S8.out.kept hb)
          have L9 := Lib.hid (L8.out.trans (.here hb S8.out.base))
          clear hb L8 S8 LH1
          obtain ⟨D', hi, hr, hl, hn, FL⟩ := ls_flush_ok w9 S9.out I6.out HR.out HLF.out
          have HFL := Lib.hid FL
          have IN := Lib.hid hi
          have HRN := Lib.hid hr
          have HLN := Lib.hid (show D'.left < 0 by have := HLF.out; omega)
          clear FL hi hr hl hn S9
          go_wp2_with fail
          refine HFL.out.mono ?_; rintro e w10 ⟨rfl, hl, hb⟩
          have S10 := Lib.hid hl
          have L10 := Lib.hid (L9.out.trans hb)
          have LI := Lib.hid (ls_left w10 S10.out IN.out)
          have hz9 : ((A6.sectors : Int) - ((A6.fin + cntB (A6.recs.drop A6.dur) : Nat) : Int) - ((cntB (A6.recs.drop A6.recs.length) : Nat) : Int)) = V2 := by
            rw [List.drop_length, cnt_nil, HV2.out]
            omega
          have LI2 := Lib.hid (show Calls Tryz.prog 30 #[.pointer (some ⟨q, 0, none⟩)] w10 fun e w' => e = .returned (.int .i64 V2) ∧ Below w10.heap.size w10 w' from by rw [← hz9]; exact LI.out)
          clear hl hb HFL LI L9 hz9
          go_wp2_with fail
          refine LI2.out.mono ?_; rintro e w11 ⟨rfl, hb⟩
          have S11 := Lib.hid (S10.out.kept hb)
          have L11 := Lib.hid (L10.out.trans (.here hb S10.out.base))
          clear hb L10 S10 LI2
          go_wp2_with fail
          go_roundw
          case rel => exact ⟨k + 1, by omega, by go_num, _, _, Lib.hid ⟨S11.out, IN.out, HRN.out, HLN.out, L11.out⟩⟩
          case measure => simp [intOf] <;> omega
        · have m2 : ((km : Int) == 2) = false := by rw [beq_eq_false_iff_ne]; omega
          go_wp2_with fail
          go_roundw
          case rel => exact ⟨k + 1, by omega, by go_num, _, _, Lib.hid ⟨S8.out, I6.out, HR.out, HLF.out, L8.out⟩⟩
          case measure => simp [intOf] <;> omega
    · have b1 : ¬ (k : Int) < (n0 : Int) := by omega
      go_wp2_with fail
      go_ret
      exact ⟨by trivial, HB1.out.trans (L.out.below.mono HB1.out.size)⟩

/-! The row's step. -/
set_option maxRecDepth 100000 in
theorem lifted (os : Os) (started : os.Started) (H : Type) (enc : TypeId × Value → H) :
    ReturnsInHanded {} Tryz.checked os 9 .any (Rows.walLeftSpec.pre6 enc Tryz.prog Tryz.f9 Rows.walLeftRow.domain false) (Rows.walLeftSpec.post enc Tryz.prog Tryz.f9 false true false false) := by
  refine returnsInHanded_of_change (C := Tryz.checked) own started (by kernel_rfl) Tryz.func9
    (ChangeSpec.witness6 (enc := enc) (C := Tryz.checked) false ⟨#[], #[.slice none 0 0], []⟩ 8 (by kernel_rfl) (by kernel_rfl) (by kernel_rfl) (by kernel_rfl)) ?_
  intro W base args ds gs before hval0 hW hcnd _
  have hval : ∀ (j : Nat) t v, Tryz.f9.params[j]? = some t → args[j]? = some v → Value.okWide Tryz.prog W .any base t v := hval0
  have hW' := hW
  obtain ⟨p, q, hA0, hV, rfl, hfz, hnd⟩ := hW
  have hA : DataW.TrodAll enc Tryz.prog W 0 (fun _ => true) true Tryz.f9.params.toList args.toList ds p := hA0
  rw [Tryz.params9] at hA hval
  obtain ⟨v0, vs0, d0, ds0, p0, q0, hargs, rfl, rfl, h0, r0⟩ := trodAll_cons hA
  obtain ⟨rfl, rfl, rfl⟩ := trodAll_nil r0
  obtain rfl : args = #[v0] := by cases args; simp_all
  obtain ⟨rfl, rfl⟩ := trodVars_none hV
  obtain ⟨A0, n0, c0, rfl⟩ := okWide_slice Tryz.underlying38 (hval 0 38 v0 rfl rfl)
  have k0 := h0
  have lt0 : ∀ x ∈ p0, x.block < W.heap.size := by obtain ⟨m, hm⟩ := k0; exact DataW.trod_lt m _ _ _ hm
  obtain ⟨l0, w0, e0, f0⟩ := (by obtain ⟨fuel, hf⟩ := h0; exact ints_read hf (fun _ => rfl) : ∃ l, Ints W A0 n0 l ∧ n0 ≤ c0 ∧ c0 ≤ maxLen)
  clear hA0 hval0
  refine (walk A0 n0 c0 l0 W w0 (Nat.le_trans e0 f0)).mono fun e W' ⟨he, bel⟩ => ?_
  subst he
  exact ⟨_, rfl, _, _, _, [], _, [], hW', trodAll_mk1 (shut_bool Tryz.underlying4 _), (trodAll_cons_mk (Below.trod laidOut (by kernel_rfl) (of_decide_eq_true (by kernel_rfl)) k0 bel lt0) trodAll_mk0), rfl, bel.frame _, fun h => by cases h⟩

theorem over : Rows.walLeftRow.holds Tryz.pinned (OpenSpec.ofChange Rows.walLeftSpec) :=
  OpenClaim.holds_of_wide 9 Tryz.f9 rfl rfl rfl rfl rfl rfl rfl ⟨rfl, rfl, rfl, rfl, rfl⟩ rfl rfl rfl rfl rfl (by kernel_rfl) Tryz.func9 (by kernel_rfl)
    (of_decide_eq_true (by kernel_rfl)) (by unfold Func.isWrapper; first | (rw [if_pos (by decide +kernel)]; kernel_rfl) | (rw [if_neg (by decide +kernel)]; exact ⟨rfl, rfl⟩))
    (fun os started H enc _ => lifted os started H enc)

/-- The statement. -/
theorem proved : Rows.WalLeftSaid := over
end Go.Proofs.YtnjggoeahaglbaaGreat.walLeft
