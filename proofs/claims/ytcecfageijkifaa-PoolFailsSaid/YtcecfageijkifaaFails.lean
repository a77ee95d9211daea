/- A page that cannot be read is not there; one that cannot be written stays dirty. -/
import Derived.Test.YtcecfageijkifaaRows
import Derived.Test.YtcecfageijkifaaLo
import Derived.Deep.RegionHeld3
import Derived.Deep.QuietTactic
import Derived.LoopTactic
import Derived.StillTailTactics
import Derived.BigQuiet
import Derived.Deep.DeepCutAuto
import Derived.Deep.RegionLaw
import Derived.Deep.CutBlock
import Derived.Lib.Hide
import Derived.WalkKit
import Derived.ProofKit
import Derived.OpenShut
import Derived.ChangeOld
import Derived.Below
import Derived.Carry
namespace Go.Proofs.Ytcecfageijkifaa.poolFails
open Go.ChangeShapes Go.WideShapes Go.ChangeAt Go.RowKit
open Po
set_option linter.unusedVariables false

theorem own : ownKnob Try.prog.godebug = none := by kernel_rfl
theorem laidOut : laidOutB Try.prog = true := by kernel_rfl


set_option maxRecDepth 100000 in
set_option maxHeartbeats 100000000 in
theorem walk (a0 : Int) (a1 : ByteArray) (w : World) (w0 : (Lit.int .i64 a0).wf = true) (w1s : a1.size ≤ maxLen) :
    Calls Try.prog 7 #[.int .i64 a0, .string a1] w fun e w' => e = .returned (.bool true) ∧ Below w.heap.size w w' := by
  have AL := Lib.hid alive_yes
  obtain ⟨b, rfl⟩ : ∃ b, a1 = str b := ⟨a1.data.toList, rfl⟩
  have hsz : (str b).size = b.length := rfl
  have rk := wf_rng w0
  by_cases hl : (60 : Int) < (((str b).size : Nat) : Int)
  · as_aux_lemma =>
      go_enter Try.func7, Try.ntmps7
      go_wp2_with fail
      refine (AL.out _).mono ?_; rintro e w1 ⟨rfl, hb⟩
      go_wp2_with fail
      go_ret
      exact ⟨by trivial, hb⟩
  · go_enter Try.func7, Try.ntmps7
    go_wp2_with fail
    refine (AL.out _).mono ?_; rintro e w1 ⟨rfl, hb⟩
    have HB1 := Lib.hid hb
    clear hb AL
    go_wp2_with fail
    have hB : ∃ B, w1.heap.size = B := ⟨_, rfl⟩
    obtain ⟨B, hB⟩ := hB
    have HM := Lib.hid (show (hostF w1.heap.size).M (fun i => i = w1.heap.size) (w1.alloc (.cells #[.bool true] 4)) true from ⟨Bx.new w1 #[.bool true] 4, fun i => Iff.rfl⟩)
    have BB := Lib.hid (show Below w1.heap.size w1 (w1.alloc (.cells #[.bool true] 4)) from (Below.refl _ _).alloc (Nat.le_refl _) _)
    have HSZ := Lib.hid HB1.out.size
    rw [hB] at HM BB HSZ ⊢
    have hl2 : b.length ≤ 60 := by rw [← hsz]; omega
    have K0 := Lib.hid (new_ok (n := 1) (by omega) (by omega))
    have K1 := Lib.hid (show Ok (fA1 a0 b) from (by have := set_ok (h := hostF B) (o := true) K0.out rk (c := b) (lsn := 1) (by omega) ⟨by omega, by omega⟩; rw [f_set] at this; exact this.1))
    have K2 := Lib.hid (show Ok (fA2 a0 b) from acc_ok K1.out a0)
    have B2 := Lib.hid (show Below B w (w1.alloc (.cells #[.bool true] 4)) → True from fun _ => trivial)
    have G0 := Lib.hid (show Calls Try.prog 9 #[.int .i64 1, .func (.func 29) #[] #[], .func (.func 30) #[] #[ptr B], .func (.func 31) #[] #[]] (w1.alloc (.cells #[.bool true] 4)) (fun e w' => ∃ p, e = .returned (ptr p) ∧ PW (hostF B) B p (newP 1) true w' ∧ Below B (w1.alloc (.cells #[.bool true] 4)) w') from pw_new (n := 1) (fails_good B) HM.out (fun i hi => by have hi : i = B := hi; omega) (by rw [← hB]; exact BB.out.size) (by omega) (by omega))
    clear B2 HM
    generalize w1.alloc (.cells #[.bool true] 4) = w2 at *
    have B2 := BB
    refine G0.out.mono ?_; rintro e w3 ⟨p, rfl, hp, hb⟩
    have P3 := Lib.hid hp
    have B3 := Lib.hid (BB.out.trans hb)
    clear hp hb G0 BB B2
    go_wp2_with fail
    refine (show Calls Try.prog 13 #[ptr p, .int .i64 a0] w3 (fun e w' => e = .returned (.tuple #[.string ⟨#[]⟩, .int .i64 12]) ∧ PW (hostF B) B p (newP 1) true w' ∧ Below B w3 w') from pw_get (fails_good B) K0.out (n := 0) trivial (by decide) P3.out rk (f_get B a0)).mono ?_; rintro e w4 ⟨rfl, hp, hb⟩
    have P4 := Lib.hid hp
    have B4 := Lib.hid (B3.out.trans hb)
    clear hp hb P3 B3
    go_wp2_with fail
    refine (pw_has (fails_good B) K0.out P4.out (l := []) rfl).mono ?_; rintro e w5 ⟨v5, rfl, ho, hp, hb⟩
    have P5 := Lib.hid hp
    have B5 := Lib.hid (B4.out.trans hb)
    obtain ⟨A5, c5, rfl⟩ := own_shape ho
    clear hp hb ho P4 B4
    go_wp2_with fail
    by_cases hmx : a0 = 9223372036854775807
    · refine (show Calls Try.prog 14 #[ptr p, .int .i64 a0, .string (str b), .int .i64 1] w5 (fun e w' => e = .returned (.int .i64 0) ∧ PW (hostF B) B p (fA1 a0 b) true w' ∧ Below B w5 w') from pw_set (fails_good B) K0.out (n := 0) trivial (by decide) P5.out rk (by omega) (f_set B a0 b)).mono ?_; rintro e w6 ⟨rfl, hp, hb⟩
      have P6 := Lib.hid hp
      have B6 := Lib.hid (B5.out.trans hb)
      clear hp hb P5 B5
      go_wp2_with fail
      go_ret
      exact ⟨by first | rfl | simp, HB1.out.trans (B6.out.mono HSZ.out)⟩
    · have rk1 : rng (a0 + 1) := ⟨by have := rk.1; omega, by have := rk.2; omega⟩
      have ew : IntKind.i64.wrap (a0 + 1) = a0 + 1 := IntWalk.i64_in _ (by have := rk.1; have := rk.2; omega)
      have c1 : (fA1 a0 b).acc < 1000000 := by show 0 + 1 < 1000000; omega
      have c2 : (fA2 a0 b).acc < 1000000 := by show 0 + 1 + 1 < 1000000; omega
      refine (show Calls Try.prog 14 #[ptr p, .int .i64 a0, .string (str b), .int .i64 1] w5 (fun e w' => e = .returned (.int .i64 0) ∧ PW (hostF B) B p (fA1 a0 b) true w' ∧ Below B w5 w') from pw_set (fails_good B) K0.out (n := 0) trivial (by decide) P5.out rk (by omega) (f_set B a0 b)).mono ?_; rintro e w6 ⟨rfl, hp, hb⟩
      have P6 := Lib.hid hp
      have B6 := Lib.hid (B5.out.trans hb)
      clear hp hb P5 B5
      go_wp2_with fail
      refine (show Calls Try.prog 15 #[ptr p, .int .i64 a0] w6 (fun e w' => e = .returned (.int .i64 10) ∧ PW (hostF B) B p (fA1 a0 b) true w' ∧ Below B w6 w') from pw_flush (fails_good B) K1.out (n := 0) trivial P6.out rk (f_flush B a0 b)).mono ?_; rintro e w7 ⟨rfl, hp, hb⟩
      have P7 := Lib.hid hp
      have B7 := Lib.hid (B6.out.trans hb)
      clear hp hb P6 B6
      go_wp2_with fail
      refine (pw_clean P7.out rk (f_clean a0 b)).mono ?_; rintro e w8 ⟨rfl, rfl⟩
      go_wp2_with fail
      refine (show Calls Try.prog 14 #[ptr p, .int .i64 (a0 + 1), .string ⟨#[110, 111]⟩, .int .i64 2] w8 (fun e w' => e = .returned (.int .i64 10) ∧ PW (hostF B) B p (fA1 a0 b) true w' ∧ Below B w8 w') from pw_set (fails_good B) K1.out (n := 0) trivial c1 P7.out rk1 (c := [110, 111]) (by decide) (f_set2 B a0 b [110, 111])).mono ?_; rintro e w9 ⟨rfl, hp, hb⟩
      have P9 := Lib.hid hp
      have B9 := Lib.hid (B7.out.trans hb)
      clear hp hb P7 B7
      go_wp2_with fail
      refine (show Calls Try.prog 16 #[ptr p] w9 (fun e w' => e = .returned (.int .i64 10) ∧ PW (hostF B) B p (fA1 a0 b) true w' ∧ Below B w9 w') from pw_all (fails_good B) K1.out (n := 0) trivial P9.out (f_all B a0 b)).mono ?_; rintro e w10 ⟨rfl, hp, hb⟩
      have P10 := Lib.hid hp
      have B10 := Lib.hid (B9.out.trans hb)
      clear hp hb P9 B9
      go_wp2_with fail
      refine (show Calls Try.prog 13 #[ptr p, .int .i64 a0] w10 (fun e w' => e = .returned (.tuple #[.string (str b), .int .i64 0]) ∧ PW (hostF B) B p (fA2 a0 b) true w' ∧ Below B w10 w') from pw_get (fails_good B) K1.out (n := 0) trivial c1 P10.out rk (f_get2 B a0 b)).mono ?_; rintro e w11 ⟨rfl, hp, hb⟩
      have P11 := Lib.hid hp
      have B11 := Lib.hid (B10.out.trans hb)
      clear hp hb P10 B10
      obtain ⟨x0, x1⟩ := f_box P11.out
      obtain ⟨hp, hb⟩ := f_store (o' := false) P11.out
      have P12 := Lib.hid hp
      have B12 := Lib.hid (B11.out.trans hb)
      clear hp hb P11 B11
      go_upto_region 19 with fail
      generalize w11.setCell ⟨B, 0, none⟩ (.bool false) = w12 at *
      clear x0 x1
      go_wp2_with fail
      refine (pw_has (fails_good B) K2.out P12.out (l := [a0]) rfl).mono ?_; rintro e w13 ⟨v13, rfl, ho, hp, hb⟩
      have P13 := Lib.hid hp
      have B13 := Lib.hid (B12.out.trans hb)
      obtain ⟨A13, c13, rfl⟩ := own_shape ho
      clear hp hb ho P12 B12
      go_wp2_with fail
      refine (show Calls Try.prog 16 #[ptr p] w13 (fun e w' => e = .returned (.int .i64 0) ∧ PW (hostF B) B p (fA3 a0 b) false w' ∧ Below B w13 w') from pw_all (fails_good B) K2.out (n := 0) trivial P13.out (f_all2 B a0 b)).mono ?_; rintro e w14 ⟨rfl, hp, hb⟩
      have P14 := Lib.hid hp
      have B14 := Lib.hid (B13.out.trans hb)
      clear hp hb P13 B13
      go_wp2_with fail
      refine (pw_clean P14.out rk (f_clean3 a0 b)).mono ?_; rintro e w15 ⟨rfl, rfl⟩
      go_wp2_with fail
      have K3 := Lib.hid (show Ok (fA3 a0 b) from (by have := flush_ok (h := hostF B) (o := false) K2.out a0; rw [f_flush2] at this; exact this))
      have c3 : (fA3 a0 b).acc < 1000000 := by show 0 + 1 + 1 < 1000000; omega
      obtain ⟨R, hR⟩ : ∃ R, setP (hostF B) (fA3 a0 b) false (a0 + 1) [121, 101, 115] 2 = R := ⟨_, rfl⟩
      have hR1 := f_set3 B a0 b [121, 101, 115]
      rw [hR] at hR1
      refine (show Calls Try.prog 14 #[ptr p, .int .i64 (a0 + 1), .string ⟨#[121, 101, 115]⟩, .int .i64 2] w15 (fun e w' => e = .returned (.int .i64 R.1) ∧ PW (hostF B) B p R.2.1 R.2.2 w' ∧ Below B w15 w') from pw_set (fails_good B) K3.out (n := 0) trivial c3 P14.out rk1 (c := [121, 101, 115]) (by decide) hR).mono ?_; rintro e w16 ⟨rfl, hp, hb⟩
      rw [hR1]
      have B16 := Lib.hid (B14.out.trans hb)
      go_wp2_with fail
      go_ret
      exact ⟨by first | rfl | simp, HB1.out.trans (B16.out.mono HSZ.out)⟩

/-! The row's step. -/
set_option maxRecDepth 100000 in
theorem lifted (os : Os) (started : os.Started) (H : Type) (enc : TypeId × Value → H) :
    ReturnsInHanded {} Try.checked os 7 .any (Rows.poolFailsSpec.pre6 enc Try.prog Try.f7 Rows.poolFailsRow.domain false) (Rows.poolFailsSpec.post enc Try.prog Try.f7 false true false false) := by
  refine returnsInHanded_of_change (C := Try.checked) own started (by kernel_rfl) Try.func7
    (ChangeSpec.witness6 (enc := enc) (C := Try.checked) false ⟨#[], #[.int .i64 0, .string ByteArray.empty], []⟩ 8 (by kernel_rfl) (by kernel_rfl) (by kernel_rfl) (by kernel_rfl)) ?_
  intro W base args ds gs before hval0 hW hcnd _
  have hval : ∀ (j : Nat) t v, Try.f7.params[j]? = some t → args[j]? = some v → Value.okWide Try.prog W .any base t v := hval0
  have hW' := hW
  obtain ⟨p, q, hA0, hV, rfl, hfz, hnd⟩ := hW
  have hA : DataW.TrodAll enc Try.prog W 0 (fun _ => true) true Try.f7.params.toList args.toList ds p := hA0
  rw [Try.params7] at hA hval
  obtain ⟨v0, vs0, d0, ds0, p0, q0, hargs, rfl, rfl, h0, r0⟩ := trodAll_cons hA
  obtain ⟨v1, vs1, d1, ds1, p1, q1, rfl, rfl, rfl, h1, r1⟩ := trodAll_cons r0
  obtain ⟨rfl, rfl, rfl⟩ := trodAll_nil r1
  obtain rfl : args = #[v0, v1] := by cases args; simp_all
  obtain ⟨rfl, rfl⟩ := trodVars_none hV
  obtain ⟨a0, rfl, rfl, rfl, w0⟩ := open_int Try.underlying3 (hval 0 3 v0 rfl rfl) h0
  obtain ⟨a1, rfl, rfl, rfl, w1⟩ := Go.ChangeMaps.open_string Try.underlying9 (hval 1 9 v1 rfl rfl) h1
  clear hA0 hval0
  refine (walk a0 a1 W w0 w1).mono fun e W' ⟨he, bel⟩ => ?_
  subst he
  exact ⟨_, rfl, _, _, _, [], _, [], hW', trodAll_mk1 (shut_bool Try.underlying4 _), (trodAll_cons_mk (shut_int Try.underlying3 w0) (trodAll_cons_mk (Go.ChangeMaps.shut_string Try.underlying9 w1) trodAll_mk0)), rfl, bel.frame _, fun h => by cases h⟩

theorem over : Rows.poolFailsRow.holds Try.pinned (OpenSpec.ofChange Rows.poolFailsSpec) :=
  OpenClaim.holds_of_wide 7 Try.f7 rfl rfl rfl rfl rfl rfl rfl ⟨rfl, rfl, rfl, rfl, rfl⟩ rfl rfl rfl rfl rfl (by kernel_rfl) Try.func7 (by kernel_rfl)
    (of_decide_eq_true (by kernel_rfl)) (by unfold Func.isWrapper; first | (rw [if_pos (by decide +kernel)]; kernel_rfl) | (rw [if_neg (by decide +kernel)]; exact ⟨rfl, rfl⟩))
    (fun os started H enc _ => lifted os started H enc)

/-- The statement. -/
theorem proved : Rows.PoolFailsSaid := over
end Go.Proofs.Ytcecfageijkifaa.poolFails
