/- For every number k the law PackBounds returns true: the greatest numbers that have room are written, the next ones and those below 0 are not, and spoil all behind; nothing else is assumed. -/
import Derived.Test.YtfggdcebeopidaaRows
import Derived.Test.YtfggdcebeopidaaAlive
import Derived.Lib.Hide
import Derived.WalkLawsBesides
import Derived.WalkSpells
import Derived.Deep.QuietTactic
import Derived.BigQuiet
import Derived.WalkKit
import Derived.ProofKit
import Derived.OpenShut
import Derived.ShutString
namespace Go.Proofs.Ytfggdcebeopidaa.packBounds
open Go.ChangeShapes Go.WideShapes Go.ChangeAt Go.RowKit
open Go.ChangeMaps (open_string shut_string)
set_option linter.unusedVariables false

theorem own : ownKnob Try.prog.godebug = none := by kernel_rfl

theorem cut_8 (k : Int) : ∃ c : Nat, (wrap64 (k.tmod 8 + 8)).tmod 8 = (c : Int) ∧ c < 8 := by
  have h1 := Int.tmod_lt_of_pos k (b := 8) (by omega)
  have h2 : -8 < k.tmod 8 := by
    have := Int.tmod_lt_of_pos (-k) (b := 8) (by omega)
    rw [Int.neg_tmod] at this
    omega
  have e : wrap64 (k.tmod 8 + 8) = k.tmod 8 + 8 := by unfold wrap64; omega
  rw [e]
  have h3 := Int.tmod_nonneg 8 (a := k.tmod 8 + 8) (by omega)
  have h4 := Int.tmod_lt_of_pos (k.tmod 8 + 8) (b := 8) (by omega)
  exact ⟨((k.tmod 8 + 8).tmod 8).toNat, by omega, by omega⟩
/-! The walk: the Go text returns true and leaves what was there as it was. -/
theorem walk (a0 : Int) (w0 : (Lit.int .i64 a0).wf = true) (w : World) :
    Calls Try.prog 6 #[.int .i64 a0] w fun e w' => e = .returned (.bool true) ∧ Below w.heap.size w w' := by
  obtain ⟨c, hc, hcl⟩ := cut_8 a0
  go_enter Try.func6, Try.ntmps6
  go_wp2_with fail
  refine (alive_yes _).mono ?_; rintro e w1 ⟨rfl, hb1⟩
  have B1 := Lib.hid hb1
  clear hb1
  go_wp2_with fail
  obtain ⟨v, hv, hlo, hhi⟩ : ∃ v : Int, (([.int .i64 0, .int .i64 65535, .int .i64 65536, .int .i64 (-1), .int .i64 4294967295, .int .i64 4294967296, .int .i64 4611686018427387904, .int .i64 (-9223372036854775808)] : List Value)[c]'hcl) = .int .i64 v ∧ -9223372036854775808 ≤ v ∧ v ≤ 9223372036854775807 := by
    match c, hcl with
    | 0, _ => exact ⟨_, rfl, by omega, by omega⟩
    | 1, _ => exact ⟨_, rfl, by omega, by omega⟩
    | 2, _ => exact ⟨_, rfl, by omega, by omega⟩
    | 3, _ => exact ⟨_, rfl, by omega, by omega⟩
    | 4, _ => exact ⟨_, rfl, by omega, by omega⟩
    | 5, _ => exact ⟨_, rfl, by omega, by omega⟩
    | 6, _ => exact ⟨_, rfl, by omega, by omega⟩
    | 7, _ => exact ⟨_, rfl, by omega, by omega⟩
  rw [hv]
  obtain ⟨hp1, hp2, hb3, hz3⟩ := two_new w1 (.cells #[.int .i64 0, .int .i64 65535, .int .i64 65536, .int .i64 (-1), .int .i64 4294967295, .int .i64 4294967296, .int .i64 4611686018427387904, .int .i64 (-9223372036854775808)] 3)
  generalize (((w1.alloc (.cells #[.int .i64 0, .int .i64 65535, .int .i64 65536, .int .i64 (-1), .int .i64 4294967295, .int .i64 4294967296, .int .i64 4611686018427387904, .int .i64 (-9223372036854775808)] 3)).alloc newW).alloc newW) = W3 at *
  have HP1 := Lib.hid hp1
  have HP2 := Lib.hid hp2
  have BB := Lib.hid (B1.out.trans (hb3.mono B1.out.size))
  have HZ := Lib.hid hz3
  have hg1 : w.heap.size ≤ w1.heap.size := B1.out.size
  clear hp1 hp2 hb3 hz3 hv hc
  by_cases h0 : 0 ≤ v
  · by_cases h1 : v ≤ 65535
    · have n1 : v ≤ 4294967295 := by omega
      refine (num_fits W3.heap.size _ v [] _ h0 h1 (by simp) (Wr.nil HP1.out (Nat.le_refl _))).mono ?_; rintro e w4 ⟨rfl, hw4⟩
      have H4 := Lib.hid hw4
      have Hq4 := Lib.hid ((hw4.2.block (w1.heap.size + 1 + 1) HZ.out (by omega)).trans HP2.out)
      have B4 := Lib.hid (BB.out.trans (hw4.2.to_below w.heap.size (by have := B1.out.size; omega) (by have := BB.out.size; omega)))
      clear hw4
      go_wp2_with fail
      refine (long_fits w4.heap.size _ v [] _ h0 n1 (by simp) (Wr.nil Hq4.out (Nat.le_refl _))).mono ?_; rintro e w5 ⟨rfl, hw5⟩
      have H5 := Lib.hid hw5.1
      have K5 := Lib.hid (H4.out.1.stays hw5.2 (Nat.le_refl _) (by omega) Hq4.out)
      have B5 := Lib.hid (B4.out.trans (hw5.2.to_below w.heap.size (by omega) (by have := B4.out.size; omega)))
      clear hw5
      go_wp2_with fail
      refine (done_good _ _ _ _ K5.out).mono ?_; rintro e w6 ⟨rfl, rfl⟩
      go_wp2_with fail
      refine (done_good _ _ _ _ H5.out).mono ?_; rintro e w6 ⟨rfl, rfl⟩
      go_wp2_with fail
      refine (num_fits W3.heap.size _ 1 _ _ (by omega) (by omega) (by simp [w2_length]) K5.out).mono ?_; rintro e w6 ⟨rfl, hw6⟩
      have H6 := Lib.hid hw6.1
      have B6 := Lib.hid (B5.out.trans (hw6.2.to_below w.heap.size (by omega) (by have := BB.out.size; omega)))
      clear hw6
      go_wp2_with fail
      refine (done_good _ _ _ _ H6.out).mono ?_; rintro e w7 ⟨rfl, rfl⟩
      go_wp2_with fail
      go_ret
      exact ⟨rfl, B6.out⟩
    · by_cases h2 : v ≤ 4294967295
      · have n1 : 65535 < v := by omega
        have d1 : decide (v ≤ 65535) = false := by simpa using h1
        refine (num_out W3.heap.size _ v [] false _ (by omega) hlo hhi (by simp) (Wr.nil HP1.out (Nat.le_refl _))).mono ?_; rintro e w4 ⟨rfl, hw4⟩
        have H4 := Lib.hid hw4
        have Hq4 := Lib.hid ((hw4.2.block (w1.heap.size + 1 + 1) HZ.out (by omega)).trans HP2.out)
        have B4 := Lib.hid (BB.out.trans (hw4.2.to_below w.heap.size (by have := B1.out.size; omega) (by have := BB.out.size; omega)))
        clear hw4
        go_wp2_with fail
        refine (long_fits w4.heap.size _ v [] _ h0 h2 (by simp) (Wr.nil Hq4.out (Nat.le_refl _))).mono ?_; rintro e w5 ⟨rfl, hw5⟩
        have H5 := Lib.hid hw5.1
        have K5 := Lib.hid (H4.out.1.stays hw5.2 (Nat.le_refl _) (by omega) Hq4.out)
        have B5 := Lib.hid (B4.out.trans (hw5.2.to_below w.heap.size (by omega) (by have := B4.out.size; omega)))
        clear hw5
        go_wp2_with fail
        refine (done_bad _ _ _ _ K5.out).mono ?_; rintro e w6 ⟨rfl, rfl⟩
        go_wp2_with fail
        refine (done_good _ _ _ _ H5.out).mono ?_; rintro e w6 ⟨rfl, rfl⟩
        go_wp2_with fail
        refine (num_stuck W3.heap.size _ 1 _ _ (by omega) (by omega) (by simp) K5.out).mono ?_; rintro e w6 ⟨rfl, hw6⟩
        have H6 := Lib.hid hw6.1
        have B6 := Lib.hid (B5.out.trans (hw6.2.to_below w.heap.size (by omega) (by have := BB.out.size; omega)))
        clear hw6
        go_wp2_with fail
        refine (done_bad _ _ _ _ H6.out).mono ?_; rintro e w7 ⟨rfl, rfl⟩
        go_wp2_with fail
        go_ret
        exact ⟨rfl, B6.out⟩
      · have n1 : 65535 < v := by omega
        have n2 : 4294967295 < v := by omega
        have d1 : decide (v ≤ 65535) = false := by simpa using h1
        have d2 : decide (v ≤ 4294967295) = false := by simpa using h2
        refine (num_out W3.heap.size _ v [] false _ (by omega) hlo hhi (by simp) (Wr.nil HP1.out (Nat.le_refl _))).mono ?_; rintro e w4 ⟨rfl, hw4⟩
        have H4 := Lib.hid hw4
        have Hq4 := Lib.hid ((hw4.2.block (w1.heap.size + 1 + 1) HZ.out (by omega)).trans HP2.out)
        have B4 := Lib.hid (BB.out.trans (hw4.2.to_below w.heap.size (by have := B1.out.size; omega) (by have := BB.out.size; omega)))
        clear hw4
        go_wp2_with fail
        refine (long_out w4.heap.size _ v [] false _ (by omega) hlo hhi (by simp) (Wr.nil Hq4.out (Nat.le_refl _))).mono ?_; rintro e w5 ⟨rfl, hw5⟩
        have H5 := Lib.hid hw5.1
        have K5 := Lib.hid (H4.out.1.stays hw5.2 (Nat.le_refl _) (by omega) Hq4.out)
        have B5 := Lib.hid (B4.out.trans (hw5.2.to_below w.heap.size (by omega) (by have := B4.out.size; omega)))
        clear hw5
        go_wp2_with fail
        refine (done_bad _ _ _ _ K5.out).mono ?_; rintro e w6 ⟨rfl, rfl⟩
        go_wp2_with fail
        refine (done_bad _ _ _ _ H5.out).mono ?_; rintro e w6 ⟨rfl, rfl⟩
        go_wp2_with fail
        refine (num_stuck W3.heap.size _ 1 _ _ (by omega) (by omega) (by simp) K5.out).mono ?_; rintro e w6 ⟨rfl, hw6⟩
        have H6 := Lib.hid hw6.1
        have B6 := Lib.hid (B5.out.trans (hw6.2.to_below w.heap.size (by omega) (by have := BB.out.size; omega)))
        clear hw6
        go_wp2_with fail
        refine (done_bad _ _ _ _ H6.out).mono ?_; rintro e w7 ⟨rfl, rfl⟩
        go_wp2_with fail
        go_ret
        exact ⟨rfl, B6.out⟩
  · have n1 : v < 0 := by omega
    refine (num_out W3.heap.size _ v [] false _ (by omega) hlo hhi (by simp) (Wr.nil HP1.out (Nat.le_refl _))).mono ?_; rintro e w4 ⟨rfl, hw4⟩
    have H4 := Lib.hid hw4
    have Hq4 := Lib.hid ((hw4.2.block (w1.heap.size + 1 + 1) HZ.out (by omega)).trans HP2.out)
    have B4 := Lib.hid (BB.out.trans (hw4.2.to_below w.heap.size (by have := B1.out.size; omega) (by have := BB.out.size; omega)))
    clear hw4
    go_wp2_with fail
    refine (long_out w4.heap.size _ v [] false _ (by omega) hlo hhi (by simp) (Wr.nil Hq4.out (Nat.le_refl _))).mono ?_; rintro e w5 ⟨rfl, hw5⟩
    have H5 := Lib.hid hw5.1
    have K5 := Lib.hid (H4.out.1.stays hw5.2 (Nat.le_refl _) (by omega) Hq4.out)
    have B5 := Lib.hid (B4.out.trans (hw5.2.to_below w.heap.size (by omega) (by have := B4.out.size; omega)))
    clear hw5
    go_wp2_with fail
    refine (done_bad _ _ _ _ K5.out).mono ?_; rintro e w6 ⟨rfl, rfl⟩
    go_wp2_with fail
    refine (done_bad _ _ _ _ H5.out).mono ?_; rintro e w6 ⟨rfl, rfl⟩
    go_wp2_with fail
    refine (num_stuck W3.heap.size _ 1 _ _ (by omega) (by omega) (by simp) K5.out).mono ?_; rintro e w6 ⟨rfl, hw6⟩
    have H6 := Lib.hid hw6.1
    have B6 := Lib.hid (B5.out.trans (hw6.2.to_below w.heap.size (by omega) (by have := BB.out.size; omega)))
    clear hw6
    go_wp2_with fail
    refine (done_bad _ _ _ _ H6.out).mono ?_; rintro e w7 ⟨rfl, rfl⟩
    go_wp2_with fail
    go_ret
    exact ⟨rfl, B6.out⟩

/-! The row's step. -/
set_option maxRecDepth 100000 in
theorem lifted (os : Os) (started : os.Started) (H : Type) (enc : TypeId × Value → H) :
    ReturnsInHanded {} Try.checked os 6 .any (Rows.packBoundsSpec.pre6 enc Try.prog Try.f6 Rows.packBoundsRow.domain false) (Rows.packBoundsSpec.post enc Try.prog Try.f6 false true false false) := by
  refine returnsInHanded_of_change (C := Try.checked) own started (by kernel_rfl) Try.func6
    (ChangeSpec.witness6 (enc := enc) (C := Try.checked) false ⟨#[], #[.int .i64 0], []⟩ 8 (by kernel_rfl) (by kernel_rfl) (by kernel_rfl) (by kernel_rfl)) ?_
  intro W base args ds gs before hval0 hW hcnd _
  have hval : ∀ (j : Nat) t v, Try.f6.params[j]? = some t → args[j]? = some v → Value.okWide Try.prog W .any base t v := hval0
  have hW' := hW
  obtain ⟨p, q, hA0, hV, rfl, hfz, hnd⟩ := hW
  have hA : DataW.TrodAll enc Try.prog W 0 (fun _ => true) true Try.f6.params.toList args.toList ds p := hA0
  rw [Try.params6] at hA hval
  obtain ⟨v0, vs0, d0, ds0, p0, q0, hargs, rfl, rfl, h0, r0⟩ := trodAll_cons hA
  obtain ⟨rfl, rfl, rfl⟩ := trodAll_nil r0
  obtain rfl : args = #[v0] := by cases args; simp_all
  obtain ⟨rfl, rfl⟩ := trodVars_none hV
  obtain ⟨a0, rfl, rfl, rfl, w0⟩ := open_int Try.underlying3 (hval 0 3 v0 rfl rfl) h0
  clear hA0 hval0
  simp only [List.append_nil] at hW'
  refine (walk a0 w0 W).mono fun e W' ⟨he, hg⟩ => ?_
  subst he
  exact ⟨_, rfl, post_of_below (pa := []) (pv := []) hW' (fun _ _ _ => (trodAll_cons_mk (shut_bool Try.underlying4 _) trodAll_mk0)) (fun sp _ => (trodAll_cons_mk (shut_int Try.underlying3 w0) trodAll_mk0)) (fun _ _ => rfl) rfl
    hg (ok_one (by kernel_rfl) rfl (okWide_bool_mk Try.underlying4 _))⟩

theorem over : Rows.packBoundsRow.holds Try.pinned (OpenSpec.ofChange Rows.packBoundsSpec) :=
  OpenClaim.holds_of_wide 6 Try.f6 rfl rfl rfl rfl rfl rfl rfl ⟨rfl, rfl, rfl, rfl, rfl⟩ rfl rfl rfl rfl rfl (by kernel_rfl) Try.func6 (by kernel_rfl)
    (of_decide_eq_true (by kernel_rfl)) (by unfold Func.isWrapper; first | (rw [if_pos (by decide +kernel)]; kernel_rfl) | (rw [if_neg (by decide +kernel)]; exact ⟨rfl, rfl⟩))
    (fun os started H enc _ => lifted os started H enc)

/-- The statement. -/
theorem proved : Rows.PackBoundsSaid :=
  over
end Go.Proofs.Ytfggdcebeopidaa.packBounds
