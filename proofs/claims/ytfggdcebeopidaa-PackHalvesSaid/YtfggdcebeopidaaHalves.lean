/- For every number v the law PackHalves returns true: a number of four bytes is two of two, one behind the other; nothing else is assumed. -/
import Derived.Test.YtfggdcebeopidaaRows
import Derived.Test.YtfggdcebeopidaaAlive
import Derived.Lib.Hide
import Derived.WalkLawsBesides
import Derived.WalkSpells
import Derived.Deep.QuietTactic
import Derived.BigQuiet
import Derived.WalkKit
import Derived.ProofKit
import Derived.OpenShut
import Derived.ShutString
namespace Go.Proofs.Ytfggdcebeopidaa.packHalves
open Go.ChangeShapes Go.WideShapes Go.ChangeAt Go.RowKit
open Go.ChangeMaps (open_string shut_string)
set_option linter.unusedVariables false

theorem own : ownKnob Try.prog.godebug = none := by kernel_rfl

theorem i64_mask16 (v : Int) (h0 : 0 ≤ v) (h1 : v < 9223372036854775808) : bits .and .i64 v 65535 = v % 65536 := by
  obtain ⟨n, rfl⟩ := Int.eq_ofNat_of_zero_le h0
  have e : ∀ a : Nat, a < 9223372036854775808 → (BitVec.ofInt 64 (a : Int)).toNat = a := fun a ha => by
    rw [BitVec.ofInt_natCast, BitVec.toNat_ofNat]; exact Nat.mod_eq_of_lt (by omega)
  show IntKind.i64.wrap ((BitVec.ofInt 64 (n : Int) &&& BitVec.ofInt 64 ((65535 : Nat) : Int)).toNat : Int) = _
  rw [BitVec.toNat_and, e n (by omega), e 65535 (by omega), show (65535 : Nat) = 2 ^ 16 - 1 from rfl, Nat.and_two_pow_sub_one_eq_mod, IntKind.wrap_i64]
  omega
/-! The walk: the Go text returns true and leaves what was there as it was. -/
theorem walk (a0 : Int) (w0 : (Lit.int .i64 a0).wf = true) (w : World) :
    Calls Try.prog 8 #[.int .i64 a0] w fun e w' => e = .returned (.bool true) ∧ Below w.heap.size w w' := by
  by_cases h1 : 0 ≤ a0
  · by_cases h2 : a0 ≤ 4294967295
    · have hm := i64_mask16 a0 h1 (by omega)
      have n1 : ¬ a0 < 0 := by omega
      have n2 : ¬ 4294967295 < a0 := by omega
      go_enter Try.func8, Try.ntmps8
      go_wp2_with fail
      refine (alive_yes _).mono ?_; rintro e w1 ⟨rfl, hb1⟩
      have B1 := Lib.hid hb1
      clear hb1
      go_wp2_with fail
      refine (long_fits w.heap.size _ a0 [] _ h1 h2 (by simp) (Wr.new _ w1 (by have := B1.out.size; omega))).mono ?_; rintro e w2' ⟨rfl, hw2⟩
      have B2 := Lib.hid ((B1.out.alloc B1.out.size (.cells #[.slice none 0 0, .bool false] 27)).trans (hw2.2.below B1.out.size))
      have H2 := Lib.hid hw2.1
      clear hw2
      go_wp2_with fail
      refine (done_good _ _ _ _ H2.out).mono ?_; rintro e w3 ⟨rfl, rfl⟩
      rw [List.nil_append]
      go_wp2_with fail
      refine (from_any _ _).mono ?_; rintro e w3 ⟨rfl, hw3⟩
      have B3 := Lib.hid (show Below w.heap.size w w3 by rw [← hw3]; exact B2.out.alloc B2.out.size _)
      have R3 := Lib.hid (show Rd w3 w2'.heap.size (w4 a0) true by rw [← hw3]; exact Rd.new _ _)
      have Hz := Lib.hid B2.out.size
      have Z3 := Lib.hid B3.out.size
      have hsz : ((str (w4 a0)).size) = 4 := rfl
      generalize w2'.heap.size = q at *
      clear hw3
      go_wp2_with fail
      refine (rnum_ok w.heap.size q (a0 / 65536) (w2 (a0 % 65536)) _ (by omega) (by omega) (by simp [w2_length]) Z3.out R3.out).mono ?_; rintro e w4 ⟨rfl, hr4⟩
      have H4 := Lib.hid hr4
      have Z4 := Lib.hid (Nat.le_trans Z3.out hr4.2.size)
      clear hr4
      go_wp2_with fail
      refine (rnum_ok w.heap.size q (a0 % 65536) [] _ (by omega) (by omega) (by simp) Z4.out (by rw [List.append_nil]; exact H4.out.1)).mono ?_; rintro e w5 ⟨rfl, hr5⟩
      have H5 := Lib.hid (H4.out.then hr5)
      clear hr5
      go_wp2_with fail
      refine (end_yes q _ H5.out.1).mono ?_; rintro e w6 ⟨rfl, rfl⟩
      go_wp2_with fail
      go_ret
      exact ⟨rfl, B3.out.trans (H5.out.2.below Hz.out)⟩
    · have n1 : ¬ a0 < 0 := by omega
      have n2 : 4294967295 < a0 := by omega
      go_enter Try.func8, Try.ntmps8
      go_wp2_with fail
      refine (alive_yes _).mono ?_; rintro e w1 ⟨rfl, hb1⟩
      have B1 := Lib.hid hb1
      clear hb1
      go_wp2_with fail
      go_ret
      exact ⟨rfl, B1.out⟩
  · have n1 : a0 < 0 := by omega
    go_enter Try.func8, Try.ntmps8
    go_wp2_with fail
    refine (alive_yes _).mono ?_; rintro e w1 ⟨rfl, hb1⟩
    have B1 := Lib.hid hb1
    clear hb1
    go_wp2_with fail
    go_ret
    exact ⟨rfl, B1.out⟩

/-! The row's step. -/
set_option maxRecDepth 100000 in
theorem lifted (os : Os) (started : os.Started) (H : Type) (enc : TypeId × Value → H) :
    ReturnsInHanded {} Try.checked os 8 .any (Rows.packHalvesSpec.pre6 enc Try.prog Try.f8 Rows.packHalvesRow.domain false) (Rows.packHalvesSpec.post enc Try.prog Try.f8 false true false false) := by
  refine returnsInHanded_of_change (C := Try.checked) own started (by kernel_rfl) Try.func8
    (ChangeSpec.witness6 (enc := enc) (C := Try.checked) false ⟨#[], #[.int .i64 0], []⟩ 8 (by kernel_rfl) (by kernel_rfl) (by kernel_rfl) (by kernel_rfl)) ?_
  intro W base args ds gs before hval0 hW hcnd _
  have hval : ∀ (j : Nat) t v, Try.f8.params[j]? = some t → args[j]? = some v → Value.okWide Try.prog W .any base t v := hval0
  have hW' := hW
  obtain ⟨p, q, hA0, hV, rfl, hfz, hnd⟩ := hW
  have hA : DataW.TrodAll enc Try.prog W 0 (fun _ => true) true Try.f8.params.toList args.toList ds p := hA0
  rw [Try.params8] at hA hval
  obtain ⟨v0, vs0, d0, ds0, p0, q0, hargs, rfl, rfl, h0, r0⟩ := trodAll_cons hA
  obtain ⟨rfl, rfl, rfl⟩ := trodAll_nil r0
  obtain rfl : args = #[v0] := by cases args; simp_all
  obtain ⟨rfl, rfl⟩ := trodVars_none hV
  obtain ⟨a0, rfl, rfl, rfl, w0⟩ := open_int Try.underlying3 (hval 0 3 v0 rfl rfl) h0
  clear hA0 hval0
  simp only [List.append_nil] at hW'
  refine (walk a0 w0 W).mono fun e W' ⟨he, hg⟩ => ?_
  subst he
  exact ⟨_, rfl, post_of_below (pa := []) (pv := []) hW' (fun _ _ _ => (trodAll_cons_mk (shut_bool Try.underlying4 _) trodAll_mk0)) (fun sp _ => (trodAll_cons_mk (shut_int Try.underlying3 w0) trodAll_mk0)) (fun _ _ => rfl) rfl
    hg (ok_one (by kernel_rfl) rfl (okWide_bool_mk Try.underlying4 _))⟩

theorem over : Rows.packHalvesRow.holds Try.pinned (OpenSpec.ofChange Rows.packHalvesSpec) :=
  OpenClaim.holds_of_wide 8 Try.f8 rfl rfl rfl rfl rfl rfl rfl ⟨rfl, rfl, rfl, rfl, rfl⟩ rfl rfl rfl rfl rfl (by kernel_rfl) Try.func8 (by kernel_rfl)
    (of_decide_eq_true (by kernel_rfl)) (by unfold Func.isWrapper; first | (rw [if_pos (by decide +kernel)]; kernel_rfl) | (rw [if_neg (by decide +kernel)]; exact ⟨rfl, rfl⟩))
    (fun os started H enc _ => lifted os started H enc)

/-- The statement. -/
theorem proved : Rows.PackHalvesSaid :=
  over
end Go.Proofs.Ytfggdcebeopidaa.packHalves
