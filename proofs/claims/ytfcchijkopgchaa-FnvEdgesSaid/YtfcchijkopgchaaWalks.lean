/- The contracts of the functions of chapter 1: each returns what its plain Lean function computes. -/
import Derived.Test.YtfcchijkopgchaaRows
import Derived.Test.YtfcchijkopgchaaPlain
import Derived.WalkKit
import Derived.ProofKit
import Derived.OpenShut
import Derived.ShutString
import Derived.LoopTactic
import Derived.Outline
import Derived.Lib.Hide
import Derived.WalkLawsBesides
import Derived.WalkSpells
import Derived.Deep.QuietTactic
import Derived.BigQuiet
namespace Go.Proofs.Ytfcchijkopgchaa
open Go.ChangeShapes Go.WideShapes Go.ChangeAt Go.RowKit

theorem u32_congr {a b : Int} (h : a = b) : Value.int IntKind.u32 a = Value.int IntKind.u32 b := by rw [h]
theorem ret_u32 {a b : Int} (h : a = b) : Ending.returned (.int .u32 a) = .returned (.int .u32 b) := by rw [h]
theorem ret_i64 {a b : Int} (h : a = b) : Ending.returned (.int .i64 a) = .returned (.int .i64 b) := by rw [h]
theorem ret_bool {a b : Bool} (h : a = b) : Ending.returned (.bool a) = .returned (.bool b) := by rw [h]

theorem take_all (s : ByteArray) (k : Nat) (h : s.size ≤ k) : s.data.toList.take k = s.data.toList :=
  List.take_of_length_le (by simpa using h)

theorem round_u32 (s : ByteArray) (k : Nat) (h : k < s.size) :
    bits .xor .u32 ((hsum (s.data.toList.take k) : Nat) : Int) ((s[k].toNat : Int) % 4294967296) * 16777619 % 4294967296 = ((hsum (s.data.toList.take (k + 1)) : Nat) : Int) := by
  rw [take_snoc s k h, hsum_snoc]; exact hstep_int _ _ (hsum_lt _)

set_option maxHeartbeats 400000 in
theorem ref_sum (s : ByteArray) (w : World) (hs : s.size ≤ maxLen) :
    Calls Try.prog 11 #[.string s] w fun e w' => e = .returned (.int .u32 (hsum s.data.toList)) ∧ w = w' := by
  unfold maxLen at hs
  go_enter Try.func11, Try.ntmps11
  go_wp2
  go_loop [3, 4] (fun h i => ∃ k : Nat, k ≤ s.size ∧ i = .int .i64 k ∧ h = .int .u32 (hsum (s.data.toList.take k))) (fun _ i => s.size - (intOf i).toNat)
  case atStart => exact ⟨0, Nat.zero_le _, rfl, rfl⟩
  case round =>
    obtain ⟨k, hk, rfl, rfl⟩ := hrel
    by_cases hlt : k < s.size
    · go_wp2
      go_round
      case rel => exact ⟨k + 1, by omega, by go_num, u32_congr (round_u32 s k hlt)⟩
      case measure => simp [intOf]; omega
    · go_wp2
      go_ret
      exact ⟨ret_u32 (by rw [take_all s k (by omega)]), rfl⟩

set_option maxHeartbeats 400000 in
theorem fnv_sum (s : ByteArray) (w : World) (hs : s.size ≤ maxLen) :
    Calls Try.prog 10 #[.string s] w fun e w' => e = .returned (.int .u32 (hsum s.data.toList)) ∧ w = w' := by
  unfold maxLen at hs
  go_enter Try.func10, Try.ntmps10
  go_wp2
  go_loop [3, 4, 7] (fun h _ i => ∃ k : Nat, k ≤ s.size ∧ i = .int .i64 k ∧ h = .int .u32 (hsum (s.data.toList.take k))) (fun _ _ i => s.size - (intOf i).toNat)
  case atStart => exact ⟨0, Nat.zero_le _, rfl, rfl⟩
  case round =>
    obtain ⟨k, hk, rfl, rfl⟩ := hrel
    by_cases hlt : k < s.size
    · go_wp2
      go_round
      case rel => exact ⟨k + 1, by omega, by go_num, u32_congr (round_u32 s k hlt)⟩
      case measure => simp [intOf]; omega
    · go_wp2
      go_ret
      exact ⟨ret_u32 (by rw [take_all s k (by omega)]), rfl⟩

theorem sum_quiet (s : ByteArray) (w : World) (hs : s.size ≤ maxLen) (n : Nat) :
    Calls Try.prog 10 #[.string s] (w.drewN n) fun e w' => e = .returned (.int .u32 (hsum s.data.toList)) ∧ w' = w.drewN n :=
  (fnv_sum s _ hs).mono fun _ _ ⟨he, hw⟩ => ⟨he, hw.symm⟩

theorem w64 {a : Int} {l : List UInt8} {d : Int} (h : a = ((hbits l d : Nat) : Int)) : wrap64 a = ((hbits l d : Nat) : Int) := by
  have := hbits_lt l d
  rw [h]; unfold wrap64; omega

theorem fnv_bits (s : ByteArray) (d : Int) (w : World) (hs : s.size ≤ maxLen) :
    Calls Try.prog 12 #[.string s, .int .i64 d] w fun e w' => e = .returned (.int .i64 (hbits s.data.toList d)) ∧ ∃ n, w' = w.drewN n := by
  by_cases h0 : d < 0
  · have hv := Lib.hid (ret_i64 (w64 (fnv_lo s.data.toList d h0)))
    go_enter Try.func12, Try.ntmps12
    go_wp2_with fail
    go_quiet ((go_at_call 10; exact Calls.quiet_of_same (sum_quiet s _ hs _)))
    go_wp2
    go_ret
    exact ⟨hv.out, _, rfl⟩
  · by_cases h1 : d ≤ 31
    · obtain ⟨c, rfl⟩ := Int.eq_ofNat_of_zero_le (by omega : 0 ≤ d)
      have hv := Lib.hid (ret_i64 (w64 (fnv_mid s.data.toList c h1)))
      go_enter Try.func12, Try.ntmps12
      go_wp2_with fail
      go_quiet ((go_at_call 10; exact Calls.quiet_of_same (sum_quiet s _ hs _)))
      go_wp2
      go_ret
      exact ⟨hv.out, _, rfl⟩
    · have hv := Lib.hid (ret_i64 (w64 (fnv_hi s.data.toList d h1)))
      go_enter Try.func12, Try.ntmps12
      go_wp2_with fail
      go_quiet ((go_at_call 10; exact Calls.quiet_of_same (sum_quiet s _ hs _)))
      go_wp2
      go_ret
      exact ⟨hv.out, _, rfl⟩

theorem ref_bits (s : ByteArray) (d : Int) (w : World) (hs : s.size ≤ maxLen) :
    Calls Try.prog 13 #[.string s, .int .i64 d] w fun e w' => e = .returned (.int .i64 (hbits s.data.toList d)) ∧ w = w' := by
  by_cases h0 : d < 0
  · have hv := Lib.hid (hbits_lo s.data.toList d h0)
    go_enter Try.func13, Try.ntmps13
    go_wp2_with (go_at_call 11; refine (ref_sum _ _ hs).mono ?_; rintro e w' ⟨rfl, rfl⟩)
    go_ret
    exact ⟨ret_i64 (by rw [hv.out]; rfl), rfl⟩
  · by_cases h1 : d ≤ 31
    · obtain ⟨c, rfl⟩ := Int.eq_ofNat_of_zero_le (by omega : 0 ≤ d)
      have hv := Lib.hid (ret_i64 (w64 (ref_mid s.data.toList c h1)))
      have hp := pow_le31 c (by omega)
      have hne : ¬ ((2 : Int) ^ c % 4294967296 = 0) := by rw [pow_mod c (by omega)]; omega
      clear hp
      go_enter Try.func13, Try.ntmps13
      go_wp2_with (go_at_call 11; refine (ref_sum _ _ hs).mono ?_; rintro e w' ⟨rfl, rfl⟩)
      go_ret
      exact ⟨hv.out, rfl⟩
    · have hv := Lib.hid (ret_i64 (ref_hi s.data.toList d h1))
      go_enter Try.func13, Try.ntmps13
      go_wp2_with (go_at_call 11; refine (ref_sum _ _ hs).mono ?_; rintro e w' ⟨rfl, rfl⟩)
      go_ret
      exact ⟨hv.out, rfl⟩

theorem fnv_key (s : ByteArray) (w : World) :
    Calls Try.prog 14 #[.string s] w fun e w' => e = .returned (.bool (keyB s.size)) ∧ w = w' := by
  by_cases h0 : 1 ≤ s.size
  · have hv := Lib.hid (ret_bool (keyB_yes s.size h0))
    go_enter Try.func14, Try.ntmps14
    go_wp2
    go_ret
    exact ⟨hv.out, rfl⟩
  · have hv := Lib.hid (ret_bool (keyB_no s.size h0))
    go_enter Try.func14, Try.ntmps14
    go_wp2
    go_ret
    exact ⟨hv.out, rfl⟩

theorem ref_key (s : ByteArray) (w : World) :
    Calls Try.prog 15 #[.string s] w fun e w' => e = .returned (.bool (keyB s.size)) ∧ w = w' := by
  by_cases h0 : 1 ≤ s.size
  · have hv := Lib.hid (ret_bool (keyB_yes s.size h0))
    go_enter Try.func15, Try.ntmps15
    go_wp2
    go_ret
    exact ⟨hv.out, rfl⟩
  · have hv := Lib.hid (ret_bool (keyB_no s.size h0))
    go_enter Try.func15, Try.ntmps15
    go_wp2
    go_ret
    exact ⟨hv.out, rfl⟩

theorem fnv_val (s : ByteArray) (w : World) :
    Calls Try.prog 16 #[.string s] w fun e w' => e = .returned (.bool (valB s.size)) ∧ w = w' := by
  go_enter Try.func16, Try.ntmps16
  go_wp2
  go_ret
  exact ⟨rfl, rfl⟩

theorem ref_val (s : ByteArray) (w : World) :
    Calls Try.prog 17 #[.string s] w fun e w' => e = .returned (.bool (valB s.size)) ∧ w = w' := by
  go_enter Try.func17, Try.ntmps17
  go_wp2
  go_ret
  exact ⟨rfl, rfl⟩

theorem grown_drewN {W w' : World} (h : Grown W w') (n : Nat) : Grown W (w'.drewN n) := by
  induction n with
  | zero => exact h
  | succ n ih => exact ih.drew

/-- w' is w after some draws of the order. -/
def Drew (w w' : World) : Prop := ∃ n, w' = w.drewN n
theorem grown_drew {w w' : World} (h : Drew w w') : Grown w w' := by
  obtain ⟨n, rfl⟩ := h; exact grown_drewN (Grown.refl _) n
theorem bits_drew (s : ByteArray) (d : Int) (w : World) (hs : s.size ≤ maxLen) :
    Calls Try.prog 12 #[.string s, .int .i64 d] w fun e w' => e = .returned (.int .i64 (hbits s.data.toList d)) ∧ Drew w w' := fnv_bits s d w hs
theorem Drew.trans {a b c : World} (h : Drew a b) (g : Drew b c) : Drew a c := by
  obtain ⟨n, rfl⟩ := h; obtain ⟨m, rfl⟩ := g; exact ⟨n + m, World.drewN_drewN _ _ _⟩

/-! ### The calls of 'alive' -/
theorem sum_e (w : World) : Calls Try.prog 10 #[.string { data := #[] }] w fun e w' => e = .returned (.int .u32 2166136261) ∧ w = w' :=
  fnv_sum { data := #[] } w (by decide)
theorem sum_a (w : World) : Calls Try.prog 10 #[.string { data := #[97] }] w fun e w' => e = .returned (.int .u32 3826002220) ∧ w = w' := by
  have h : hsum [97] = 3826002220 := by decide
  refine (fnv_sum { data := #[97] } w (by decide)).mono ?_
  rintro e w' ⟨he, hw⟩
  refine ⟨?_, hw⟩
  rw [he]
  show Ending.returned (.int .u32 ((hsum [97] : Nat) : Int)) = _
  rw [h]; rfl
theorem bits_a (w : World) : Calls Try.prog 12 #[.string { data := #[97] }, .int .i64 4] w fun e w' => e = .returned (.int .i64 12) ∧ ∃ n, w' = w.drewN n := by
  have h : hbits [97] 4 = 12 := by decide
  refine (fnv_bits { data := #[97] } 4 w (by decide)).mono ?_
  rintro e w' ⟨he, hw⟩
  refine ⟨?_, hw⟩
  rw [he]
  show Ending.returned (.int .i64 ((hbits [97] 4 : Nat) : Int)) = _
  rw [h]; rfl
theorem key_k (w : World) : Calls Try.prog 14 #[.string { data := #[107] }] w fun e w' => e = .returned (.bool true) ∧ w = w' :=
  fnv_key { data := #[107] } w
theorem key_e (w : World) : Calls Try.prog 14 #[.string { data := #[] }] w fun e w' => e = .returned (.bool false) ∧ w = w' :=
  fnv_key { data := #[] } w
theorem val_e (w : World) : Calls Try.prog 16 #[.string { data := #[] }] w fun e w' => e = .returned (.bool true) ∧ w = w' :=
  fnv_val { data := #[] } w

theorem alive_yes (w : World) : Calls Try.prog 9 #[] w fun e w' => e = .returned (.bool true) ∧ Drew w w' := by
  go_enter Try.func9, Try.ntmps9
  go_wp2_with fail
  refine (sum_e _).mono ?_; rintro e w' ⟨rfl, rfl⟩
  go_wp2_with fail
  refine (sum_a _).mono ?_; rintro e w' ⟨rfl, rfl⟩
  go_wp2_with fail
  refine (bits_a _).mono ?_; rintro e w' ⟨rfl, nq, rfl⟩
  go_wp2_with fail
  refine (key_k _).mono ?_; rintro e w' ⟨rfl, rfl⟩
  go_wp2_with fail
  refine (key_e _).mono ?_; rintro e w' ⟨rfl, rfl⟩
  go_wp2_with fail
  refine (val_e _).mono ?_; rintro e w' ⟨rfl, rfl⟩
  go_wp2_with fail
  go_ret
  exact ⟨rfl, nq, rfl⟩
end Go.Proofs.Ytfcchijkopgchaa
