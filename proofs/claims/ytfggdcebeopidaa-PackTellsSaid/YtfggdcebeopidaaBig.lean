/- The contract of the document's own 'Big': a number as so many bytes, most significant first, and whether it fits. -/
import Derived.Test.YtfggdcebeopidaaAlive
namespace Go.Proofs.Ytfggdcebeopidaa
open Go.ChangeShapes Go.WideShapes Go.ChangeAt Go.RowKit
set_option linter.unusedVariables false

theorem i64_mask8 (v : Int) (h0 : -9223372036854775808 ≤ v) (h1 : v ≤ 9223372036854775807) : bits .and .i64 v 255 = v % 256 := by
  have e : ∀ a : Int, (BitVec.ofInt 64 a).toNat = (a % 18446744073709551616).toNat := fun a => by
    rw [BitVec.toNat_ofInt]; rfl
  show IntKind.i64.wrap ((BitVec.ofInt 64 v &&& BitVec.ofInt 64 255).toNat : Int) = _
  rw [BitVec.toNat_and, e, e, show ((255 : Int) % 18446744073709551616).toNat = 2 ^ 8 - 1 from rfl, Nat.and_two_pow_sub_one_eq_mod, IntKind.wrap_i64]
  omega
/-- The least byte of whatever number. -/
def bI (v : Int) : UInt8 := UInt8.ofNat (v % 256).toNat
theorem bI_toNat (v : Int) : ((bI v).toNat : Int) = v % 256 := by
  unfold bI; simp; omega
theorem bI_eq (v : Int) (h : 0 ≤ v) : bI v = byte v := by
  apply UInt8.toNat_inj.1
  have h1 := bI_toNat v
  have h2 := byte_toNat v h
  omega

theorem to_string2 (W : World) (v : Int) : (convert 25 9 (.slice (some ⟨W.heap.size, 0, none⟩) 2 2)).run Try.prog (W.alloc (.cells #[.int .u8 (v / 256 % 256), .int .u8 (v % 256)] 5)) = .ok (.string (str [bI (v / 256), bI v])) (W.alloc (.cells #[.int .u8 (v / 256 % 256), .int .u8 (v % 256)] 5)) :=
  run_convert_bytes_back (P := Try.prog) _ 25 9 5 ⟨W.heap.size, 0, none⟩ 2 [bI (v / 256), bI v] Try.underlying25 Try.underlying5 Try.underlying9 fun j hj => by
    have hh := heap_alloc_new W (.cells #[.int .u8 (v / 256 % 256), .int .u8 (v % 256)] 5)
    match j, hj with
    | 0, _ => exact (cell_of_row _ W.heap.size 0 _ _ _ hh).trans (by simp [bI_toNat])
    | 1, _ => exact (cell_of_row _ W.heap.size 1 _ _ _ hh).trans (by simp [bI_toNat])

set_option maxHeartbeats 1000000 in
theorem big2_in (v : Int) (w : World) (h0 : -9223372036854775808 ≤ v) (h1 : v ≤ 9223372036854775807) (h2 : 0 ≤ v) (h3 : v ≤ 65535) :
    Calls Try.prog 12 #[.int .i64 v, .int .i64 2] w fun e w' => e = .returned (.tuple #[.string (str [bI (v / 256), bI v]), .bool true]) ∧ Below w.heap.size w w' := by
  have m0 := i64_mask8 (v) (by omega) (by omega)
  have m1 := i64_mask8 (v / 256) (by omega) (by omega)
  have hz : (v / 256 / 256 == 0) = true := by rw [beq_iff_eq]; omega
  clear h3
  have hcv := to_string2 w v
  have hmk : ∀ w : World, (Instr.makeSlice 25 (.int .i64 2) (.int .i64 2)).run Try.prog w = .ok (.slice (some ⟨w.heap.size, 0, none⟩) 2 2) (w.alloc (.cells #[.int .u8 0, .int .u8 0] 5)) := fun _ => by kernel_rfl
  go_enter Try.func12, Try.ntmps12
  go_wp2_with fail
  refine wp_loop_rounds 3 ?_
  rw [rounds_succ]
  go_wp2_with fail
  rw [rounds_succ]
  go_wp2_with fail
  rw [rounds_succ]
  go_wp2_with fail
  go_ret2
  exact ⟨rfl, (Below.refl _ _).alloc (Nat.le_refl _) _⟩

set_option maxHeartbeats 1000000 in
theorem big2_neg (v : Int) (w : World) (h0 : -9223372036854775808 ≤ v) (h1 : v ≤ 9223372036854775807) (h2 : v < 0) :
    Calls Try.prog 12 #[.int .i64 v, .int .i64 2] w fun e w' => e = .returned (.tuple #[.string (str [bI (v / 256), bI v]), .bool false]) ∧ Below w.heap.size w w' := by
  have m0 := i64_mask8 (v) (by omega) (by omega)
  have m1 := i64_mask8 (v / 256) (by omega) (by omega)

  have hcv := to_string2 w v
  have hmk : ∀ w : World, (Instr.makeSlice 25 (.int .i64 2) (.int .i64 2)).run Try.prog w = .ok (.slice (some ⟨w.heap.size, 0, none⟩) 2 2) (w.alloc (.cells #[.int .u8 0, .int .u8 0] 5)) := fun _ => by kernel_rfl
  go_enter Try.func12, Try.ntmps12
  go_wp2_with fail
  refine wp_loop_rounds 3 ?_
  rw [rounds_succ]
  go_wp2_with fail
  rw [rounds_succ]
  go_wp2_with fail
  rw [rounds_succ]
  go_wp2_with fail
  go_ret2
  exact ⟨rfl, (Below.refl _ _).alloc (Nat.le_refl _) _⟩

set_option maxHeartbeats 1000000 in
theorem big2_high (v : Int) (w : World) (h0 : -9223372036854775808 ≤ v) (h1 : v ≤ 9223372036854775807) (h2 : 0 ≤ v) (h3 : 65535 < v) :
    Calls Try.prog 12 #[.int .i64 v, .int .i64 2] w fun e w' => e = .returned (.tuple #[.string (str [bI (v / 256), bI v]), .bool false]) ∧ Below w.heap.size w w' := by
  have m0 := i64_mask8 (v) (by omega) (by omega)
  have m1 := i64_mask8 (v / 256) (by omega) (by omega)
  have hz : (v / 256 / 256 == 0) = false := by rw [beq_eq_false_iff_ne]; omega
  clear h3
  have hcv := to_string2 w v
  have hmk : ∀ w : World, (Instr.makeSlice 25 (.int .i64 2) (.int .i64 2)).run Try.prog w = .ok (.slice (some ⟨w.heap.size, 0, none⟩) 2 2) (w.alloc (.cells #[.int .u8 0, .int .u8 0] 5)) := fun _ => by kernel_rfl
  go_enter Try.func12, Try.ntmps12
  go_wp2_with fail
  refine wp_loop_rounds 3 ?_
  rw [rounds_succ]
  go_wp2_with fail
  rw [rounds_succ]
  go_wp2_with fail
  rw [rounds_succ]
  go_wp2_with fail
  go_ret2
  exact ⟨rfl, (Below.refl _ _).alloc (Nat.le_refl _) _⟩

theorem big2_out (v : Int) (w : World) (h0 : -9223372036854775808 ≤ v) (h1 : v ≤ 9223372036854775807) (h : v < 0 ∨ 65535 < v) :
    Calls Try.prog 12 #[.int .i64 v, .int .i64 2] w fun e w' => e = .returned (.tuple #[.string (str [bI (v / 256), bI v]), .bool false]) ∧ Below w.heap.size w w' := by
  by_cases h2 : v < 0
  · exact big2_neg v w h0 h1 h2
  · exact big2_high v w h0 h1 (by omega) (by omega)

theorem to_string4 (W : World) (v : Int) : (convert 25 9 (.slice (some ⟨W.heap.size, 0, none⟩) 4 4)).run Try.prog (W.alloc (.cells #[.int .u8 (v / 256 / 256 / 256 % 256), .int .u8 (v / 256 / 256 % 256), .int .u8 (v / 256 % 256), .int .u8 (v % 256)] 5)) = .ok (.string (str [bI (v / 256 / 256 / 256), bI (v / 256 / 256), bI (v / 256), bI v])) (W.alloc (.cells #[.int .u8 (v / 256 / 256 / 256 % 256), .int .u8 (v / 256 / 256 % 256), .int .u8 (v / 256 % 256), .int .u8 (v % 256)] 5)) :=
  run_convert_bytes_back (P := Try.prog) _ 25 9 5 ⟨W.heap.size, 0, none⟩ 4 [bI (v / 256 / 256 / 256), bI (v / 256 / 256), bI (v / 256), bI v] Try.underlying25 Try.underlying5 Try.underlying9 fun j hj => by
    have hh := heap_alloc_new W (.cells #[.int .u8 (v / 256 / 256 / 256 % 256), .int .u8 (v / 256 / 256 % 256), .int .u8 (v / 256 % 256), .int .u8 (v % 256)] 5)
    match j, hj with
    | 0, _ => exact (cell_of_row _ W.heap.size 0 _ _ _ hh).trans (by simp [bI_toNat])
    | 1, _ => exact (cell_of_row _ W.heap.size 1 _ _ _ hh).trans (by simp [bI_toNat])
    | 2, _ => exact (cell_of_row _ W.heap.size 2 _ _ _ hh).trans (by simp [bI_toNat])
    | 3, _ => exact (cell_of_row _ W.heap.size 3 _ _ _ hh).trans (by simp [bI_toNat])

set_option maxHeartbeats 1000000 in
theorem big4_in (v : Int) (w : World) (h0 : -9223372036854775808 ≤ v) (h1 : v ≤ 9223372036854775807) (h2 : 0 ≤ v) (h3 : v ≤ 4294967295) :
    Calls Try.prog 12 #[.int .i64 v, .int .i64 4] w fun e w' => e = .returned (.tuple #[.string (str [bI (v / 256 / 256 / 256), bI (v / 256 / 256), bI (v / 256), bI v]), .bool true]) ∧ Below w.heap.size w w' := by
  have m0 := i64_mask8 (v) (by omega) (by omega)
  have m1 := i64_mask8 (v / 256) (by omega) (by omega)
  have m2 := i64_mask8 (v / 256 / 256) (by omega) (by omega)
  have m3 := i64_mask8 (v / 256 / 256 / 256) (by omega) (by omega)
  have hz : (v / 256 / 256 / 256 / 256 == 0) = true := by rw [beq_iff_eq]; omega
  clear h3
  have hcv := to_string4 w v
  have hmk : ∀ w : World, (Instr.makeSlice 25 (.int .i64 4) (.int .i64 4)).run Try.prog w = .ok (.slice (some ⟨w.heap.size, 0, none⟩) 4 4) (w.alloc (.cells #[.int .u8 0, .int .u8 0, .int .u8 0, .int .u8 0] 5)) := fun _ => by kernel_rfl
  go_enter Try.func12, Try.ntmps12
  go_wp2_with fail
  refine wp_loop_rounds 5 ?_
  rw [rounds_succ]
  go_wp2_with fail
  rw [rounds_succ]
  go_wp2_with fail
  rw [rounds_succ]
  go_wp2_with fail
  rw [rounds_succ]
  go_wp2_with fail
  rw [rounds_succ]
  go_wp2_with fail
  go_ret2
  exact ⟨rfl, (Below.refl _ _).alloc (Nat.le_refl _) _⟩

set_option maxHeartbeats 1000000 in
theorem big4_neg (v : Int) (w : World) (h0 : -9223372036854775808 ≤ v) (h1 : v ≤ 9223372036854775807) (h2 : v < 0) :
    Calls Try.prog 12 #[.int .i64 v, .int .i64 4] w fun e w' => e = .returned (.tuple #[.string (str [bI (v / 256 / 256 / 256), bI (v / 256 / 256), bI (v / 256), bI v]), .bool false]) ∧ Below w.heap.size w w' := by
  have m0 := i64_mask8 (v) (by omega) (by omega)
  have m1 := i64_mask8 (v / 256) (by omega) (by omega)
  have m2 := i64_mask8 (v / 256 / 256) (by omega) (by omega)
  have m3 := i64_mask8 (v / 256 / 256 / 256) (by omega) (by omega)

  have hcv := to_string4 w v
  have hmk : ∀ w : World, (Instr.makeSlice 25 (.int .i64 4) (.int .i64 4)).run Try.prog w = .ok (.slice (some ⟨w.heap.size, 0, none⟩) 4 4) (w.alloc (.cells #[.int .u8 0, .int .u8 0, .int .u8 0, .int .u8 0] 5)) := fun _ => by kernel_rfl
  go_enter Try.func12, Try.ntmps12
  go_wp2_with fail
  refine wp_loop_rounds 5 ?_
  rw [rounds_succ]
  go_wp2_with fail
  rw [rounds_succ]
  go_wp2_with fail
  rw [rounds_succ]
  go_wp2_with fail
  rw [rounds_succ]
  go_wp2_with fail
  rw [rounds_succ]
  go_wp2_with fail
  go_ret2
  exact ⟨rfl, (Below.refl _ _).alloc (Nat.le_refl _) _⟩

set_option maxHeartbeats 1000000 in
theorem big4_high (v : Int) (w : World) (h0 : -9223372036854775808 ≤ v) (h1 : v ≤ 9223372036854775807) (h2 : 0 ≤ v) (h3 : 4294967295 < v) :
    Calls Try.prog 12 #[.int .i64 v, .int .i64 4] w fun e w' => e = .returned (.tuple #[.string (str [bI (v / 256 / 256 / 256), bI (v / 256 / 256), bI (v / 256), bI v]), .bool false]) ∧ Below w.heap.size w w' := by
  have m0 := i64_mask8 (v) (by omega) (by omega)
  have m1 := i64_mask8 (v / 256) (by omega) (by omega)
  have m2 := i64_mask8 (v / 256 / 256) (by omega) (by omega)
  have m3 := i64_mask8 (v / 256 / 256 / 256) (by omega) (by omega)
  have hz : (v / 256 / 256 / 256 / 256 == 0) = false := by rw [beq_eq_false_iff_ne]; omega
  clear h3
  have hcv := to_string4 w v
  have hmk : ∀ w : World, (Instr.makeSlice 25 (.int .i64 4) (.int .i64 4)).run Try.prog w = .ok (.slice (some ⟨w.heap.size, 0, none⟩) 4 4) (w.alloc (.cells #[.int .u8 0, .int .u8 0, .int .u8 0, .int .u8 0] 5)) := fun _ => by kernel_rfl
  go_enter Try.func12, Try.ntmps12
  go_wp2_with fail
  refine wp_loop_rounds 5 ?_
  rw [rounds_succ]
  go_wp2_with fail
  rw [rounds_succ]
  go_wp2_with fail
  rw [rounds_succ]
  go_wp2_with fail
  rw [rounds_succ]
  go_wp2_with fail
  rw [rounds_succ]
  go_wp2_with fail
  go_ret2
  exact ⟨rfl, (Below.refl _ _).alloc (Nat.le_refl _) _⟩

theorem big4_out (v : Int) (w : World) (h0 : -9223372036854775808 ≤ v) (h1 : v ≤ 9223372036854775807) (h : v < 0 ∨ 4294967295 < v) :
    Calls Try.prog 12 #[.int .i64 v, .int .i64 4] w fun e w' => e = .returned (.tuple #[.string (str [bI (v / 256 / 256 / 256), bI (v / 256 / 256), bI (v / 256), bI v]), .bool false]) ∧ Below w.heap.size w w' := by
  by_cases h2 : v < 0
  · exact big4_neg v w h0 h1 h2
  · exact big4_high v w h0 h1 (by omega) (by omega)

theorem w2_bI (v : Int) (h : 0 ≤ v) : [bI (v / 256), bI v] = w2 v := by rw [bI_eq _ (by omega), bI_eq v h]; rfl
theorem w4_bI (v : Int) (h : 0 ≤ v) : [bI (v / 256 / 256 / 256), bI (v / 256 / 256), bI (v / 256), bI v] = w4 v := by
  rw [bI_eq _ (by omega), bI_eq _ (by omega), bI_eq _ (by omega), bI_eq v h]
  have e1 : v / 256 / 256 / 256 = v / 65536 / 256 := by omega
  have e2 : v / 256 / 256 = v / 65536 := by omega
  have e3 : byte (v / 256) = byte (v % 65536 / 256) := by
    apply UInt8.toNat_inj.1
    have h1 := byte_toNat (v / 256) (by omega)
    have h2 := byte_toNat (v % 65536 / 256) (by omega)
    omega
  have e4 : byte v = byte (v % 65536) := by
    apply UInt8.toNat_inj.1
    have h1 := byte_toNat v h
    have h2 := byte_toNat (v % 65536) (by omega)
    omega
  rw [e1, e2, e3, e4]; rfl

end Go.Proofs.Ytfggdcebeopidaa
