/- The contracts of the methods by which cells are told apart: is, other, before, after; one, zero. -/
import Derived.Test.YtljegjcajlkgiaaBuck
import Derived.Test.YtljegjcajlkgiaaSum
namespace Go.Proofs.Ytljegjcajlkgiaa
open Go.ChangeShapes Go.WideShapes Go.ChangeAt Go.RowKit
set_option linter.unusedVariables false
set_option linter.unusedSimpArgs false
set_option maxRecDepth 100000
theorem is_any (k : ByteArray) (c : Ce) (w : World) : Calls Try.prog 26 #[.string k, cvC c] w fun e w' => e = .returned (.bool (isB k c)) ∧ Below w.heap.size w w' := by
  have HB := Lib.hid ((Below.refl w.heap.size w).alloc (Nat.le_refl _) (.cells #[.string c.key, .string c.val, .int .i64 c.blob, .int .i64 c.size] 31))
  have he : (k.toList == c.key.toList) = isB k c := by
    unfold isB
    rw [ByteArray.toList_eq, ByteArray.toList_eq]
    by_cases h : k.data.toList = c.key.data.toList
    · rw [decide_eq_true h, h, beq_self_eq_true]
    · rw [decide_eq_false h, beq_eq_false_iff_ne]; exact h
  generalize isB k c = r at *
  unfold cvC cv
  go_enter Try.func26, Try.ntmps26
  go_wp2_with fail
  go_ret
  exact ⟨by rw [← he]; rfl, HB.out⟩
theorem other_any (k : ByteArray) (c : Ce) (w : World) : Calls Try.prog 37 #[.string k, cvC c] w fun e w' => e = .returned (.bool (otherB k c)) ∧ Below w.heap.size w w' := by
  have HB := Lib.hid ((Below.refl w.heap.size w).alloc (Nat.le_refl _) (.cells #[.string c.key, .string c.val, .int .i64 c.blob, .int .i64 c.size] 31))
  have IS := Lib.hid (fun w => is_any k c w)
  unfold otherB
  generalize isB k c = r at *
  unfold cvC cv at *
  go_enter Try.func37, Try.ntmps37
  go_wp2_with fail
  refine (IS.out _).mono ?_; rintro e w1 ⟨rfl, hb⟩
  have HB1 := Lib.hid (HB.out.trans (hb.mono HB.out.size))
  clear hb
  go_wp2_with fail
  go_ret
  exact ⟨rfl, HB1.out⟩
theorem before_any (k : ByteArray) (c : Ce) (w : World) : Calls Try.prog 31 #[.string k, cvC c] w fun e w' => e = .returned (.bool (beforeB k c)) ∧ Below w.heap.size w w' := by
  have HB := Lib.hid ((Below.refl w.heap.size w).alloc (Nat.le_refl _) (.cells #[.string c.key, .string c.val, .int .i64 c.blob, .int .i64 c.size] 31))
  have he : Op.bytesLess k.toList c.key.toList = beforeB k c := by
    rw [bytesLess_cb, ByteArray.toList_eq, ByteArray.toList_eq]
    rfl
  generalize beforeB k c = r at *
  unfold cvC cv
  go_enter Try.func31, Try.ntmps31
  go_wp2_with fail
  go_ret
  exact ⟨by rw [← he]; rfl, HB.out⟩
theorem after_any (k : ByteArray) (c : Ce) (w : World) : Calls Try.prog 30 #[.string k, cvC c] w fun e w' => e = .returned (.bool (afterB k c)) ∧ Below w.heap.size w w' := by
  have HB := Lib.hid ((Below.refl w.heap.size w).alloc (Nat.le_refl _) (.cells #[.string c.key, .string c.val, .int .i64 c.blob, .int .i64 c.size] 31))
  have he : Op.bytesLess c.key.toList k.toList = afterB k c := by
    rw [bytesLess_cb, ByteArray.toList_eq, ByteArray.toList_eq]
    rfl
  have hg : ∀ w, (binOp .gtr 9 (.string k) (.string c.key)).run Try.prog w = .ok (.bool (afterB k c)) w := fun w => by
    have hb : Op.bytesLess k.toList c.key.toList = beforeB k c := by
      rw [bytesLess_cb, ByteArray.toList_eq, ByteArray.toList_eq]
      rfl
    have hi : (k.toList == c.key.toList) = isB k c := by
      unfold isB
      rw [ByteArray.toList_eq, ByteArray.toList_eq]
      by_cases h : k.data.toList = c.key.data.toList
      · rw [decide_eq_true h, h, beq_self_eq_true]
      · rw [decide_eq_false h, beq_eq_false_iff_ne]; exact h
    have ht : (!beforeB k c && !isB k c) = afterB k c := by
      rcases tri k c with h | h | h
      · rw [h.1, h.2.1, h.2.2]; rfl
      · rw [h.1, h.2.1, h.2.2]; rfl
      · rw [h.1, h.2.1, h.2.2]; rfl
    simp [binOp, Op.stringOp, hb, hi, ht]
  generalize afterB k c = r at *
  unfold cvC cv
  go_enter Try.func30, Try.ntmps30
  go_wp2_with fail
  go_ret
  exact ⟨rfl, HB.out⟩
/-- Bit number d of a key's hash. -/
def oneB (d : Nat) (c : Ce) : Bool := decide (hsum c.key.data.toList / 2 ^ d % 2 = 1)
def zeroB (d : Nat) (c : Ce) : Bool := !oneB d c
theorem run_shr (x d : Nat) (hd : d < 32) : ∀ w, (binOp .shr 66 (.int .u32 x) (.int .i64 d)).run Try.prog w = .ok (.int .u32 ((x / 2 ^ d : Nat) : Int)) w := fun w => by
  have h1 : ¬ (d : Int) < 0 := by omega
  have h2 : min ((d : Int)).toNat IntKind.u32.bits = d := by
    rw [Int.toNat_natCast]
    exact Nat.min_eq_left (by show d ≤ 32; omega)
  simp only [binOp, Op.shift, if_neg h1, h2, Sem.run_pure]
  congr 2
  rw [Int.fdiv_eq_ediv_of_nonneg _ (by exact Int.pow_nonneg (by omega))]
  rw [Int.natCast_ediv, Int.natCast_pow]
  rfl
theorem and_one (y : Nat) (h : y < 4294967296) : bits .and .u32 (y : Int) 1 = ((y % 2 : Nat) : Int) := by
  have e := u32_and_nat y 1 h (by omega)
  rw [show ((1 : Nat) : Int) = 1 from rfl] at e
  rw [e, Nat.and_one_is_mod]
theorem one_any (d : Nat) (c : Ce) (hd : d < 32) (hk : c.key.size ≤ maxLen) (w : World) : Calls Try.prog 35 #[.int .i64 d, cvC c] w fun e w' => e = .returned (.bool (oneB d c)) ∧ Below w.heap.size w w' := by
  have HB := Lib.hid ((Below.refl w.heap.size w).alloc (Nat.le_refl _) (.cells #[.string c.key, .string c.val, .int .i64 c.blob, .int .i64 c.size] 31))
  have SU := Lib.hid (fun w => fnv_sum c.key w hk)
  have hl := hsum_lt c.key.data.toList
  have hr : oneB d c = decide (hsum c.key.data.toList / 2 ^ d % 2 = 1) := rfl
  rw [hr]
  clear hr
  generalize hsum c.key.data.toList = x at *
  have ha : (bits .and .u32 ((x : Int) / 2 ^ d) 1 == 1) = decide (x / 2 ^ d % 2 = 1) := by
    rw [show ((x : Int) / 2 ^ d) = ((x / 2 ^ d : Nat) : Int) by rw [Int.natCast_ediv, Int.natCast_pow]; rfl, and_one _ (Nat.lt_of_le_of_lt (Nat.div_le_self _ _) hl)]
    by_cases h : x / 2 ^ d % 2 = 1
    · rw [decide_eq_true h, h]; rfl
    · rw [decide_eq_false h, beq_eq_false_iff_ne]; omega
  have HA := Lib.hid ha
  clear ha
  generalize decide (x / 2 ^ d % 2 = 1) = r at *
  have hd0 : (d : Int) ≥ 0 := by omega
  have hd1 : (d : Int) < 32 := by omega
  have hx : (x : Int) < 4294967296 := by omega
  clear hl
  unfold cvC cv
  go_enter Try.func35, Try.ntmps35
  go_wp2_with fail
  refine (SU.out _).mono ?_; rintro e w1 ⟨rfl, rfl⟩
  go_wp2_with fail
  go_ret
  exact ⟨by rw [← HA.out]; rfl, HB.out⟩
theorem zero_any (d : Nat) (c : Ce) (hd : d < 32) (hk : c.key.size ≤ maxLen) (w : World) : Calls Try.prog 34 #[.int .i64 d, cvC c] w fun e w' => e = .returned (.bool (zeroB d c)) ∧ Below w.heap.size w w' := by
  have HB := Lib.hid ((Below.refl w.heap.size w).alloc (Nat.le_refl _) (.cells #[.string c.key, .string c.val, .int .i64 c.blob, .int .i64 c.size] 31))
  have IS := Lib.hid (fun w => one_any d c hd hk w)
  unfold zeroB
  generalize oneB d c = r at *
  unfold cvC cv at *
  go_enter Try.func34, Try.ntmps34
  go_wp2_with fail
  refine (IS.out _).mono ?_; rintro e w1 ⟨rfl, hb⟩
  have HB1 := Lib.hid (HB.out.trans (hb.mono HB.out.size))
  clear hb
  go_wp2_with fail
  go_ret
  exact ⟨rfl, HB1.out⟩
end Go.Proofs.Ytljegjcajlkgiaa
