/- The contracts of the methods by which cells are told apart: is, other, before, after; one, zero. -/
import Derived.Test.YtljegjcajlkgiaaGreatBuck
import Derived.Test.YtljegjcajlkgiaaGreatSum
namespace Go.Proofs.YtljegjcajlkgiaaGreat
open Go.ChangeShapes Go.WideShapes Go.ChangeAt Go.RowKit
set_option linter.unusedVariables false
set_option linter.unusedSimpArgs false
set_option maxRecDepth 100000
theorem is_any (k : ByteArray) (c : Ce) (w : World) : Calls Tryz.prog 34 #[.string k, cvC c] w fun e w' => e = .returned (.bool (isB k c)) ∧ Below w.heap.size w w' := by
  have HB := Lib.hid ((Below.refl w.heap.size w).alloc (Nat.le_refl _) (.cells #[.string c.key, .string c.val, .int .i64 c.blob, .int .i64 c.size] 42))
  have he : (k.toList == c.key.toList) = isB k c := by
    unfold isB
    rw [ByteArray.toList_eq, ByteArray.toList_eq]
    by_cases h : k.data.toList = c.key.data.toList
    · rw [decide_eq_true h, h, beq_self_eq_true]
    · rw [decide_eq_false h, beq_eq_false_iff_ne]; exact h
  generalize isB k c = r at *
  unfold cvC cv
  go_enter Tryz.func34, Tryz.ntmps34
  go_wp2_with fail
  go_ret
  exact ⟨by rw [← he]; rfl, HB.out⟩
theorem other_any (k : ByteArray) (c : Ce) (w : World) : Calls Tryz.prog 32 #[.string k, cvC c] w fun e w' => e = .returned (.bool (otherB k c)) ∧ Below w.heap.size w w' := by
  have HB := Lib.hid ((Below.refl w.heap.size w).alloc (Nat.le_refl _) (.cells #[.string c.key, .string c.val, .int .i64 c.blob, .int .i64 c.size] 42))
  have IS := Lib.hid (fun w => is_any k c w)
  unfold otherB
  generalize isB k c = r at *
  unfold cvC cv at *
  go_enter Tryz.func32, Tryz.ntmps32
  go_wp2_with fail
  refine (IS.out _).mono ?_; rintro e w1 ⟨rfl, hb⟩
  have HB1 := Lib.hid (HB.out.trans (hb.mono HB.out.size))
  clear hb
  go_wp2_with fail
  go_ret
  exact ⟨rfl, HB1.out⟩
theorem before_any (k : ByteArray) (c : Ce) (w : World) : Calls Tryz.prog 27 #[.string k, cvC c] w fun e w' => e = .returned (.bool (beforeB k c)) ∧ Below w.heap.size w w' := by
  have HB := Lib.hid ((Below.refl w.heap.size w).alloc (Nat.le_refl _) (.cells #[.string c.key, .string c.val, .int .i64 c.blob, .int .i64 c.size] 42))
  have he : Op.bytesLess k.toList c.key.toList = beforeB k c := by
    rw [bytesLess_cb, ByteArray.toList_eq, ByteArray.toList_eq]
    rfl
  generalize beforeB k c = r at *
  unfold cvC cv
  go_enter Tryz.func27, Tryz.ntmps27
  go_wp2_with fail
  go_ret
  exact ⟨by rw [← he]; rfl, HB.out⟩
theorem after_any (k : ByteArray) (c : Ce) (w : World) : Calls Tryz.prog 26 #[.string k, cvC c] w fun e w' => e = .returned (.bool (afterB k c)) ∧ Below w.heap.size w w' := by
  have HB := Lib.hid ((Below.refl w.heap.size w).alloc (Nat.le_refl _) (.cells #[.string c.key, .string c.val, .int .i64 c.blob, .int .i64 c.size] 42))
  have he : Op.bytesLess c.key.toList k.toList = afterB k c := by
    rw [bytesLess_cb, ByteArray.toList_eq, ByteArray.toList_eq]
    rfl
  have hg : ∀ w, (binOp .gtr 9 (.string k) (.string c.key)).run Tryz.prog w = .ok (.bool (afterB k c)) w := fun w => by
    have hb : Op.bytesLess k.toList c.key.toList = beforeB k c := by
      rw [bytesLess_cb, ByteArray.toList_eq, ByteArray.toList_eq]
      rfl
    have hi : (k.toList == c.key.toList) = isB k c := by
      unfold isB
      rw [ByteArray.toList_eq, ByteArray.toList_eq]
      by_cases h : k.data.toList = c.key.data.toList
      · rw [decide_eq_true h, h, beq_self_eq_true]
      · rw [decide_eq_false h, beq_eq_false_iff_ne]; exact h
    have ht : (!beforeB k c && !isB k c) = afterB k c := by
      rcases tri k c with h | h | h
      · rw [h.1, h.2.1, h.2.2]; rfl
      · rw [h.1, h.2.1, h.2.2]; rfl
      · rw [h.1, h.2.1, h.2.2]; rfl
    simp [binOp, Op.stringOp, hb, hi, ht]
  generalize afterB k c = r at *
  unfold cvC cv
  go_enter Tryz.func26, Tryz.ntmps26
  go_wp2_with fail
  go_ret
  exact ⟨rfl, HB.out⟩
/-- Bit number d of a key's hash. -/
def oneB (d : Nat) (c : Ce) : Bool := decide (hsum c.key.data.toList / 2 ^ d % 2 = 1)
def zeroB (d : Nat) (c : Ce) : Bool := !oneB d c
theorem run_shr (x d : Nat) (hd : d < 32) : ∀ w, (binOp .shr 162 (.int .u32 x) (.int .i64 d)).run Tryz.prog w = .ok (.int .u32 ((x / 2 ^ d : Nat) : Int)) w := fun w => by
  have h1 : ¬ (d : Int) < 0 := by omega
  have h2 : min ((d : Int)).toNat IntKind.u32.bits = d := by
    rw [Int.toNat_natCast]
    exact Nat.min_eq_left (by show d ≤ 32; omega)
  simp only [binOp, Op.shift, if_neg h1, h2, Sem.run_pure]
  congr 2
  rw [Int.fdiv_eq_ediv_of_nonneg _ (by exact Int.pow_nonneg (by omega))]
  rw [Int.natCast_ediv, Int.natCast_pow]
  rfl
theorem and_one (y : Nat) (h : y < 4294967296) : bits .and .u32 (y : Int) 1 = ((y % 2 : Nat) : Int) := by
  have e := u32_and_nat y 1 h (by omega)
  rw [show ((1 : Nat) : Int) = 1 from rfl] at e
  rw [e, Nat.and_one_is_mod]
end Go.Proofs.YtljegjcajlkgiaaGreat
