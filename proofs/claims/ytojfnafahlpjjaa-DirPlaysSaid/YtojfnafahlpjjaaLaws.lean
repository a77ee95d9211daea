/- What the laws share: masks, rows of one page, how many places end in bits. -/
import Derived.Test.YtojfnafahlpjjaaBase
namespace Go.Proofs.Ytojfnafahlpjjaa
open Go.ChangeShapes Go.WideShapes Go.ChangeAt Go.RowKit
set_option linter.unusedVariables false
set_option linter.unusedSimpArgs false
theorem i64_mask (d : Nat) (hd : d ≤ 5) (v : Int) (h0 : -9223372036854775808 ≤ v) (h1 : v ≤ 9223372036854775807) : bits .and .i64 v (((2 ^ d : Nat) : Int) - 1) = v % ((2 ^ d : Nat) : Int) := by
  have e : ∀ a : Int, (BitVec.ofInt 64 a).toNat = (a % 18446744073709551616).toNat := fun a => by
    rw [BitVec.toNat_ofInt]; rfl
  show IntKind.i64.wrap ((BitVec.ofInt 64 v &&& BitVec.ofInt 64 (((2 ^ d : Nat) : Int) - 1)).toNat : Int) = _
  have hp := pow_le hd
  have hk : ((((2 ^ d : Nat) : Int) - 1) % 18446744073709551616).toNat = 2 ^ d - 1 := by
    generalize 2 ^ d = N at *
    omega
  rw [BitVec.toNat_and, e, e, hk, Nat.and_two_pow_sub_one_eq_mod, IntKind.wrap_i64]
  have h6 : d = 0 ∨ d = 1 ∨ d = 2 ∨ d = 3 ∨ d = 4 ∨ d = 5 := by omega
  rcases h6 with rfl | rfl | rfl | rfl | rfl | rfl <;> (simp only [Nat.reducePow]; omega)
/-- As many entries as a depth has, all x. -/
def reps (x : Int) (k : Nat) : List Int := List.replicate (2 ^ k) x
theorem reps_good {x : Int} (hx : 2 ≤ x ∧ x < 64) {k : Nat} (hk : k ≤ 5) : GoodD (reps x k) k := ⟨hk, by simp [reps], fun y hy => by rw [List.eq_of_mem_replicate hy]; exact hx⟩
theorem reps_double (x : Int) (k : Nat) : reps x k ++ reps x k = reps x (k + 1) := by
  unfold reps
  rw [List.replicate_append_replicate, Nat.pow_succ]
  congr 1
  omega
theorem reps_zero (x : Int) : [x] = reps x 0 := rfl
theorem reps_getD (x : Int) {k i : Nat} (h : i < 2 ^ k) : (reps x k).getD i 0 = x := by simp [reps, List.getD, h]
/-- How many places below i end in b. -/
def cntM (d b i : Nat) : Nat := (List.range i).countP (fun j => decide (j % 2 ^ d = b))
theorem cntM_succ (d b i : Nat) : cntM d b (i + 1) = cntM d b i + if i % 2 ^ d = b then 1 else 0 := by
  unfold cntM
  rw [List.range_succ, List.countP_append]
  congr 1
  by_cases h : i % 2 ^ d = b <;> simp [h]
theorem cntM_le (d b i : Nat) : cntM d b i ≤ i := by
  unfold cntM
  exact Nat.le_trans List.countP_le_length (by simp)
theorem cntM_all : ∀ d, d < 6 → ∀ b, b < 32 → b < 2 ^ d → cntM d b 32 = 2 ^ (5 - d) := by decide +kernel
end Go.Proofs.Ytojfnafahlpjjaa
