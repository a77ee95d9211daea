/- Set, of a directory, whatever is asked: what it answers; Double, Halve. -/
import Derived.Test.YtojfnafahlpjjaaNeq
namespace Go.Proofs.Ytojfnafahlpjjaa
open Go.ChangeShapes Go.WideShapes Go.ChangeAt Go.RowKit
set_option linter.unusedVariables false
set_option linter.unusedSimpArgs false
/-- What may be set in a directory of depth e. -/
def setMay (e : Nat) (bits depth n : Int) : Prop := (0 ≤ depth ∧ depth ≤ (e : Int)) ∧ (0 ≤ bits ∧ bits < ((2 ^ depth.toNat : Nat) : Int)) ∧ (2 ≤ n ∧ n < 64)
theorem set_yes (x : Int) (l : List Int) (e : Nat) (hg : GoodD l e) (bits depth n : Int) (h : setMay e bits depth n) (w : World) :
    Calls Try.prog 15 #[pv 1 e x (mkD l), .int .i64 bits, .int .i64 depth, .int .i64 n] w fun q w' => q = .returned (.tuple #[pv 1 e x (mkD (setS l bits.toNat depth.toNat n)), .int .i64 0]) ∧ Below w.heap.size w w' := by
  obtain ⟨h1, h2, h3⟩ := h
  obtain ⟨d, rfl⟩ : ∃ d : Nat, depth = (d : Int) := ⟨depth.toNat, by omega⟩
  obtain ⟨b, rfl⟩ : ∃ b : Nat, bits = (b : Int) := ⟨bits.toNat, by omega⟩
  rw [Int.toNat_natCast] at h2 ⊢
  rw [Int.toNat_natCast]
  exact set_ok x l e hg b d n (by omega) (by omega) h3 w
theorem set_err (x : Int) (l : List Int) (e : Nat) (hg : GoodD l e) (bits depth n : Int) (h : ¬ setMay e bits depth n) (w : World) :
    Calls Try.prog 15 #[pv 1 e x (mkD l), .int .i64 bits, .int .i64 depth, .int .i64 n] w fun q w' => q = .returned (.tuple #[pv 0 0 0 [], .int .i64 1]) ∧ Below w.heap.size w w' := by
  by_cases h1 : 0 ≤ depth ∧ depth < (e : Int) + 1
  · obtain ⟨d, rfl⟩ : ∃ d : Nat, depth = (d : Int) := ⟨depth.toNat, by omega⟩
    by_cases h2 : 0 ≤ bits ∧ bits < ((2 ^ d : Nat) : Int)
    · refine set_page x l e hg bits d n (by omega) h2 (fun h3 => h ⟨⟨by omega, by omega⟩, ?_, h3⟩) w
      rw [Int.toNat_natCast]
      exact h2
    · exact set_bits x l e hg bits d n (by omega) h2 w
  · exact set_depth x l e hg bits depth n h1 w
/-- Set, in letters. -/
theorem set_let (x : Int) (l : List Int) (e : Nat) (hg : GoodD l e) (bits depth n : Int) :
    ∃ (er ks ds xs : Int) (ss : ByteArray), ((er = 0 ∧ setMay e bits depth n ∧ ks = 1 ∧ ds = (e : Int) ∧ xs = x ∧ ss = str (mkD (setS l bits.toNat depth.toNat n))) ∨ (er = 1 ∧ ¬ setMay e bits depth n ∧ ks = 0 ∧ ds = 0 ∧ xs = 0 ∧ ss = ⟨#[]⟩)) ∧
      ∀ w, Calls Try.prog 15 #[.agg #[.int .i64 1, .int .i64 e, .int .i64 x, .string (str (mkD l))], .int .i64 bits, .int .i64 depth, .int .i64 n] w fun q w' => q = .returned (.tuple #[.agg #[.int .i64 ks, .int .i64 ds, .int .i64 xs, .string ss], .int .i64 er]) ∧ Below w.heap.size w w' := by
  by_cases h : setMay e bits depth n
  · exact ⟨0, 1, e, x, _, .inl ⟨rfl, h, rfl, rfl, rfl, rfl⟩, fun w => set_yes x l e hg bits depth n h w⟩
  · exact ⟨1, 0, 0, 0, _, .inr ⟨rfl, h, rfl, rfl, rfl, rfl⟩, fun w => set_err x l e hg bits depth n h w⟩
theorem double_let (x : Int) (l : List Int) (e : Nat) (hg : GoodD l e) :
    ∃ (er ks ds xs : Int) (ss : ByteArray), ((er = 0 ∧ e < 5 ∧ ks = 1 ∧ ds = (e : Int) + 1 ∧ xs = x ∧ ss = str (mkD (l ++ l))) ∨ (er = 13 ∧ e = 5 ∧ ks = 0 ∧ ds = 0 ∧ xs = 0 ∧ ss = ⟨#[]⟩)) ∧
      ∀ w, Calls Try.prog 12 #[.agg #[.int .i64 1, .int .i64 e, .int .i64 x, .string (str (mkD l))]] w fun q w' => q = .returned (.tuple #[.agg #[.int .i64 ks, .int .i64 ds, .int .i64 xs, .string ss], .int .i64 er]) ∧ Below w.heap.size w w' := by
  by_cases h : e < 5
  · exact ⟨0, 1, (e : Int) + 1, x, _, .inl ⟨rfl, h, rfl, rfl, rfl, rfl⟩, fun w => double_ok x l e hg h w⟩
  · have h5 : e = 5 := by have := hg.1; omega
    exact ⟨13, 0, 0, 0, _, .inr ⟨rfl, h5, rfl, rfl, rfl, rfl⟩, fun w => double_full x l e hg h5 w⟩
end Go.Proofs.Ytojfnafahlpjjaa
