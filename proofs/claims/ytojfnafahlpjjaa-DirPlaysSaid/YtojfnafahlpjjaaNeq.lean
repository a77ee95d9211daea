/- Pages held against each other; entries all alike, halved. -/
import Derived.Test.YtojfnafahlpjjaaLaws
namespace Go.Proofs.Ytojfnafahlpjjaa
open Go.ChangeShapes Go.WideShapes Go.ChangeAt Go.RowKit
set_option linter.unusedVariables false
set_option linter.unusedSimpArgs false
theorem neq_pages (a0 a1 a2 : Int) (a3 : ByteArray) (b0 b1 b2 : Int) (b3 : ByteArray) (w : World) : (binOp .neq 23 (.agg #[.int .i64 a0, .int .i64 a1, .int .i64 a2, .string a3]) (.agg #[.int .i64 b0, .int .i64 b1, .int .i64 b2, .string b3])).run Try.prog w = .ok (.bool (!eqP4 a0 a1 a2 a3 b0 b1 b2 b3)) w := by
  have h := eq_pages a0 a1 a2 a3 b0 b1 b2 b3 w
  rw [run_eql_struct] at h
  rw [run_neq_struct]
  generalize (Op.equalIn 10000 23 (.agg #[.int .i64 a0, .int .i64 a1, .int .i64 a2, .string a3]) (.agg #[.int .i64 b0, .int .i64 b1, .int .i64 b2, .string b3])).run Try.prog w = r at *
  cases r with
  | ok b w' =>
    simp only [Result.andThen_ok, Result.ok.injEq, Value.bool.injEq] at h ⊢
    exact ⟨by rw [h.1], h.2⟩
  | _ => simp [Result.andThen] at h
theorem neq_same (a0 a1 a2 : Int) (a3 : ByteArray) (w : World) : (binOp .neq 23 (.agg #[.int .i64 a0, .int .i64 a1, .int .i64 a2, .string a3]) (.agg #[.int .i64 a0, .int .i64 a1, .int .i64 a2, .string a3])).run Try.prog w = .ok (.bool false) w := by
  rw [neq_pages, eqP4_iff.2 ⟨rfl, rfl, rfl, rfl⟩]
  rfl
theorem reps_take (x : Int) (k : Nat) : (reps x (k + 1)).take (2 ^ k) = reps x k := by
  unfold reps
  rw [List.take_replicate, Nat.pow_succ]
  congr 1
  omega
theorem reps_drop (x : Int) (k : Nat) : (reps x (k + 1)).drop (2 ^ k) = reps x k := by
  unfold reps
  rw [List.drop_replicate, Nat.pow_succ]
  congr 1
  omega
end Go.Proofs.Ytojfnafahlpjjaa
