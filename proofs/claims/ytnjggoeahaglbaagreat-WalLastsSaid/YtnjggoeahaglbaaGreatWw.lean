/- A batch written sector by sector: what the disk is behind it, whether all of it was written. -/
import Derived.Test.YtnjggoeahaglbaaGreatWq
import Derived.Test.YtnjggoeahaglbaaGreatDk
namespace Go.Proofs.YtnjggoeahaglbaaGreat.Wa
open Go.RowKit
open Fr
set_option linter.unusedVariables false
def putW : Dk.St → Nat → List BA → Dk.St × Bool
  | D, _, [] => (D, true)
  | D, n, b :: l => if D.runs = false then (D, false) else if D.left = 0 then ({ D with runs := false }, false) else putW (Dk.wrote D n b) (n + 1) l
theorem putW_dead {D : Dk.St} {n : Nat} {b : BA} {l : List BA} (h : D.runs = false) : putW D n (b :: l) = (D, false) := by
  unfold putW; rw [if_pos h]
theorem putW_stop {D : Dk.St} {n : Nat} {b : BA} {l : List BA} (h : D.runs = true) (h0 : D.left = 0) : putW D n (b :: l) = ({ D with runs := false }, false) := by
  unfold putW; rw [if_neg (by rw [h]; simp), if_pos h0]
theorem putW_step {D : Dk.St} {n : Nat} {b : BA} {l : List BA} (h : D.runs = true) (h0 : D.left ≠ 0) : putW D n (b :: l) = putW (Dk.wrote D n b) (n + 1) l := by
  rw [putW]; rw [if_neg (by rw [h]; simp), if_neg h0]
/-- The writes of a list's first j sectors, one more in front. -/
theorem wrs_cons (n : Nat) (b : BA) (l : List BA) (j : Nat) : wrs n (b :: l) (j + 1) = (n, b) :: wrs (n + 1) l j := by
  unfold wrs
  rw [List.range_succ_eq_map, List.map_cons, List.map_map]
  congr 1
  refine List.map_congr_left fun k _ => ?_
  simp only [Function.comp, List.getD_cons_succ]
  rw [show n + (k + 1) = n + 1 + k by omega]
theorem wrs_zero (n : Nat) (l : List BA) : wrs n l 0 = [] := rfl
/-- What stands behind it: the first j sectors are pending; all of them, and the disk runs, if it was all written; else the disk has stopped. -/
theorem putW_is : ∀ (l : List BA) (D : Dk.St) (n : Nat), ∃ j, j ≤ l.length ∧ (putW D n l).1.last = D.last ∧ (putW D n l).1.pend = D.pend ++ wrs n l j ∧ ((putW D n l).2 = true → j = l.length ∧ (putW D n l).1.runs = D.runs) ∧ ((putW D n l).2 = false → (putW D n l).1.runs = false)
  | [], D, n => ⟨0, Nat.le_refl _, rfl, by rw [wrs_zero, List.append_nil]; rfl, fun _ => ⟨rfl, rfl⟩, fun h => by cases h⟩
  | b :: l, D, n => by
    cases hr : D.runs with
    | false =>
      rw [putW_dead hr]
      exact ⟨0, Nat.zero_le _, rfl, by rw [wrs_zero, List.append_nil], fun h => (by cases h), fun _ => hr⟩
    | true =>
      by_cases h0 : D.left = 0
      · rw [putW_stop hr h0]
        exact ⟨0, Nat.zero_le _, rfl, by rw [wrs_zero, List.append_nil], fun h => (by cases h), fun _ => rfl⟩
      · rw [putW_step hr h0]
        obtain ⟨j, h1, h2, h3, h4, h5⟩ := putW_is l (Dk.wrote D n b) (n + 1)
        refine ⟨j + 1, by rw [List.length_cons]; omega, h2.trans rfl, ?_, fun h => ?_, h5⟩
        · rw [h3, wrs_cons]
          show (D.pend ++ [(n, b)]) ++ _ = _
          rw [List.append_assoc]; rfl
        · obtain ⟨a1, a2⟩ := h4 h
          exact ⟨by rw [a1, List.length_cons], a2.trans hr⟩
/-- The first k of a list, then the rest. -/
theorem putW_app : ∀ (l m : List BA) (D : Dk.St) (n : Nat), (putW D n l).2 = true → putW D n (l ++ m) = putW (putW D n l).1 (n + l.length) m
  | [], m, D, n, _ => rfl
  | b :: l, m, D, n, h => by
    cases hr : D.runs with
    | false => rw [putW_dead hr] at h; cases h
    | true =>
      by_cases h0 : D.left = 0
      · rw [putW_stop hr h0] at h; cases h
      · rw [putW_step hr h0] at h
        rw [List.cons_append, putW_step hr h0, putW_step hr h0, putW_app l m _ _ h, List.length_cons, show n + 1 + l.length = n + (l.length + 1) by omega]
theorem putW_left : ∀ (l : List BA) (D : Dk.St) (n : Nat), -9223372036854775808 ≤ D.left → D.left ≤ 9223372036854775807 → -9223372036854775808 ≤ (putW D n l).1.left ∧ (putW D n l).1.left ≤ 9223372036854775807
  | [], D, n, h1, h2 => ⟨h1, h2⟩
  | b :: l, D, n, h1, h2 => by
    cases hr : D.runs with
    | false => rw [putW_dead hr]; exact ⟨h1, h2⟩
    | true =>
      by_cases h0 : D.left = 0
      · rw [putW_stop hr h0]; exact ⟨h1, h2⟩
      · rw [putW_step hr h0]
        refine putW_left l _ _ ?_ ?_
        · show _ ≤ (if 0 < D.left then D.left - 1 else D.left)
          split <;> omega
        · show (if 0 < D.left then D.left - 1 else D.left) ≤ _
          split <;> omega
/-- A flush of the disk's side: the batch written, then what is pending made permanent. -/
def flushW (D : Dk.St) (n : Nat) (l : List BA) : Dk.St × Bool :=
  if (putW D n l).2 = true then (if (putW D n l).1.runs = true then (Dk.synced (putW D n l).1, true) else ((putW D n l).1, false)) else ((putW D n l).1, false)
end Go.Proofs.YtnjggoeahaglbaaGreat.Wa
