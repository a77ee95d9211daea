/- What the law SpacePlays wants: both sides together. -/
import Derived.Test.YtkbbpdpalfpchaaDoorLaws
import Derived.Test.YtkbbpdpalfpchaaDoorRef
namespace Go.Proofs.YtkbbpdpalfpchaaDoor
open Go.ChangeShapes Go.WideShapes Go.ChangeAt Go.RowKit
set_option linter.unusedVariables false
set_option linter.unusedSimpArgs false
/-- A byte of a map, where there is one. -/
theorem marks_get {k : Int} {b : BA} {i : Nat} (hi : i < (marksS k b).length) : i < b.length ∧ b.getD i 0 = (marksS k b).getD i 0 := by
  rcases marksS_cases k b with h | ⟨_, hg, hb⟩
  · rw [h] at hi; simp at hi
  · have hl := hg.1
    have hbl : b.length = 240 := by rw [hb, hg.len]
    refine ⟨by omega, ?_⟩
    rw [show b.getD i 0 = (mk (marksS k b)).getD i 0 by rw [← hb], getD_mk hi]
theorem run_ixm {k : Int} {b : BA} {i : Nat} (hi : i < (marksS k b).length) (w : World) : (Instr.index 9 (.string (str b)) (.int .i64 i)).run Tryd.prog w = .ok (.int .u8 (((marksS k b).getD i 0).toNat : Int)) w := by
  have h := marks_get hi
  rw [run_ix b i h.1 w, h.2]
/-- A mark is 1 or 2. -/
theorem mark_or {k : Int} {b : BA} {i : Nat} (hi : i < (marksS k b).length) : ((marksS k b).getD i 0 = 1 ∧ (marksS k b)[i]? = some 1) ∨ ((marksS k b).getD i 0 = 2 ∧ (marksS k b)[i]? = some 2) := by
  rcases marksS_cases k b with h | ⟨_, hg, hb⟩
  · rw [h] at hi; simp at hi
  · rcases at_or hg hi with e | e
    · exact .inl ⟨by rw [List.getD_eq_getElem?_getD, e]; rfl, e⟩
    · exact .inr ⟨by rw [List.getD_eq_getElem?_getD, e]; rfl, e⟩
def fr (m : BA) (i : Nat) : Nat := (m.take i).count 2
theorem fr_step {m : BA} {i : Nat} {c : UInt8} (h : m[i]? = some c) : fr m (i + 1) = fr m i + if c = 2 then 1 else 0 := by
  unfold fr
  rw [List.take_add_one, List.count_append, h]
  by_cases hc : c = 2 <;> simp [hc]
theorem fr_all (m : BA) : fr m m.length = m.count 2 := by unfold fr; rw [List.take_length]
theorem fr_le (m : BA) (i : Nat) : fr m i ≤ m.length := by
  unfold fr
  exact Nat.le_trans List.count_le_length (by rw [List.length_take]; omega)
theorem marks_le (k : Int) (b : BA) : (marksS k b).length ≤ 64 := by
  rcases marksS_cases k b with h | ⟨_, hg, _⟩
  · rw [h]; simp
  · exact hg.1.2
theorem eq_zero (w : World) : (binOp .neq 23 (.agg #[.int .i64 0, .int .i64 0, .int .i64 0, .string ⟨#[]⟩]) (.agg #[.int .i64 0, .int .i64 0, .int .i64 0, .string ⟨#[]⟩])).run Tryd.prog w = .ok (.bool false) w := neq_same 0 0 0 ⟨#[]⟩ w
theorem used_out {m : BA} {n : Int} (h : n < 0 ∨ (m.length : Int) ≤ n) : usedS m n = false := by
  refine decide_eq_false ?_
  rintro ⟨h0, h1⟩
  have := (List.getElem?_eq_some_iff.1 h1).1
  omega
theorem used_in {m : BA} {i : Nat} {c : UInt8} (h : m[i]? = some c) : usedS m (i : Int) = decide (c = 1) := by
  rw [usedS_nat, h]
  by_cases hc : c = 1 <;> simp [hc]
end Go.Proofs.YtkbbpdpalfpchaaDoor
