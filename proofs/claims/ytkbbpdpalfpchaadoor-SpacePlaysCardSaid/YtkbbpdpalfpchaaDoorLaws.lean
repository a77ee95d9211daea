/- What the laws share: maps filled from below; facts of marks. -/
import Derived.Test.YtkbbpdpalfpchaaDoorAlive
import Derived.Test.YtkbbpdpalfpchaaDoorBase
namespace Go.Proofs.YtkbbpdpalfpchaaDoor
open Go.ChangeShapes Go.WideShapes Go.ChangeAt Go.RowKit
set_option linter.unusedVariables false
set_option linter.unusedSimpArgs false
/-- The first k of n pages used, the others free. -/
def fillS (n k : Nat) : BA := List.replicate k 1 ++ List.replicate (n - k) 2
theorem fillS_length {n k : Nat} (h : k ≤ n) : (fillS n k).length = n := by unfold fillS; simp; omega
theorem fillS_get {n k : Nat} (h : k ≤ n) (i : Nat) : (fillS n k)[i]? = if i < k then some 1 else if i < n then some 2 else none := by
  unfold fillS
  by_cases hi : i < k
  · rw [List.getElem?_append_left (by simpa using hi), List.getElem?_replicate, if_pos hi, if_pos hi]
  · rw [List.getElem?_append_right (by simpa using hi), List.getElem?_replicate, List.length_replicate, if_neg hi]
    by_cases h2 : i < n
    · rw [if_pos (by omega), if_pos h2]
    · rw [if_neg (by omega), if_neg h2]
theorem fillS_good {n k : Nat} (h8 : 8 ≤ n) (h64 : n ≤ 64) (h2 : 2 ≤ k) (hk : k ≤ n) : Good (fillS n k) := by
  refine ⟨by rw [fillS_length hk]; exact ⟨h8, h64⟩, ⟨by rw [fillS_get hk, if_pos (by omega)], by rw [fillS_get hk, if_pos (by omega)]⟩, fun i x hx => ?_⟩
  rw [fillS_get hk] at hx
  split at hx
  · cases hx; exact .inl rfl
  · split at hx
    · cases hx; exact .inr rfl
    · cases hx
theorem fillS_fst {n k : Nat} (hk : k < n) : fst (fillS n k) = k :=
  fst_eq (by rw [fillS_get (by omega), if_neg (by omega), if_pos hk]) (fun i hi => by rw [fillS_get (by omega), if_pos hi]; decide)
theorem fillS_full (n : Nat) : fst (fillS n n) = (fillS n n).length := fst_none.2 (fun i => by
  rw [fillS_get (Nat.le_refl _)]
  split
  · decide
  · simp)
theorem fillS_set1 {n k : Nat} (hk : k < n) : (fillS n k).set k 1 = fillS n (k + 1) := by
  apply List.ext_getElem?
  intro i
  rw [List.getElem?_set, fillS_get (by omega), fillS_get (by omega), fillS_length (by omega)]
  by_cases e : k = i
  · subst e; simp [hk]
  · rw [if_neg e]
    by_cases h1 : i < k
    · rw [if_pos h1, if_pos (show i < k + 1 by omega)]
    · rw [if_neg h1, if_neg (show ¬ i < k + 1 by omega)]
theorem fillS_set2 {n k : Nat} (hk : k < n) : (fillS n (k + 1)).set k 2 = fillS n k := by
  apply List.ext_getElem?
  intro i
  rw [List.getElem?_set, fillS_get (by omega), fillS_get (by omega), fillS_length (by omega)]
  by_cases e : k = i
  · subst e; simp [hk]
  · rw [if_neg e]
    by_cases h1 : i < k
    · rw [if_pos h1, if_pos (show i < k + 1 by omega)]
    · rw [if_neg h1, if_neg (show ¬ i < k + 1 by omega)]
theorem fillS_used {n k : Nat} (hk : k < n) : usedS (fillS n (k + 1)) k = true := by
  rw [usedS_nat, fillS_get (by omega), if_pos (by omega)]; rfl
theorem newS_fill (n : Nat) : newS n = fillS n 2 := rfl
theorem newS_count {n : Nat} (h : 2 ≤ n) : (((newS n).count 2 : Nat) : Int) = (n : Int) - 2 := by
  have : (newS n).count 2 = n - 2 := by
    unfold newS
    rw [List.count_append, List.count_replicate_self]
    simp
  omega
theorem newS_used1 (n : Nat) : usedS (newS n) 1 = true := by
  have := usedS_nat (newS n) 1
  rw [show ((1 : Nat) : Int) = 1 from rfl] at this
  rw [this]
  rfl
theorem newS_used2 {n : Nat} (h : 2 ≤ n) : usedS (newS n) 2 = false := by
  have := usedS_nat (newS n) 2
  rw [show ((2 : Nat) : Int) = 2 from rfl] at this
  rw [this, newS_fill, fillS_get h, if_neg (by omega)]
  split <;> rfl
theorem used_past (m : BA) : usedS m (m.length : Int) = false := by
  rw [usedS_nat, List.getElem?_eq_none (Nat.le_refl _)]
  rfl
theorem used_below (m : BA) {n : Int} (h : n < 0) : usedS m n = false := decide_eq_false (fun h' => by omega)
theorem marksS_zero : marksS 0 [] = [] := by unfold marksS; rw [if_neg (by rintro ⟨h, _⟩; cases h)]
theorem neq_pages (a0 a1 a2 : Int) (a3 : ByteArray) (b0 b1 b2 : Int) (b3 : ByteArray) (w : World) : (binOp .neq 23 (.agg #[.int .i64 a0, .int .i64 a1, .int .i64 a2, .string a3]) (.agg #[.int .i64 b0, .int .i64 b1, .int .i64 b2, .string b3])).run Tryd.prog w = .ok (.bool (!eqP4 a0 a1 a2 a3 b0 b1 b2 b3)) w := by
  have h := eq_pages a0 a1 a2 a3 b0 b1 b2 b3 w
  rw [run_eql_struct] at h
  rw [run_neq_struct]
  generalize (Op.equalIn 10000 23 (.agg #[.int .i64 a0, .int .i64 a1, .int .i64 a2, .string a3]) (.agg #[.int .i64 b0, .int .i64 b1, .int .i64 b2, .string b3])).run Tryd.prog w = r at *
  cases r with
  | ok b w' =>
    simp only [Result.andThen_ok, Result.ok.injEq, Value.bool.injEq] at h ⊢
    exact ⟨by rw [h.1], h.2⟩
  | _ => simp [Result.andThen] at h
theorem neq_same (a0 a1 a2 : Int) (a3 : ByteArray) (w : World) : (binOp .neq 23 (.agg #[.int .i64 a0, .int .i64 a1, .int .i64 a2, .string a3]) (.agg #[.int .i64 a0, .int .i64 a1, .int .i64 a2, .string a3])).run Tryd.prog w = .ok (.bool false) w := by
  rw [neq_pages, eqP4_iff.2 ⟨rfl, rfl, rfl, rfl⟩]
  rfl
/-- Give, of a map: what it answers. -/
theorem give_ok {m : BA} (hg : Good m) {n : Int} (hn : n ≤ 9223372036854775807) (h : 2 ≤ n ∧ usedS m n = true) (w : World) : Calls Tryd.prog 14 #[pv 2 0 0 (mk m), .int .i64 n] w fun e w' => e = .returned (.tuple #[pv 2 0 0 (mk (m.set n.toNat 2)), .int .i64 0]) ∧ Below w.heap.size w w' := by
  have := give_any 2 0 0 n (mk m) (by rw [hg.len]; omega) hn w
  unfold resGive at this
  dsimp only at this
  rw [marksS_mk hg, if_neg hg.ne, if_pos h] at this
  exact this
theorem give_err {m : BA} (hg : Good m) {n : Int} (hn : n ≤ 9223372036854775807) (h : ¬ (2 ≤ n ∧ usedS m n = true)) (w : World) : Calls Tryd.prog 14 #[pv 2 0 0 (mk m), .int .i64 n] w fun e w' => e = .returned (.tuple #[.agg #[.int .i64 0, .int .i64 0, .int .i64 0, .string ⟨#[]⟩], .int .i64 1]) ∧ Below w.heap.size w w' := by
  have := give_any 2 0 0 n (mk m) (by rw [hg.len]; omega) hn w
  unfold resGive at this
  dsimp only at this
  rw [marksS_mk hg, if_neg hg.ne, if_neg h] at this
  exact this
theorem usedS_range {m : BA} {n : Int} (h : usedS m n = true) : 0 ≤ n ∧ n.toNat < m.length := by
  have h2 := decide_eq_true_iff.1 h
  exact ⟨h2.1, (List.getElem?_eq_some_iff.1 h2.2).1⟩
/-- Taken and given back: as before. -/
theorem take_back {m : BA} (hg : Good m) (hf : fst m < m.length) : (m.set (fst m) 1).set (fst m) 2 = m ∧ usedS (m.set (fst m) 1) (fst m : Int) = true ∧ usedS m (fst m : Int) = false ∧ Good (m.set (fst m) 1) ∧ (m.set (fst m) 1).length = m.length := by
  have h2 := fst_at hf
  refine ⟨?_, ?_, ?_, hg.set hg.fst2 (.inl rfl), by simp⟩
  · rw [List.set_set]
    apply List.ext_getElem?
    intro i
    rw [List.getElem?_set]
    by_cases e : fst m = i
    · subst e; rw [if_pos rfl, if_pos hf, h2]
    · rw [if_neg e]
  · rw [usedS_nat, List.getElem?_set, if_pos rfl, if_pos hf]; rfl
  · rw [usedS_nat, h2]; rfl
/-- How many are used, counted up to j (from -1). -/
def cnt (m : BA) (j : Nat) : Nat := (m.take (j - 1)).count 1
theorem cnt_step (m : BA) (j : Nat) : cnt m (j + 1) = cnt m j + if usedS m ((j : Int) - 1) = true then 1 else 0 := by
  unfold cnt
  cases j with
  | zero => rw [used_below m (by omega)]; simp
  | succ i =>
    rw [show (((i + 1 : Nat) : Int) - 1) = (i : Int) by omega, usedS_nat, show i + 1 + 1 - 1 = i + 1 by omega, show i + 1 - 1 = i by omega, List.take_add_one, List.count_append]
    congr 1
    cases h : m[i]? with
    | none => simp
    | some a => by_cases ha : a = 1 <;> simp [ha]
theorem cnt_all (m : BA) {j : Nat} (h : m.length < j) : cnt m j = m.count 1 := by
  unfold cnt
  rw [List.take_of_length_le (by omega)]
theorem cnt_le (m : BA) (j : Nat) : cnt m j ≤ m.length := by
  unfold cnt
  exact Nat.le_trans List.count_le_length (by rw [List.length_take]; omega)
theorem Good.used0 {m : BA} (h : Good m) : usedS m 0 = true ∧ usedS m 1 = true := by
  have h0 := usedS_nat m 0
  have h1 := usedS_nat m 1
  rw [show ((0 : Nat) : Int) = 0 from rfl, h.2.1.1] at h0
  rw [show ((1 : Nat) : Int) = 1 from rfl, h.2.1.2] at h1
  exact ⟨h0.trans rfl, h1.trans rfl⟩
/-- The least free page behind a giving. -/
theorem fst_set2 {m : BA} {k : Nat} (hu : usedS m k = true) : fst (m.set k 2) = min (fst m) k := by
  have hk := usedS_lt hu
  rw [usedS_nat, decide_eq_true_iff] at hu
  have hf := fst_le m
  by_cases h : fst m < k
  · rw [Nat.min_eq_left (by omega)]
    apply fst_eq
    · rw [List.getElem?_set, if_neg (by omega)]; exact fst_at (by omega)
    · intro i hi
      rw [List.getElem?_set, if_neg (by omega)]
      exact fst_before hi
  · have hne : fst m ≠ k := by
      rintro e
      have := fst_at (m := m) (by omega)
      rw [e, hu] at this
      cases this
    rw [Nat.min_eq_right (by omega)]
    apply fst_eq
    · rw [List.getElem?_set, if_pos rfl, if_pos hk]
    · intro i hi
      rw [List.getElem?_set, if_neg (by omega)]
      exact fst_before (by omega)
end Go.Proofs.YtkbbpdpalfpchaaDoor
