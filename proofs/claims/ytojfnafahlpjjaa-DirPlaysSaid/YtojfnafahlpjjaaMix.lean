/- Rows of the law's own: one cell read, set; entries set one by one. -/
import Derived.Test.YtojfnafahlpjjaaPlay
namespace Go.Proofs.Ytojfnafahlpjjaa
open Go.ChangeShapes Go.WideShapes Go.ChangeAt Go.RowKit
set_option linter.unusedVariables false
set_option linter.unusedSimpArgs false
theorem own_at {w : World} {B e s n c : Nat} {A : Option Addr} {xs : List Value} (h : w.ownsRow B e s (.slice A n c) n xs) (hn : 0 < n) : ∃ g, A = some ⟨g, 0, none⟩ ∧ B ≤ g := by
  rcases h.2 with ⟨h1, _⟩ | ⟨g, cap, cur, h1, h2, _⟩
  · simp only [Value.slice.injEq] at h1; omega
  · simp only [Value.slice.injEq] at h1
    exact ⟨g, h1.1, h2⟩
theorem own_cell {w : World} {B n c g i : Nat} {l : List Int} (h : w.ownsRow B 3 1 (.slice (some ⟨g, 0, none⟩) n c) n (l.map (Value.int .i64))) (hi : i < l.length) : w.cell? ⟨g, i, none⟩ = some (.int .i64 (l.getD i 0)) ∧ w.frozen? ⟨g, i, none⟩ = false := by
  refine ⟨?_, ?_⟩
  · have := h.cells (g := g) rfl i (.int .i64 (l.getD i 0)) (by simp [List.getD, hi])
    rw [add_plain, Nat.zero_add] at this
    exact this
  · rcases h.2 with ⟨h1, _⟩ | ⟨g', cap, cur, h1, _, h2, _⟩
    · simp at h1
    · simp only [Value.slice.injEq, Option.some.injEq, Addr.mk.injEq, and_true] at h1
      obtain ⟨rfl, _⟩ := h1
      exact Lib.frozen_of_heap h2 _
theorem row_cap {w : World} {A : Option Addr} {n c : Nat} {l : List Int} (h : Row w A n c l) (hn : 0 < n) : n ≤ c := by
  rcases h.2.2 with ⟨h1, _⟩ | ⟨g, cap, cur, h1, _, _, h2, _⟩
  · simp only [Value.slice.injEq] at h1; omega
  · simp only [Value.slice.injEq] at h1; omega
theorem own_take {w : World} {A : Option Addr} {n c M : Nat} {l : List Int} (h : Row w A n c l) (hM : M ≤ n) : w.ownsRow 0 3 1 (.slice A M c) M ((l.take M).map (Value.int .i64)) := by
  have hl := h.1
  refine ⟨by simp; omega, ?_⟩
  rcases h.2.2 with ⟨h1, h2⟩ | ⟨g, cap, cur, h1, h2, h3, h4, h5, h6, h7⟩
  · simp only [Value.slice.injEq] at h1
    obtain ⟨rfl, h0, rfl⟩ := h1
    have hM0 : M = 0 := by omega
    subst hM0
    exact .inl ⟨rfl, by simp⟩
  · simp only [Value.slice.injEq] at h1
    obtain ⟨rfl, _, rfl⟩ := h1
    refine .inr ⟨g, c, cur, rfl, h2, h3, by omega, h5, h6, ?_⟩
    rw [List.map_take, ← h7, List.take_take]
    congr 1
    omega
/-- The entries behind i rounds of setting. -/
def mixS (l : List Int) (b d : Nat) (n : Int) (i : Nat) : List Int := (setS l b d n).take i ++ l.drop i
theorem setS_length (l : List Int) (b d : Nat) (n : Int) : (setS l b d n).length = l.length := by unfold setS; rw [tabF_length]
theorem mixS_length {l : List Int} {b d i : Nat} {n : Int} (h : i ≤ l.length) : (mixS l b d n i).length = l.length := by
  unfold mixS
  rw [List.length_append, List.length_take, List.length_drop, setS_length]
  omega
theorem mixS_zero (l : List Int) (b d : Nat) (n : Int) : mixS l b d n 0 = l := by simp [mixS]
theorem mixS_all (l : List Int) (b d : Nat) (n : Int) : mixS l b d n l.length = setS l b d n := by
  unfold mixS
  rw [List.drop_length, List.append_nil, ← setS_length l b d n, List.take_length]
theorem mixS_get {l : List Int} {b d i : Nat} {n : Int} (h : i ≤ l.length) (j : Nat) : (mixS l b d n i)[j]? = if j < i then (setS l b d n)[j]? else l[j]? := by
  unfold mixS
  by_cases hj : j < i
  · rw [if_pos hj, List.getElem?_append_left (by rw [List.length_take, setS_length]; omega), List.getElem?_take, if_pos hj]
  · rw [if_neg hj, List.getElem?_append_right (by rw [List.length_take, setS_length]; omega), List.length_take, setS_length, List.getElem?_drop]
    congr 1
    omega
theorem setS_get {l : List Int} {b d i : Nat} {n : Int} (hi : i < l.length) : (setS l b d n)[i]? = some (if i % 2 ^ d = b then n else l.getD i 0) := by
  have h := setS_getD (l := l) (bits := b) (depth := d) (n := n) hi
  rw [← h, List.getD_eq_getElem?_getD, List.getElem?_eq_getElem (by rw [setS_length]; exact hi)]
  rfl
theorem mixS_yes {l : List Int} {b d i : Nat} {n : Int} (hi : i < l.length) (hb : i % 2 ^ d = b) : (mixS l b d n i).set i n = mixS l b d n (i + 1) := by
  apply List.ext_getElem?
  intro j
  rw [List.getElem?_set, mixS_get (by omega), mixS_get (by omega), mixS_length (by omega)]
  by_cases h : i = j
  · subst h
    rw [if_pos rfl, if_pos hi, if_pos (by omega), setS_get hi, if_pos hb]
  · rw [if_neg h]
    by_cases h2 : j < i
    · rw [if_pos h2, if_pos (by omega)]
    · rw [if_neg h2, if_neg (by omega)]
theorem mixS_no {l : List Int} {b d i : Nat} {n : Int} (hi : i < l.length) (hb : i % 2 ^ d ≠ b) : mixS l b d n i = mixS l b d n (i + 1) := by
  apply List.ext_getElem?
  intro j
  rw [mixS_get (by omega), mixS_get (by omega)]
  by_cases h : i = j
  · subst h
    rw [if_neg (by omega), if_pos (by omega), setS_get hi, if_neg hb, List.getElem?_eq_getElem hi]
    simp [List.getD, hi]
  · by_cases h2 : j < i
    · rw [if_pos h2, if_pos (by omega)]
    · rw [if_neg h2, if_neg (by omega)]
end Go.Proofs.Ytojfnafahlpjjaa
