/- The log's sectors on the disk: what writes that are pending, what a crash makes of them. -/
import Derived.Test.YtnjggoeahaglbaaGreatWp
import Derived.Test.YtnjggoeahaglbaaGreatDp
namespace Go.Proofs.YtnjggoeahaglbaaGreat.Wa
open Go.RowKit
open Fr
set_option linter.unusedVariables false
/-- The sectors of the log, of all that are on the disk. -/
def part (first sectors : Nat) (l : List BA) : List BA := (l.drop first).take sectors
theorem part_length {first sectors : Nat} {l : List BA} (h : first + sectors ≤ l.length) : (part first sectors l).length = sectors := by
  unfold part
  rw [List.length_take, List.length_drop]; omega
theorem part_at {first sectors : Nat} {l : List BA} {j : Nat} (hj : j < sectors) : (part first sectors l)[j]? = l[first + j]? := by
  unfold part
  rw [List.getElem?_take, if_pos hj, List.getElem?_drop]
/-- The writes of a batch's first j sectors, from position n on. -/
def wrs (n : Nat) (b : List BA) (j : Nat) : List Dk.PW := (List.range j).map fun k => (n + k, b.getD k [])
theorem wrs_length (n : Nat) (b : List BA) (j : Nat) : (wrs n b j).length = j := by simp [wrs]
theorem wrs_succ (n : Nat) (b : List BA) (j : Nat) : wrs n b (j + 1) = wrs n b j ++ [(n + j, b.getD j [])] := by
  unfold wrs
  rw [List.range_succ, List.map_append]; rfl
/-- What writes of a batch make of the disk: those that are kept are there. -/
theorem kept_wrs (l : List BA) (n : Nat) (b : List BA) (keep : List Bool) : ∀ j, n + j ≤ l.length → ∀ t, (Dk.appl l (Dk.kept (wrs n b j) keep))[t]? = if n ≤ t ∧ t < n + j ∧ keep.getD (t - n) false = true then some (b.getD (t - n) []) else l[t]?
  | 0, _, t => by
    rw [show wrs n b 0 = [] from rfl, Dk.kept_nil, Dk.appl_nil, if_neg (by omega)]
  | j + 1, hj, t => by
    have ih := kept_wrs l n b keep j (by omega) t
    rw [wrs_succ, Dk.kept_snoc, wrs_length]
    cases hk : keep.getD j false with
    | true =>
      rw [if_pos rfl, Dk.appl_snoc, List.getElem?_set]
      dsimp only
      rw [Dk.appl_length]
      by_cases e : n + j = t
      · subst e
        rw [if_pos rfl, if_pos (by omega), if_pos ⟨by omega, by omega, by rw [Nat.add_sub_cancel_left]; exact hk⟩, Nat.add_sub_cancel_left]
      · rw [if_neg e, ih]
        by_cases c : n ≤ t ∧ t < n + j ∧ keep.getD (t - n) false = true
        · rw [if_pos c, if_pos ⟨c.1, by omega, c.2.2⟩]
        · rw [if_neg c, if_neg (fun h => c ⟨h.1, by omega, h.2.2⟩)]
    | false =>
      rw [if_neg (by simp), List.append_nil, ih]
      by_cases e : n + j = t
      · subst e
        rw [if_neg (by omega), if_neg (by rintro ⟨_, _, h⟩; rw [Nat.add_sub_cancel_left, hk] at h; cases h)]
      · by_cases c : n ≤ t ∧ t < n + j ∧ keep.getD (t - n) false = true
        · rw [if_pos c, if_pos ⟨c.1, by omega, c.2.2⟩]
        · rw [if_neg c, if_neg (fun h => c ⟨h.1, by omega, h.2.2⟩)]
/-- All of them. -/
theorem appl_wrs (l : List BA) (n : Nat) (b : List BA) : ∀ j, n + j ≤ l.length → ∀ t, (Dk.appl l (wrs n b j))[t]? = if n ≤ t ∧ t < n + j then some (b.getD (t - n) []) else l[t]?
  | 0, _, t => by
    rw [show wrs n b 0 = [] from rfl, Dk.appl_nil, if_neg (by omega)]
  | j + 1, hj, t => by
    have ih := appl_wrs l n b j (by omega) t
    rw [wrs_succ, Dk.appl_snoc, List.getElem?_set]
    dsimp only
    rw [Dk.appl_length]
    by_cases e : n + j = t
    · subst e
      rw [if_pos rfl, if_pos (by omega), if_pos (by omega), Nat.add_sub_cancel_left]
    · rw [if_neg e, ih]
      by_cases c : n ≤ t ∧ t < n + j
      · rw [if_pos c, if_pos (by omega)]
      · rw [if_neg c, if_neg (by omega)]
/-- The log's sectors behind a crash. -/
theorem part_crash {first sectors n j : Nat} {l b : List BA} {keep : List Bool} (hf : first + sectors ≤ l.length) (hn : n + b.length ≤ sectors) (hj : j ≤ b.length) :
    part first sectors (Dk.appl l (Dk.kept (wrs (first + n) b j) keep)) = keptX (part first sectors l) b n (fun t => decide (t < j) && keep.getD t false) := by
  apply List.ext_getElem?
  intro t
  by_cases ht : t < sectors
  · rw [part_at ht, kept_wrs _ _ _ _ _ (by omega), keptX_at _ _ _ _ (by rw [part_length hf]; exact ht)]
    by_cases c : first + n ≤ first + t ∧ first + t < first + n + j ∧ keep.getD (first + t - (first + n)) false = true
    · have e : first + t - (first + n) = t - n := by omega
      rw [e] at c
      rw [if_pos (by rw [e]; exact c), if_pos ⟨by omega, by omega, by rw [decide_eq_true (show t - n < j by omega), c.2.2]; rfl⟩, e]
    · rw [if_neg c, if_neg (fun h => c (by
        obtain ⟨h1, h2, h3⟩ := h
        rw [Bool.and_eq_true, decide_eq_true_eq] at h3
        refine ⟨by omega, by omega, ?_⟩
        rw [show first + t - (first + n) = t - n by omega]
        exact h3.2)), List.getD_eq_getElem?_getD, part_at ht, List.getElem?_eq_getElem (show first + t < l.length by omega)]
      rfl
  · rw [List.getElem?_eq_none (by rw [part_length (by rw [Dk.appl_length]; exact hf)]; omega), List.getElem?_eq_none (by rw [keptX_length, part_length hf]; omega)]
/-- The log's sectors with a batch written. -/
theorem part_write {first sectors n : Nat} {l b : List BA} (hf : first + sectors ≤ l.length) (hn : n + b.length ≤ sectors) :
    part first sectors (Dk.appl l (wrs (first + n) b b.length)) = (part first sectors l).take n ++ (b ++ (part first sectors l).drop (n + b.length)) := by
  have hpl := part_length hf
  apply List.ext_getElem?
  intro t
  have hl1 : ((part first sectors l).take n).length = n := by rw [List.length_take]; omega
  by_cases ht : t < sectors
  · rw [part_at ht, appl_wrs _ _ _ _ (by omega)]
    by_cases c1 : t < n
    · rw [if_neg (by omega), List.getElem?_append_left (by omega), List.getElem?_take, if_pos c1, part_at ht]
    · rw [List.getElem?_append_right (by omega), hl1]
      by_cases c2 : t < n + b.length
      · rw [if_pos (by omega), List.getElem?_append_left (by omega), show first + t - (first + n) = t - n by omega, List.getD_eq_getElem?_getD, List.getElem?_eq_getElem (show t - n < b.length by omega)]; rfl
      · rw [if_neg (by omega), List.getElem?_append_right (by omega), List.getElem?_drop, show n + b.length + (t - n - b.length) = t by omega, part_at ht]
  · rw [List.getElem?_eq_none (by rw [part_length (by rw [Dk.appl_length]; exact hf)]; omega), List.getElem?_eq_none (by rw [List.length_append, List.length_append, hl1, List.length_drop, hpl]; omega)]
end Go.Proofs.YtnjggoeahaglbaaGreat.Wa
