/- Plain mathematics of maps of pages: bytes as strings, marks, taking and giving back. No program. -/
import Derived.Lib.Strings
import Derived.Lib.TrimByte
import Derived.Lib.Bytealg
import Derived.Lib.Hide
namespace Go.Proofs.YtkbbpdpalfpchaaDoor
set_option linter.unusedVariables false
abbrev BA := List UInt8
def str (b : BA) : ByteArray := ⟨b.toArray⟩
theorem str_size (b : BA) : (str b).size = b.length := by simp [str, ByteArray.size]
theorem str_toList (b : BA) : (str b).data.toList = b := by simp [str]
theorem str_inj {a b : BA} (h : str a = str b) : a = b := by rw [← str_toList a, h, str_toList]
theorem str_data (x : ByteArray) : str x.data.toList = x := by cases x; simp [str]
theorem str_append (x : ByteArray) (l : BA) : x ++ str l = str (x.data.toList ++ l) := by
  apply ByteArray.ext
  rw [ByteArray.data_append]
  apply Array.ext'
  simp [str]
theorem str_join (a b : BA) : str a ++ str b = str (a ++ b) := by rw [str_append, str_toList]
theorem str_list (b : BA) : (str b).toList = b := by rw [ByteArray.toList_eq]; exact str_toList b
theorem extract_str (x : ByteArray) (a b : Nat) : x.extract a b = str ((x.data.toList.drop a).take (b - a)) := by
  rw [← Lib.extract_data, str_data]
theorem cut_str (b : BA) (p q d : Nat) (h : q = p + d) : (str b).extract p q = str ((b.drop p).take d) := by
  subst h
  rw [extract_str, str_toList, Nat.add_sub_cancel_left]
theorem size_data (x : ByteArray) : x.data.toList.length = x.size := (Lib.size_eq x).symm
def zs (n : Nat) : BA := List.replicate n 0
theorem zs_length (n : Nat) : (zs n).length = n := by simp [zs]
theorem zs_drop (n k : Nat) : (zs n).drop k = zs (n - k) := by simp [zs]
/-- Marks of pages: one byte each, 1 or 2, the first two 1, at least 8, at most 64. -/
def Good (m : BA) : Prop := (8 ≤ m.length ∧ m.length ≤ 64) ∧ (m[0]? = some 1 ∧ m[1]? = some 1) ∧ ∀ (i : Nat) x, m[i]? = some x → x = 1 ∨ x = 2
/-- The body of marks. -/
def mk (m : BA) : BA := m ++ zs (240 - m.length)
theorem mk_length {m : BA} (h : m.length ≤ 240) : (mk m).length = 240 := by unfold mk; rw [List.length_append, zs_length]; omega
theorem Good.len {m : BA} (h : Good m) : (mk m).length = 240 := mk_length (by have := h.1; omega)
theorem count12 (m : BA) : m.count 1 + m.count 2 ≤ m.length ∧ (m.count 1 + m.count 2 = m.length ↔ ∀ (i : Nat) x, m[i]? = some x → x = 1 ∨ x = 2) := by
  induction m with
  | nil => simp
  | cons a m ih =>
    obtain ⟨h1, h2⟩ := ih
    rw [List.count_cons, List.count_cons, List.length_cons]
    have hx : (∀ (i : Nat) x, (a :: m)[i]? = some x → x = 1 ∨ x = 2) ↔ (a = 1 ∨ a = 2) ∧ ∀ (i : Nat) x, m[i]? = some x → x = 1 ∨ x = 2 := by
      constructor
      · intro h
        exact ⟨h 0 a rfl, fun i x hi => h (i + 1) x hi⟩
      · rintro ⟨ha, h⟩ i x hi
        cases i with
        | zero => cases hi; exact ha
        | succ i => exact h i x hi
    rw [hx, ← h2]
    by_cases a1 : a = 1
    · subst a1
      simp
      omega
    · by_cases a2 : a = 2
      · subst a2
        simp
        omega
      · simp [a1, a2]
        omega
/-- What the marks' test asks. -/
def fine (m : BA) : Bool := decide (8 ≤ m.length ∧ m.length ≤ 64) && (Lib.hasPrefix m [1, 1] && decide (m.count 1 + m.count 2 = m.length))
theorem fine_iff {m : BA} : fine m = true ↔ Good m := by
  unfold fine Good
  rw [Bool.and_eq_true, Bool.and_eq_true, decide_eq_true_iff, decide_eq_true_iff, (count12 m).2]
  have : Lib.hasPrefix m [1, 1] = true ↔ (m[0]? = some 1 ∧ m[1]? = some 1) := by
    unfold Lib.hasPrefix
    rcases m with _ | ⟨a, _ | ⟨b, m⟩⟩
    · simp
    · simp
    · simp [List.isPrefixOf]
      exact ⟨fun h => ⟨h.1.symm, h.2.symm⟩, fun h => ⟨h.1.symm, h.2.symm⟩⟩
  rw [this]
/-- The marks of a page: those of a map, else none. -/
def marksS (k : Int) (b : BA) : BA := if k = 2 ∧ b.length = 240 then (if fine (Lib.trimRightB b 0) then Lib.trimRightB b 0 else []) else []
theorem trim_mk {m : BA} (h : Good m) : Lib.trimRightB (mk m) 0 = m := by
  have e : (mk m).take m.length = m := by unfold mk; rw [List.take_left']; rfl
  refine (Lib.trimRightB_take (mk m) 0 m.length (by unfold mk; simp) ?_ ?_).trans e
  · intro j b hj hb
    unfold mk at hb
    rw [List.getElem?_append_right hj, zs, List.getElem?_replicate] at hb
    split at hb
    · cases hb; rfl
    · cases hb
  · intro b h0 hb
    unfold mk at hb
    rw [List.getElem?_append_left (by omega)] at hb
    rcases h.2.2 _ _ hb with h | h <;> subst h <;> decide
theorem trim_split (b : BA) : ∃ k, b = Lib.trimRightB b 0 ++ zs k := by
  have key : ∀ l : BA, ∃ k, l = zs k ++ l.dropWhile (· == 0) := by
    intro l
    induction l with
    | nil => exact ⟨0, rfl⟩
    | cons a l ih =>
      by_cases ha : a = 0
      · subst ha
        obtain ⟨k, hk⟩ := ih
        refine ⟨k + 1, ?_⟩
        rw [List.dropWhile_cons_of_pos (by rfl), show zs (k + 1) = 0 :: zs k from List.replicate_succ, List.cons_append, ← hk]
      · refine ⟨0, ?_⟩
        rw [List.dropWhile_cons_of_neg (by simpa using ha)]
        rfl
  obtain ⟨k, hk⟩ := key b.reverse
  refine ⟨k, ?_⟩
  unfold Lib.trimRightB
  have := congrArg List.reverse hk
  rw [List.reverse_reverse, List.reverse_append] at this
  rw [show (zs k).reverse = zs k by simp [zs]] at this
  exact this
theorem marksS_mk {m : BA} (h : Good m) : marksS 2 (mk m) = m := by
  unfold marksS
  rw [if_pos ⟨rfl, h.len⟩, trim_mk h, if_pos (fine_iff.2 h)]
theorem marksS_some {k : Int} {b : BA} (h : marksS k b ≠ []) : k = 2 ∧ Good (marksS k b) ∧ b = mk (marksS k b) := by
  unfold marksS at h ⊢
  by_cases h1 : k = 2 ∧ b.length = 240
  · rw [if_pos h1] at h ⊢
    by_cases h2 : fine (Lib.trimRightB b 0) = true
    · rw [if_pos h2]
      refine ⟨h1.1, fine_iff.1 h2, ?_⟩
      obtain ⟨j, hj⟩ := trim_split b
      have hl := congrArg List.length hj
      rw [List.length_append, zs_length, h1.2] at hl
      unfold mk
      rw [show 240 - (Lib.trimRightB b 0).length = j by omega]
      exact hj
    · rw [if_neg h2] at h
      exact absurd rfl h
  · rw [if_neg h1] at h
    exact absurd rfl h
/-- The marks are none, or good ones. -/
theorem marksS_cases (k : Int) (b : BA) : marksS k b = [] ∨ (k = 2 ∧ Good (marksS k b) ∧ b = mk (marksS k b)) := by
  by_cases h : marksS k b = []
  · exact .inl h
  · exact .inr (marksS_some h)
theorem Good.ne {m : BA} (h : Good m) : m ≠ [] := by rintro rfl; have := h.1.1; simp at this
/-- The first free page. -/
def fst (m : BA) : Nat := m.findIdx (· == 2)
theorem indexByte_findIdx (m : BA) (c : UInt8) : Lib.indexByte m c = if m.findIdx (· == c) = m.length then -1 else (m.findIdx (· == c) : Int) := by
  induction m with
  | nil => simp [Lib.indexByte]
  | cons a m ih =>
    unfold Lib.indexByte
    rw [List.findIdx_cons]
    by_cases ha : (a == c) = true
    · simp [ha]
    · have ha' : (a == c) = false := by simpa using ha
      rw [ha', if_neg (by simp), ih]
      simp only [cond_false, List.length_cons]
      by_cases hm : m.findIdx (· == c) = m.length
      · rw [if_pos hm, if_pos (by rfl), if_pos (by omega)]
      · rw [if_neg hm, if_neg (by simp), if_neg (by omega)]
        simp
theorem fst_le (m : BA) : fst m ≤ m.length := List.findIdx_le_length
theorem fst_none {m : BA} : fst m = m.length ↔ ∀ (i : Nat), m[i]? ≠ some 2 := by
  unfold fst
  rw [List.findIdx_eq_length]
  constructor
  · intro h i hi
    have := h 2 (List.mem_of_getElem? hi)
    simp at this
  · intro h x hx
    obtain ⟨i, hi, rfl⟩ := List.getElem_of_mem hx
    have := h i
    rw [List.getElem?_eq_getElem hi] at this
    simpa using this
theorem fst_at {m : BA} (h : fst m < m.length) : m[fst m]? = some 2 := by
  have this : (m[fst m] == 2) = true := List.findIdx_getElem (xs := m) (p := (· == 2)) (w := h)
  rw [List.getElem?_eq_getElem h]
  have e : m[fst m] = 2 := by simpa using this
  rw [e]
theorem fst_before {m : BA} {i : Nat} (h : i < fst m) : m[i]? ≠ some 2 := by
  intro hi
  have := List.not_of_lt_findIdx (xs := m) (p := (· == 2)) h
  have hl : i < m.length := Nat.lt_of_lt_of_le h (fst_le m)
  rw [List.getElem?_eq_getElem hl] at hi
  have e : m[i] = 2 := by simpa using hi
  simp [e] at this
theorem fst_eq {m : BA} {k : Nat} (hk : m[k]? = some 2) (hb : ∀ (i : Nat), i < k → m[i]? ≠ some 2) : fst m = k := by
  have hl : k < m.length := (List.getElem?_eq_some_iff.1 hk).1
  rcases Nat.lt_trichotomy (fst m) k with h | h | h
  · exact absurd (fst_at (by omega)) (hb _ h)
  · exact h
  · exact absurd hk (fst_before h)
theorem Good.set {m : BA} (h : Good m) {n : Nat} (hn : 2 ≤ n) {x : UInt8} (hx : x = 1 ∨ x = 2) : Good (m.set n x) := by
  obtain ⟨h1, ⟨h2, h3⟩, h4⟩ := h
  refine ⟨by simpa using h1, ⟨?_, ?_⟩, ?_⟩
  · rw [List.getElem?_set_ne (by omega)]; exact h2
  · rw [List.getElem?_set_ne (by omega)]; exact h3
  · intro i y hy
    by_cases e : n = i
    · subst e
      rw [List.getElem?_set] at hy
      split at hy
      · split at hy
        · cases hy; exact hx
        · cases hy
      · exact h4 _ _ hy
    · rw [List.getElem?_set_ne e] at hy
      exact h4 _ _ hy
theorem Good.fst2 {m : BA} (h : Good m) : 2 ≤ fst m := by
  have hl := h.1.1
  apply Nat.le_of_not_lt
  intro hlt
  have ha := fst_at (m := m) (by omega)
  rcases Nat.lt_or_ge (fst m) 1 with e | e
  · rw [show fst m = 0 by omega, h.2.1.1] at ha; cases ha
  · rw [show fst m = 1 by omega, h.2.1.2] at ha; cases ha
/-- One byte of the body written anew. -/
theorem mk_set {m : BA} {n : Nat} (hn : n < m.length) (x : UInt8) : (mk m).take n ++ [x] ++ (mk m).drop (n + 1) = mk (m.set n x) := by
  have e : (mk m).set n x = mk (m.set n x) := by
    unfold mk
    rw [List.set_append_left _ _ hn, List.length_set]
  rw [← e, List.set_eq_take_append_cons_drop, if_pos (by unfold mk; simp; omega)]
  simp
theorem getD_mk {m : BA} {n : Nat} (hn : n < m.length) : (mk m).getD n 0 = m.getD n 0 := by
  unfold mk
  simp [List.getD, List.getElem?_append_left hn]
theorem at_or {m : BA} (h : Good m) {n : Nat} (hn : n < m.length) : m[n]? = some 1 ∨ m[n]? = some 2 := by
  rw [List.getElem?_eq_getElem hn]
  rcases h.2.2 n _ (List.getElem?_eq_getElem hn) with e | e
  · exact .inl (by rw [e])
  · exact .inr (by rw [e])
/-- Is this page used? -/
def usedS (m : BA) (n : Int) : Bool := decide (0 ≤ n ∧ m[n.toNat]? = some 1)
theorem usedS_nat (m : BA) (n : Nat) : usedS m n = decide (m[n]? = some 1) := by unfold usedS; simp
theorem count2_free {m : BA} (h : Good m) : m.count 1 + m.count 2 = m.length := (count12 m).2.2 h.2.2
end Go.Proofs.YtkbbpdpalfpchaaDoor
