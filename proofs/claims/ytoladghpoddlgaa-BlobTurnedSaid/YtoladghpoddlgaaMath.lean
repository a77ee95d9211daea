/- Plain mathematics of values in pages: how many pages, what they hold, what is read of pages. No program. -/
import Derived.Test.YtoladghpoddlgaaPlain
namespace Go.Proofs.Ytoladghpoddlgaa
set_option linter.unusedVariables false
/-- How many pages a value of n bytes takes. -/
def pagesN (n : Int) : Nat := if n ≤ 40 then 0 else if n ≤ 200 then 1 else if n ≤ 400 then 2 else 0
theorem pagesN_small {n : Int} (h : n ≤ 40) : pagesN n = 0 := by unfold pagesN; rw [if_pos h]
theorem pagesN_one {n : Int} (h : 40 < n) (h2 : n ≤ 200) : pagesN n = 1 := by unfold pagesN; rw [if_neg (by omega), if_pos h2]
theorem pagesN_two {n : Int} (h : 200 < n) (h2 : n ≤ 400) : pagesN n = 2 := by unfold pagesN; rw [if_neg (by omega), if_neg (by omega), if_pos h2]
theorem pagesN_big {n : Int} (h : 400 < n) : pagesN n = 0 := by unfold pagesN; rw [if_neg (by omega), if_neg (by omega), if_neg (by omega)]
theorem pagesN_le (n : Int) : pagesN n ≤ 2 := by unfold pagesN; split; omega; split; omega; split <;> omega
theorem pagesN_is (n : Int) : (pagesN n = 0 ∧ (n ≤ 40 ∨ 400 < n)) ∨ (pagesN n = 1 ∧ 40 < n ∧ n ≤ 200) ∨ (pagesN n = 2 ∧ 200 < n ∧ n ≤ 400) := by
  by_cases h1 : n ≤ 40
  · exact .inl ⟨pagesN_small h1, .inl h1⟩
  · by_cases h2 : n ≤ 200
    · exact .inr (.inl ⟨pagesN_one (by omega) h2, by omega, h2⟩)
    · by_cases h3 : n ≤ 400
      · exact .inr (.inr ⟨pagesN_two (by omega) h3, by omega, h3⟩)
      · exact .inl ⟨pagesN_big (by omega), .inr (by omega)⟩
/-- A page's number that a value's page may have. -/
def rightN (x : Int) : Bool := decide (2 ≤ x ∧ x < 64)
theorem rightN_iff {x : Int} : rightN x = true ↔ 2 ≤ x ∧ x < 64 := decide_eq_true_iff
theorem rightN_no {x : Int} (h : ¬ (2 ≤ x ∧ x < 64)) : rightN x = false := decide_eq_false h
/-- May these be a value's pages? -/
def rightL (l : List Int) : Bool := (List.range l.length).all fun i => rightN (l.getD i 0) && !((l.take i).contains (l.getD i 0))
theorem rightL_iff {l : List Int} : rightL l = true ↔ ∀ i, i < l.length → rightN (l.getD i 0) = true ∧ (l.take i).contains (l.getD i 0) = false := by
  unfold rightL
  rw [List.all_eq_true]
  constructor
  · intro h i hi
    have := h i (List.mem_range.2 hi)
    rw [Bool.and_eq_true, Bool.not_eq_true'] at this
    exact this
  · intro h i hi
    obtain ⟨h1, h2⟩ := h i (List.mem_range.1 hi)
    rw [Bool.and_eq_true, Bool.not_eq_true']
    exact ⟨h1, h2⟩
theorem rightL_no {l : List Int} {i : Nat} (hi : i < l.length) (h : rightN (l.getD i 0) = false ∨ (l.take i).contains (l.getD i 0) = true) : rightL l = false := by
  cases g : rightL l with
  | false => rfl
  | true =>
    obtain ⟨h1, h2⟩ := rightL_iff.1 g i hi
    rcases h with h | h
    · rw [h1] at h; cases h
    · rw [h2] at h; cases h
theorem rightL_one (a : Int) : rightL [a] = rightN a := by simp [rightL]
theorem rightL_pair (a b : Int) : rightL [a, b] = (rightN a && (rightN b && decide (b ≠ a))) := by
  unfold rightL
  rw [show List.range [a, b].length = [0, 1] from rfl]
  simp only [List.all_cons, List.all_nil, Bool.and_true, List.getD_cons_zero, List.getD_cons_succ, List.take_zero, List.take_succ_cons, List.contains_nil, List.contains_cons, Bool.or_false, Bool.not_false]
  by_cases h : b = a
  · subst h; simp
  · rw [beq_eq_false_iff_ne.2 h, decide_eq_true h]; rfl
theorem rightL_two {a b : Int} (h : rightL [a, b] = true) : (2 ≤ a ∧ a < 64) ∧ (2 ≤ b ∧ b < 64) ∧ a ≠ b := by
  rw [rightL_pair] at h
  simp only [Bool.and_eq_true, rightN_iff, decide_eq_true_iff] at h
  exact ⟨h.1, h.2.1, fun e => h.2.2 e.symm⟩
/-- A page of a value: of d, filled with zeros. -/
def pgOf (x : Int) (d : BA) : Pg := ⟨5, 0, x, str (d ++ zs (240 - d.length))⟩
/-- The number of the page behind the i-th. -/
def nextN (l : List Int) (i : Nat) : Int := if i + 1 = l.length then 0 else l.getD (i + 1) 0
/-- May a value of these bytes be put into these pages? -/
def fitN (n : Int) (k : Nat) : Bool := decide (0 < k) && decide (pagesN n = k)
theorem fitN_iff {n : Int} {k : Nat} : fitN n k = true ↔ 0 < k ∧ pagesN n = k := by unfold fitN; rw [Bool.and_eq_true, decide_eq_true_iff, decide_eq_true_iff]
theorem fitN_is {n : Int} {k : Nat} (h : fitN n k = true) : (k = 1 ∧ 40 < n ∧ n ≤ 200) ∨ (k = 2 ∧ 200 < n ∧ n ≤ 400) := by
  obtain ⟨h1, h2⟩ := fitN_iff.1 h
  rcases pagesN_is n with ⟨e, _⟩ | ⟨e, _, _⟩ | ⟨e, _, _⟩ <;> omega
def putOk (v : BA) (l : List Int) : Bool := fitN v.length l.length && rightL l
/-- The i-th of the pages. -/
def pageAt (v : BA) (l : List Int) (i : Nat) : Pg := pgOf (nextN l i) ((v.drop (200 * i)).take 200)
def pagesL (v : BA) (l : List Int) (i : Nat) : List Pg := (List.range i).map (pageAt v l)
theorem pagesL_length (v : BA) (l : List Int) (i : Nat) : (pagesL v l i).length = i := by simp [pagesL]
theorem pagesL_succ (v : BA) (l : List Int) (i : Nat) : pagesL v l (i + 1) = pagesL v l i ++ [pageAt v l i] := by simp [pagesL, List.range_succ]
/-- The pages. -/
def putS (v : BA) (l : List Int) : List Pg := if putOk v l = true then pagesL v l l.length else []
theorem putS_no {v : BA} {l : List Int} (h : putOk v l = false) : putS v l = [] := by unfold putS; rw [if_neg (by rw [h]; decide)]
theorem putS_yes {v : BA} {l : List Int} (h : putOk v l = true) : putS v l = pagesL v l l.length := by unfold putS; rw [if_pos h]
theorem putOk_len {v : BA} {l : List Int} (h : putOk v l = true) : (l.length = 1 ∧ 40 < v.length ∧ v.length ≤ 200 ∧ rightL l = true) ∨ (l.length = 2 ∧ 200 < v.length ∧ v.length ≤ 400 ∧ rightL l = true) := by
  unfold putOk at h
  rw [Bool.and_eq_true] at h
  obtain ⟨h2, h3⟩ := h
  rcases fitN_is h2 with ⟨e, _, _⟩ | ⟨e, _, _⟩
  · exact .inl ⟨by omega, by omega, by omega, h3⟩
  · exact .inr ⟨by omega, by omega, by omega, h3⟩
theorem putS_one {v : BA} {a : Int} (h : putOk v [a] = true) : putS v [a] = [pgOf 0 v] := by
  rw [putS_yes h]
  have hl : v.length ≤ 200 := by
    rcases putOk_len h with h | h
    · exact h.2.2.1
    · have := h.1; simp at this
  simp [pagesL, pageAt, nextN, List.take_of_length_le hl]
theorem putS_two {v : BA} {a b : Int} (h : putOk v [a, b] = true) : putS v [a, b] = [pgOf b (v.take 200), pgOf 0 (v.drop 200)] := by
  rw [putS_yes h]
  have hl : v.length ≤ 400 := by
    rcases putOk_len h with h | h
    · have := h.1; simp at this
    · exact h.2.2.1
  have e : (v.drop 200).take 200 = v.drop 200 := List.take_of_length_le (by rw [List.length_drop]; omega)
  unfold pagesL
  rw [show List.range [a, b].length = [0, 1] from rfl]
  simp [pageAt, nextN, e]
theorem putOk_fits {v : BA} {l : List Int} (h : fitN v.length l.length = false) : putOk v l = false := by unfold putOk; rw [h]; rfl
theorem putOk_right {v : BA} {l : List Int} (h : fitN v.length l.length = true) : putOk v l = rightL l := by unfold putOk; rw [h]; rfl
/-- A page that may hold n bytes of a value. -/
def holdB (p : Pg) (n : Nat) : Bool := decide (p.k = 5 ∧ p.b.size = 240 ∧ p.b.data.toList.drop n = zs (240 - n))
/-- How many bytes of n stand in the i-th page. -/
def hereN (n : Int) (i : Nat) : Nat := min (n.toNat - 200 * i) 200
def okAt (n : Int) (l : List Pg) (i : Nat) : Bool := decide ((i + 1 = l.length) ↔ (l.getD i nilP).x = 0) && holdB (l.getD i nilP) (hereN n i)
/-- What Get answers. -/
def getOk (n : Int) (l : List Pg) : Bool := fitN n l.length && (List.range l.length).all (okAt n l)
def bytesL (n : Int) (l : List Pg) (i : Nat) : BA := (List.range i).flatMap fun j => (l.getD j nilP).b.data.toList.take (hereN n j)
theorem bytesL_succ (n : Int) (l : List Pg) (i : Nat) : bytesL n l (i + 1) = bytesL n l i ++ (l.getD i nilP).b.data.toList.take (hereN n i) := by
  unfold bytesL
  rw [List.range_succ, List.flatMap_append]
  simp
def getS (n : Int) (l : List Pg) : BA := if getOk n l = true then bytesL n l l.length else []
theorem getS_no {n : Int} {l : List Pg} (h : getOk n l = false) : getS n l = [] := by unfold getS; rw [if_neg (by rw [h]; decide)]
theorem getS_yes {n : Int} {l : List Pg} (h : getOk n l = true) : getS n l = bytesL n l l.length := by unfold getS; rw [if_pos h]
theorem getOk_iff {n : Int} {l : List Pg} : getOk n l = true ↔ fitN n l.length = true ∧ ∀ i, i < l.length → okAt n l i = true := by
  unfold getOk
  rw [Bool.and_eq_true, List.all_eq_true]
  exact ⟨fun h => ⟨h.1, fun i hi => h.2 i (List.mem_range.2 hi)⟩, fun h => ⟨h.1, fun i hi => h.2 i (List.mem_range.1 hi)⟩⟩
theorem getOk_fits {n : Int} {l : List Pg} (h : fitN n l.length = false) : getOk n l = false := by unfold getOk; rw [h]; rfl
theorem getOk_not {n : Int} {l : List Pg} {i : Nat} (hi : i < l.length) (h : okAt n l i = false) : getOk n l = false := by
  cases g : getOk n l with
  | false => rfl
  | true => rw [(getOk_iff.1 g).2 i hi] at h; cases h
theorem holdB_iff {p : Pg} {n : Nat} : holdB p n = true ↔ p.k = 5 ∧ p.b.size = 240 ∧ p.b.data.toList.drop n = zs (240 - n) := decide_eq_true_iff
/-- All pages ahead of the i-th are full: so many bytes were read. -/
theorem bytesL_length {n : Int} {l : List Pg} (h : fitN n l.length = true) : ∀ i, i ≤ l.length → (∀ j, j < i → okAt n l j = true) → (bytesL n l i).length = min n.toNat (200 * i)
  | 0, _, _ => by simp [bytesL]
  | i + 1, hi, ho => by
    have ih := bytesL_length h i (by omega) fun j hj => ho j (by omega)
    have hk := ho i (by omega)
    unfold okAt at hk
    rw [Bool.and_eq_true, holdB_iff] at hk
    rw [bytesL_succ, List.length_append, ih, List.length_take, size_data, hk.2.2.1]
    unfold hereN
    rcases fitN_is h with ⟨e, _, _⟩ | ⟨e, _, _⟩ <;> omega
theorem pgOf_size (x : Int) (d : BA) (h : d.length ≤ 240) : (pgOf x d).b.size = 240 := by
  show (str _).size = 240
  rw [str_size, List.length_append, zs_length]; omega
theorem pgOf_holds (x : Int) (d : BA) (h : d.length ≤ 240) : holdB (pgOf x d) d.length = true := by
  refine holdB_iff.2 ⟨rfl, pgOf_size x d h, ?_⟩
  show (str _).data.toList.drop _ = _
  rw [str_toList, List.drop_left' rfl]
theorem pgOf_take (x : Int) (d : BA) : (pgOf x d).b.data.toList.take d.length = d := by
  show (str _).data.toList.take _ = _
  rw [str_toList, List.take_left' rfl]
theorem pgOf_x (x : Int) (d : BA) : (pgOf x d).x = x := rfl
/-- One page, two pages. -/
theorem getOk_one {n : Int} {p : Pg} (h : 40 < n) (h2 : n ≤ 200) : getOk n [p] = (decide (p.x = 0) && holdB p n.toNat) := by
  have e : fitN n 1 = true := fitN_iff.2 ⟨by omega, pagesN_one h h2⟩
  have e2 : hereN n 0 = n.toNat := by unfold hereN; omega
  unfold getOk okAt
  rw [show List.range [p].length = [0] from rfl]
  simp [e, e2]
theorem getOk_two {n : Int} {p q : Pg} (h : 200 < n) (h2 : n ≤ 400) : getOk n [p, q] = ((decide (p.x ≠ 0) && holdB p 200) && (decide (q.x = 0) && holdB q (n.toNat - 200))) := by
  have e : fitN n 2 = true := fitN_iff.2 ⟨by omega, pagesN_two h h2⟩
  have e2 : hereN n 0 = 200 := by unfold hereN; omega
  have e3 : hereN n 1 = n.toNat - 200 := by unfold hereN; omega
  unfold getOk okAt
  rw [show List.range [p, q].length = [0, 1] from rfl]
  simp [e, e2, e3]
theorem getS_one {n : Int} {p : Pg} (h : 40 < n) (h2 : n ≤ 200) (hg : getOk n [p] = true) : getS n [p] = p.b.data.toList.take n.toNat := by
  have e2 : hereN n 0 = n.toNat := by unfold hereN; omega
  rw [getS_yes hg]
  simp [bytesL, e2]
theorem getS_two {n : Int} {p q : Pg} (h : 200 < n) (h2 : n ≤ 400) (hg : getOk n [p, q] = true) : getS n [p, q] = p.b.data.toList.take 200 ++ q.b.data.toList.take (n.toNat - 200) := by
  have e2 : hereN n 0 = 200 := by unfold hereN; omega
  have e3 : hereN n 1 = n.toNat - 200 := by unfold hereN; omega
  rw [getS_yes hg]
  unfold bytesL
  rw [show List.range [p, q].length = [0, 1] from rfl]
  simp [e2, e3]
/-- What was put is read back. -/
theorem get_put {v : BA} {l : List Int} (h : putOk v l = true) : getOk v.length (putS v l) = true ∧ getS v.length (putS v l) = v := by
  rcases putOk_len h with ⟨h1, h2, h3, h4⟩ | ⟨h1, h2, h3, h4⟩
  · obtain ⟨a, rfl⟩ := List.length_eq_one_iff.1 h1
    rw [putS_one h]
    have g : getOk v.length [pgOf 0 v] = true := by
      rw [getOk_one (by omega) (by omega), pgOf_x, Int.toNat_natCast, pgOf_holds 0 v (by omega)]
      rfl
    refine ⟨g, ?_⟩
    rw [getS_one (by omega) (by omega) g, Int.toNat_natCast, pgOf_take]
  · obtain ⟨a, b, rfl⟩ : ∃ a b, l = [a, b] := by
      rcases l with _ | ⟨a, _ | ⟨b, _ | ⟨c, l⟩⟩⟩ <;> simp at h1
      exact ⟨a, b, rfl⟩
    rw [putS_two h]
    obtain ⟨_, hb, _⟩ := rightL_two h4
    have l1 : (v.take 200).length = 200 := by rw [List.length_take]; omega
    have l2 : (v.drop 200).length = v.length - 200 := List.length_drop
    have e2 := pgOf_holds b (v.take 200) (by omega)
    have e3 := pgOf_holds 0 (v.drop 200) (by omega)
    rw [l1] at e2
    rw [l2] at e3
    have e4 : b ≠ 0 := by omega
    have g : getOk v.length [pgOf b (v.take 200), pgOf 0 (v.drop 200)] = true := by
      rw [getOk_two (by omega) (by omega), pgOf_x, pgOf_x, Int.toNat_natCast, e2, e3, decide_eq_true e4]
      rfl
    refine ⟨g, ?_⟩
    have t1 := pgOf_take b (v.take 200)
    have t2 := pgOf_take 0 (v.drop 200)
    rw [l1] at t1
    rw [l2] at t2
    rw [getS_two (by omega) (by omega) g, Int.toNat_natCast, t1, t2, List.take_append_drop]
end Go.Proofs.Ytoladghpoddlgaa
