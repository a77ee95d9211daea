/- Put of numbers in a row of the caller's own. -/
import Derived.Test.YtoladghpoddlgaaAsk
import Derived.Test.YtoladghpoddlgaaLentI
namespace Go.Proofs.Ytoladghpoddlgaa
open Go.ChangeShapes Go.WideShapes Go.ChangeAt Go.RowKit
set_option linter.unusedVariables false
set_option linter.unusedSimpArgs false
set_option maxRecDepth 100000
theorem own_nums {B n c : Nat} {w : World} {A : Option Addr} {l : List Int} (h : w.ownsRow B 3 1 (.slice A n c) n (l.map (Value.int .i64))) : I.Nums w.heap.size w (.slice A n c) l := by
  have hl : n = l.length := by have := h.1; simp at this; omega
  exact I.Row.nums ⟨hl, own_base h (Nat.zero_le _)⟩
theorem own_cap {B n c : Nat} {w : World} {A : Option Addr} {xs : List Value} {e s : Nat} (h : w.ownsRow B e s (.slice A n c) n xs) : n ≤ c ∨ n = 0 := by
  rcases h.2 with ⟨h1, h2⟩ | ⟨g, cap, cur, h1, _, _, h4, _⟩
  · exact .inr h2
  · simp only [Value.slice.injEq] at h1
    obtain ⟨_, _, rfl⟩ := h1
    exact .inl h4
theorem put_own2 {B c : Nat} {A : Option Addr} (v : BA) (a b : Int) (hf : putOk v [a, b] = true) (w : World) (h : w.ownsRow B 3 1 (.slice A 2 c) 2 [.int .i64 a, .int .i64 b]) : Calls Try.prog 10 #[.string (str v), .slice A 2 c] w fun e w' => Put2 (pgOf b (v.take 200)) (pgOf 0 (v.drop 200)) w e w' := by
  have hc : 2 ≤ c := by rcases own_cap h with h | h <;> omega
  refine (put_any v w (own_nums (l := [a, b]) h) (Nat.le_refl _) (by omega) hc).mono ?_
  rintro e w' ⟨A, c, h1, h2, h3⟩
  rw [putS_two hf, hf] at h1
  rw [putS_two hf] at h2
  obtain ⟨g, rfl, h4, h5, h6⟩ := own_cells h2 rfl (by simp)
  exact ⟨g, c, h1, h4, h5, h6 0 (by simp), h6 1 (by simp), h2, h3⟩
theorem put_own1 {B c : Nat} {A : Option Addr} (v : BA) (a : Int) (hf : putOk v [a] = true) (w : World) (h : w.ownsRow B 3 1 (.slice A 1 c) 1 [.int .i64 a]) : Calls Try.prog 10 #[.string (str v), .slice A 1 c] w fun e w' => Put1 (pgOf 0 v) w e w' := by
  have hc : 1 ≤ c := by rcases own_cap h with h | h <;> omega
  refine (put_any v w (own_nums (l := [a]) h) (Nat.le_refl _) (by omega) hc).mono ?_
  rintro e w' ⟨A, c, h1, h2, h3⟩
  rw [putS_one hf, hf] at h1
  rw [putS_one hf] at h2
  obtain ⟨g, rfl, h4, h5, h6⟩ := own_cells h2 rfl (by simp)
  exact ⟨g, c, h1, h4, h5, h6 0 (by simp), h2, h3⟩
theorem put_own_no {B n c : Nat} {A : Option Addr} (v : BA) (l : List Int) (hn : n = l.length) (hn2 : n ≤ 1000) (h0 : 0 < n) (hf : putOk v l = false) (w : World) (h : w.ownsRow B 3 1 (.slice A n c) n (l.map (Value.int .i64))) : Calls Try.prog 10 #[.string (str v), .slice A n c] w fun e w' => Asked false w e w' := by
  have hc : n ≤ c := by rcases own_cap h with h | h <;> omega
  refine (put_any v w (own_nums (l := l) h) (Nat.le_refl _) hn2 hc).mono ?_
  rintro e w' ⟨A, c, h1, h2, h3⟩
  rw [hf] at h1
  exact ⟨_, _, _, h1, h3⟩
/-- Ten, eleven, .. -/
def tens (k : Nat) : List Int := (List.range k).map fun j : Nat => 10 + (j : Int)
theorem tens_length (k : Nat) : (tens k).length = k := by simp [tens]
theorem tens_succ (k : Nat) : tens (k + 1) = tens k ++ [10 + (k : Int)] := by simp [tens, List.range_succ]
theorem tens_get {k i : Nat} (h : i < k) : (tens k).getD i 0 = 10 + (i : Int) := by simp [tens, List.getD, h]
theorem tens_next {k i : Nat} (h : i < k) : nextN (tens k) i = if i + 1 = k then 0 else 11 + (i : Int) := by
  unfold nextN
  rw [tens_length]
  by_cases e : i + 1 = k
  · rw [if_pos e, if_pos e]
  · rw [if_neg e, if_neg e, tens_get (by omega)]; omega
theorem tens_ok {v : BA} {k : Nat} (h : pagesN v.length = k) (h2 : k = 1 ∨ k = 2) : putOk v (tens k) = true := by
  have hf : fitN v.length (tens k).length = true := by rw [tens_length]; exact fitN_iff.2 ⟨by omega, h⟩
  rw [putOk_right hf]
  rcases h2 with rfl | rfl <;> decide
theorem tens_no {v : BA} {k : Nat} (h : pagesN v.length = k) : putOk v (tens k ++ [30]) = false := putOk_len_no (by rw [List.length_append, tens_length, h]; simp)
def OSt (w : World) (i : Nat) (u : Value) (wr : World) : Prop := wr.ownsRow w.heap.size 3 1 u i ((tens i).map (Value.int .i64)) ∧ Below w.heap.size w wr
/-- A value put into these pages: a row of the call's own. -/
theorem put_tens {B k c : Nat} {A : Option Addr} (v : BA) (h : pagesN v.length = k) (h2 : k = 1 ∨ k = 2) (w : World) (ho : w.ownsRow B 3 1 (.slice A k c) k ((tens k).map (Value.int .i64))) : Calls Try.prog 10 #[.string (str v), .slice A k c] w fun e w' => ∃ g c, e = .returned (.tuple #[.slice (some ⟨g, 0, none⟩) k c, .bool true]) ∧ g < w'.heap.size ∧ w.heap.size ≤ g ∧ k ≤ c ∧ (∀ i, i < k → PgAt w' g (i * 4) (pageAt v (tens k) i)) ∧ Own w.heap.size w' (.slice (some ⟨g, 0, none⟩) k c) (pagesL v (tens k) k) ∧ Below w.heap.size w w' := by
  have hc : k ≤ c := by rcases own_cap ho with h | h <;> omega
  have hf := tens_ok h h2
  refine (put_any v w (own_nums ho) (Nat.le_refl _) (by omega) hc).mono ?_
  rintro e w' ⟨A, c, h1, h2', h3⟩
  rw [putS_yes hf, hf, pagesL_length, tens_length] at h1
  rw [putS_yes hf, pagesL_length, tens_length] at h2'
  obtain ⟨g, rfl, h4, h5, h6⟩ := own_cells h2' (pagesL_length _ _ _) (by omega)
  have hc2 : k ≤ c := by
    unfold Own at h2'
    rw [pagesL_length] at h2'
    rcases own_cap h2' with h | h <;> omega
  refine ⟨g, c, h1, h5, h4, hc2, fun i hi => ?_, h2', h3⟩
  have := h6 i hi
  have e : (pagesL v (tens k) k).getD i nilP = pageAt v (tens k) i := by simp [pagesL, List.getD, hi]
  rw [e] at this
  exact this
theorem Pgs.take {C : Nat} {w : World} {A : Option Addr} {l : List Pg} (h : Pgs C w A l) (k : Nat) : Pgs C w A (l.take k) := by
  refine ⟨fun j hj => ?_, fun p hp => h.2.1 p (List.mem_of_mem_take hp), Nat.le_trans (by rw [List.length_take]; omega) h.2.2⟩
  rw [List.length_take] at hj
  obtain ⟨b, off, h1, h2, h3⟩ := h.1 j (by omega)
  refine ⟨b, off, h1, h2, ?_⟩
  have e : (l.take k).getD j nilP = l.getD j nilP := by simp [List.getD, List.getElem?_take, show j < k by omega]
  rw [e]
  exact h3
theorem pagesL_sizes {v : BA} {l : List Int} {k : Nat} : ∀ p ∈ pagesL v l k, p.b.size ≤ 1000000 := by
  intro p hp
  obtain ⟨j, _, rfl⟩ := List.mem_map.1 hp
  unfold pageAt
  rw [pgOf_size _ _ (by rw [List.length_take]; omega)]; omega
theorem PgAt.block {w w' : World} {g off : Nat} {p : Pg} (h : PgAt w g off p) (hh : w'.heap[g]? = w.heap[g]?) : PgAt w' g off p :=
  ⟨(World.cell?_of_block (w := w) hh).trans h.1, (World.cell?_of_block (w := w) hh).trans h.2.1, (World.cell?_of_block (w := w) hh).trans h.2.2.1, (World.cell?_of_block (w := w) hh).trans h.2.2.2⟩
theorem owns_blk {w : World} {B e s n : Nat} {v : Value} {xs : List Value} (h : w.ownsRow B e s v n xs) {g : Nat} (hg : v.ownBlock = some g) : ∃ cur, w.heap[g]? = some (.cells cur e (0, 0)) := by
  rcases h.2 with ⟨rfl, _⟩ | ⟨g', cap, cur, rfl, _, h2, _⟩
  · simp [Value.ownBlock] at hg
  · simp only [Value.ownBlock, Option.some.injEq] at hg
    subst hg
    exact ⟨cur, h2⟩
/-- Rows of pages and of numbers share no block. -/
theorem rows_apart {w : World} {B B' n n' s s' : Nat} {v v' : Value} {xs ys : List Value} (h : w.ownsRow B 26 s v n xs) (h' : w.ownsRow B' 3 s' v' n' ys) {g : Nat} (hg : v.ownBlock = some g) : v'.ownBlock ≠ some g := fun e => by
  obtain ⟨c1, e1⟩ := owns_blk h hg
  obtain ⟨c2, e2⟩ := owns_blk h' e
  rw [e1] at e2
  simp at e2
end Go.Proofs.Ytoladghpoddlgaa
