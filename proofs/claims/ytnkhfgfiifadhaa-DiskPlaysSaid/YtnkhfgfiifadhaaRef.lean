/- The reference's disk: what its memory is, and its calls. -/
import Derived.Test.YtnkhfgfiifadhaaTwo
namespace Go.Proofs.Ytnkhfgfiifadhaa
open Go.ChangeShapes Go.WideShapes Go.ChangeAt Go.RowKit
set_option linter.unusedVariables false
def rcells : List PW → List Value
  | [] => []
  | x :: l => .int .i64 (x.1 : Int) :: .string (str x.2) :: rcells l
theorem rcells_length : ∀ p : List PW, (rcells p).length = p.length * 2
  | [] => rfl
  | x :: l => by simp only [rcells, List.length_cons, rcells_length l]; omega
theorem rcells_append : ∀ p q : List PW, rcells (p ++ q) = rcells p ++ rcells q
  | [], q => rfl
  | x :: l, q => by simp only [rcells, List.cons_append, rcells_append l q]
theorem rcells_at : ∀ (p : List PW) (k : Nat), k < p.length → (rcells p)[k * 2]? = some (.int .i64 ((p.getD k (0, [])).1 : Int)) ∧ (rcells p)[k * 2 + 1]? = some (.string (str (p.getD k (0, [])).2))
  | x :: l, 0, _ => ⟨rfl, rfl⟩
  | x :: l, k + 1, h => by
    have := rcells_at l k (by simpa using h)
    rw [show (k + 1) * 2 = k * 2 + 1 + 1 by omega]
    simpa [rcells] using this
def lcells (l : List BA) : List Value := l.map fun b => .string (str b)
/-- What the reference keeps of the number of writes left. -/
def clamp (x : Int) : Int := if x < -1 then -1 else x
structure Ref (C q : Nat) (lv pv : Value) (A : St) (w : World) : Prop where
  hq : C ≤ q
  head : w.heap[q]? = some (.cells #[lv, pv, .bool (!A.runs), .int .i64 (clamp A.left)] 45 (0, 0))
  rowL : w.ownsRow C 9 1 lv A.last.length (lcells A.last)
  rowP : w.ownsRow C 70 2 pv A.pend.length (rcells A.pend)
  fits : Fits A.last.length A.pend
  n2 : A.last.length ≤ 10000
  l1 : -9223372036854775808 ≤ A.left
  l2 : A.left ≤ 9223372036854775807
section
variable {C q : Nat} {lv pv : Value} {A : St} {w w' : World}
theorem Ref.cell (h : Ref C q lv pv A w) : w.cell? ⟨q, 0, none⟩ = some lv ∧ w.cell? ⟨q, 1, none⟩ = some pv ∧ w.cell? ⟨q, 2, none⟩ = some (.bool (!A.runs)) ∧ w.cell? ⟨q, 3, none⟩ = some (.int .i64 (clamp A.left)) :=
  ⟨cell_of_row w q 0 _ _ _ h.head, cell_of_row w q 1 _ _ _ h.head, cell_of_row w q 2 _ _ _ h.head, cell_of_row w q 3 _ _ _ h.head⟩
theorem Ref.free (h : Ref C q lv pv A w) (o : Nat) : w.frozen? ⟨q, o, none⟩ = false := frozen_of_row w q o _ _ h.head
theorem Ref.lt (h : Ref C q lv pv A w) : q < w.heap.size := (Array.getElem?_eq_some_iff.1 h.head).1
/-- The row of what is there for good. -/
theorem Ref.lastAt (h : Ref C q lv pv A w) {k : Nat} (hk : k < A.last.length) : ∃ g cap, lv = .slice (some ⟨g, 0, none⟩) A.last.length cap ∧ w.cell? ⟨g, k, none⟩ = some (.string (str (A.last.getD k []))) ∧ w.frozen? ⟨g, k, none⟩ = false ∧ g ≠ q := by
  rcases h.rowL.2 with ⟨_, h2⟩ | ⟨g, cap, cur, h1, h2, h3, h4, h5, h6, h7⟩
  · omega
  · refine ⟨g, cap, h1, ?_, frozen_of_row w g _ _ _ h3, ?_⟩
    · have hx : (lcells A.last)[k]? = some (.string (str (A.last.getD k []))) := by
        rw [lcells, List.getElem?_map, List.getD_eq_getElem?_getD, List.getElem?_eq_getElem hk]; rfl
      rw [← h7, List.getElem?_take, if_pos (by omega)] at hx
      rw [cell_of_row _ _ _ _ _ _ h3]
      simpa using hx
    · rintro rfl
      rw [h.head] at h3; simp at h3
theorem Ref.pendAt (h : Ref C q lv pv A w) {k : Nat} (hk : k < A.pend.length) : ∃ g cap, pv = .slice (some ⟨g, 0, none⟩) A.pend.length cap ∧ w.cell? ⟨g, k * 2, none⟩ = some (.int .i64 ((A.pend.getD k (0, [])).1 : Int)) ∧ w.cell? ⟨g, k * 2 + 1, none⟩ = some (.string (str (A.pend.getD k (0, [])).2)) ∧ g ≠ q := by
  rcases h.rowP.2 with ⟨_, h2⟩ | ⟨g, cap, cur, h1, h2, h3, h4, h5, h6, h7⟩
  · omega
  · obtain ⟨e1, e2⟩ := rcells_at A.pend k hk
    refine ⟨g, cap, h1, ?_, ?_, ?_⟩
    · rw [← h7, List.getElem?_take, if_pos (by omega)] at e1
      rw [cell_of_row _ _ _ _ _ _ h3]
      simpa using e1
    · rw [← h7, List.getElem?_take, if_pos (by omega)] at e2
      rw [cell_of_row _ _ _ _ _ _ h3]
      simpa using e2
    · rintro rfl
      rw [h.head] at h3; simp at h3
theorem Ref.shapeL (h : Ref C q lv pv A w) : ∃ a c, lv = .slice a A.last.length c := own_slice h.rowL
theorem Ref.shapeP (h : Ref C q lv pv A w) : ∃ a c, pv = .slice a A.pend.length c := own_slice h.rowP
theorem Ref.pendLe (h : Ref C q lv pv A w) : A.pend.length ≤ maxLen := by
  rcases h.rowP.2 with ⟨_, h2⟩ | ⟨g, cap, cur, h1, _, _, h2, h3, _⟩
  · rw [h2]; exact Nat.zero_le _
  · omega
theorem Ref.same (h : Ref C q lv pv A w) (hb : ∀ k, (k = q ∨ lv.ownBlock = some k ∨ pv.ownBlock = some k) → w'.heap[k]? = w.heap[k]?) : Ref C q lv pv A w' := by
  refine ⟨h.hq, (hb q (.inl rfl)).trans h.head, ⟨h.rowL.1, ?_⟩, ⟨h.rowP.1, ?_⟩, h.fits, h.n2, h.l1, h.l2⟩
  · rcases h.rowL.2 with h1 | ⟨g, cap, cur, h1, h2, h3, h4⟩
    · exact .inl h1
    · exact .inr ⟨g, cap, cur, h1, h2, (hb g (.inr (.inl (by rw [h1]; rfl)))).trans h3, h4⟩
  · rcases h.rowP.2 with h1 | ⟨g, cap, cur, h1, h2, h3, h4⟩
    · exact .inl h1
    · exact .inr ⟨g, cap, cur, h1, h2, (hb g (.inr (.inr (by rw [h1]; rfl)))).trans h3, h4⟩
theorem Ref.below {D : Nat} (h : Ref C q lv pv A w) (hb : Below D w w') (hD : w.heap.size ≤ D) : Ref C q lv pv A w' := h.same fun k hk => hb.block k (by
  rcases hk with rfl | hk | hk
  · have := h.lt; omega
  · have := (h.rowL.lt k hk).2; omega
  · have := (h.rowP.lt k hk).2; omega)

/-! Read. -/
theorem appl_take (L : List BA) (P : List PW) (k n : Nat) (h : k < P.length) (hn : n < L.length) (hf : Fits L.length P) :
    (appl L (P.take (k + 1))).getD n [] = if (P.getD k (0, [])).1 = n then (P.getD k (0, [])).2 else (appl L (P.take k)).getD n [] := by
  have e : P.getD k (0, []) = P[k] := by rw [List.getD_eq_getElem?_getD, List.getElem?_eq_getElem h]; rfl
  rw [take_snoc' P k h, appl_snoc, e, List.getD_eq_getElem?_getD, List.getElem?_set]
  by_cases e : P[k].1 = n
  · rw [if_pos e, if_pos e, if_pos (by rw [appl_length, e]; exact hn)]; rfl
  · rw [if_neg e, if_neg e, List.getD_eq_getElem?_getD]
set_option maxHeartbeats 1000000 in
theorem rread_dead (h : Ref C q lv pv A w) (n : Int) (hr : A.runs = false) : Calls Try.prog 25 #[ptr q, .int .i64 n] w fun e w' => e = .returned (.tuple #[.string (str []), .int .i64 10]) ∧ w = w' := by
  have h2 := h.cell.2.2.1
  rw [hr] at h2
  go_enter Try.func25, Try.ntmps25
  go_wp2_with fail
  go_ret2
  exact ⟨rfl, rfl⟩
set_option maxHeartbeats 1000000 in
theorem rread_range (h : Ref C q lv pv A w) (n : Int) (hr : A.runs = true) (hn : n < 0 ∨ (A.last.length : Int) ≤ n) : Calls Try.prog 25 #[ptr q, .int .i64 n] w fun e w' => e = .returned (.tuple #[.string (str []), .int .i64 12]) ∧ w = w' := by
  obtain ⟨h0, h1, h2, -⟩ := h.cell
  rw [hr] at h2
  obtain ⟨a, c, e⟩ := h.shapeL
  rw [e] at h0
  have hm := h.n2
  clear h e
  generalize A.last.length = m at *
  by_cases k0 : n < 0
  · clear hn
    go_enter Try.func25, Try.ntmps25
    go_wp2_with fail
    go_ret2
    exact ⟨rfl, rfl⟩
  · have k1 : (m : Int) ≤ n := by omega
    have k2 : 0 ≤ n := by omega
    clear hn
    go_enter Try.func25, Try.ntmps25
    go_wp2_with fail
    go_ret2
    exact ⟨rfl, rfl⟩
set_option maxHeartbeats 4000000 in
theorem rread_ok (h : Ref C q lv pv A w) (n : Nat) (hr : A.runs = true) (hn : n < A.last.length) : Calls Try.prog 25 #[ptr q, .int .i64 n] w fun e w' => e = .returned (.tuple #[.string (str ((appl A.last A.pend).getD n [])), .int .i64 0]) ∧ w = w' := by
  obtain ⟨h0, h1, h2, -⟩ := h.cell
  rw [hr] at h2
  have hm := h.n2
  obtain ⟨g, c, e, hcell, -, -⟩ := h.lastAt hn
  rw [e] at h0
  clear e
  obtain ⟨pa, pc, e⟩ := h.shapeP
  rw [e] at h1
  have hx := h.pendLe
  have HAT := Lib.hid (show ∀ k, k < A.pend.length → ∃ g, pa = some ⟨g, 0, none⟩ ∧ w.cell? ⟨g, k * 2, none⟩ = some (.int .i64 ((A.pend.getD k (0, [])).1 : Int)) ∧ w.cell? ⟨g, k * 2 + 1, none⟩ = some (.string (str (A.pend.getD k (0, [])).2)) from fun k hk => by
    obtain ⟨g, cap, e1, e2, e3, -⟩ := h.pendAt hk
    rw [e] at e1
    simp only [Value.slice.injEq] at e1
    exact ⟨g, e1.1, e2, e3⟩)
  have HT := Lib.hid (fun k hk => appl_take A.last A.pend k n hk hn h.fits)
  have HE := Lib.hid (show A.pend.take A.pend.length = A.pend from List.take_length)
  have HL := Lib.hid h.fits
  unfold maxLen at hx
  clear h e hr
  generalize A.last = L at *
  generalize A.pend = P at *
  generalize P.length = m at *
  generalize L.length = z at *
  have k0 : (0 : Int) ≤ (n : Int) := by omega
  have k1 : (n : Int) < (z : Int) := by omega
  have k2 : ¬ (n : Int) < 0 := by omega
  have k3 : ¬ (z : Int) ≤ (n : Int) := by omega
  have hs1 : IntKind.i64.wrap ((m : Int) - 1) = (m : Int) - 1 := IntWalk.i64_in _ (by omega)
  go_enter Try.func25, Try.ntmps25
  go_wp2_with fail
  go_loopw [6] (fun kv wr => ∃ k : Nat, k ≤ m ∧ kv = .int .i64 ((k : Int) - 1) ∧ (appl L (P.take k)).getD n [] = (appl L P).getD n [] ∧ w = wr) (fun kv _ => (intOf kv + 1).toNat)
  case atStart => exact ⟨m, Nat.le_refl _, rfl, by rw [HE.out], rfl⟩
  case round =>
    obtain ⟨k, hk, rfl, hinv, rfl⟩ := hrel
    have HI := Lib.hid hinv
    clear hinv
    by_cases hk0 : k = 0
    · subst hk0
      have hi := HI.out
      rw [List.take_zero, appl_nil] at hi
      have HI2 := Lib.hid hi
      rw [hi] at hcell
      clear hi
      go_wp2_with fail
      go_ret2
      exact ⟨rfl, rfl⟩
    · obtain ⟨j, rfl⟩ : ∃ j, k = j + 1 := ⟨k - 1, by omega⟩
      have hjm : j < m := by omega
      obtain ⟨g2, e1, e2, e3⟩ := HAT.out j hjm
      subst e1
      have hj1 : (((j + 1 : Nat) : Int) - 1) = (j : Int) := by omega
      rw [hj1]
      have hj2 : (j : Int) < m := by omega
      have hs2 : IntKind.i64.wrap ((j : Int) - 1) = (j : Int) - 1 := IntWalk.i64_in _ (by omega)
      have ht := HT.out j hjm
      rw [HI.out] at ht
      clear HT
      generalize P.getD j (0, []) = x at *
      obtain ⟨x1, x2⟩ := x
      dsimp only at *
      by_cases hxn : x1 = n
      · subst hxn
        rw [if_pos rfl] at ht
        rw [← ht] at e3
        clear ht
        go_wp2_with fail
        go_ret2
        exact ⟨rfl, rfl⟩
      · rw [if_neg hxn] at ht
        have hxb : ((x1 : Int) == (n : Int)) = false := by simpa using (by omega : ¬ (x1 : Int) = n)
        have HT := Lib.hid ht
        clear ht
        go_wp2_with fail
        go_roundw
        case rel => exact ⟨j, by omega, by go_num, HT.out.symm, trivial⟩
        case measure => simp [intOf]
end
end Go.Proofs.Ytnkhfgfiifadhaa
