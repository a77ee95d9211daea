/- A page's Body set in a row of the caller's own; Put of the first of two numbers written out. -/
import Derived.Test.YtoladghpoddlgaaTurn
namespace Go.Proofs.Ytoladghpoddlgaa
open Go.ChangeShapes Go.WideShapes Go.ChangeAt Go.RowKit
set_option linter.unusedVariables false
set_option linter.unusedSimpArgs false
set_option maxRecDepth 100000
theorem conv1 {X : World} {B : Nat} {c : UInt8} (hx : X.heap[B]? = some (.cells #[.int .u8 (c.toNat : Int)] 5 (0, 0))) :
    (convert 54 9 (.slice (some ⟨B, 0, none⟩) 1 1)).run Try.prog X = .ok (.string (str [c])) X := Byt.string (b := [c]) hx
theorem pcs_setb (b : ByteArray) : ∀ (l : List Pg) (t : Nat), t < l.length → (pcs l).set (t * 4 + 3) (.string b) = pcs (l.set t ⟨(l.getD t nilP).k, (l.getD t nilP).d, (l.getD t nilP).x, b⟩)
  | [], t, h => by simp at h
  | y :: l, 0, _ => by simp [pcs, pcell]
  | y :: l, t + 1, h => by
    have ih := pcs_setb b l t (by simpa using h)
    have e : pcs (y :: l) = .int .i64 y.k :: .int .i64 y.d :: .int .i64 y.x :: .string y.b :: pcs l := by simp [pcs, pcell]
    have i3 : (t + 1) * 4 + 3 = (t * 4 + 3) + 1 + 1 + 1 + 1 := by omega
    rw [e, i3]
    simp only [List.set_cons_succ, List.getD_cons_succ]
    have e2 : ∀ q, pcs (y :: l.set t q) = .int .i64 y.k :: .int .i64 y.d :: .int .i64 y.x :: .string y.b :: pcs (l.set t q) := fun q => by simp [pcs, pcell]
    rw [e2, ← ih]
theorem own_setb {B n c g t : Nat} {w : World} {l : List Pg} (h : Own B w (.slice (some ⟨g, 0, none⟩) n c) l) (ht : t < l.length) (b : ByteArray) : Own B (w.setCell ⟨g, t * 4 + 3, none⟩ (.string b)) (.slice (some ⟨g, 0, none⟩) n c) (l.set t ⟨(l.getD t nilP).k, (l.getD t nilP).d, (l.getD t nilP).x, b⟩) := by
  unfold Own at *
  rw [List.length_set, ← pcs_setb b l t ht]
  exact I.own_set h rfl _
def Putk (v : BA) (K : Nat) (L : List Int) (w : World) (e : Ending) (w' : World) : Prop := ∃ g c, e = .returned (.tuple #[.slice (some ⟨g, 0, none⟩) K c, .bool true]) ∧ (∀ i, i < K → PgAt w' g (i * 4) (pageAt v L i)) ∧ Own w.heap.size w' (.slice (some ⟨g, 0, none⟩) K c) (pagesL v L K) ∧ Below w.heap.size w w'
theorem first_ok {v : BA} {K : Nat} (h : pagesN v.length = K) (h2 : K = 1 ∨ K = 2) : putOk v ([20, 21].take K) = true ∧ ([20, 21].take K : List Int).length = K := by
  have hl : ([20, 21].take K : List Int).length = K := by rcases h2 with rfl | rfl <;> rfl
  have hf : fitN v.length ([20, 21].take K : List Int).length = true := by rw [hl]; exact fitN_iff.2 ⟨by omega, h⟩
  rw [putOk_right hf]
  refine ⟨?_, hl⟩
  rcases h2 with rfl | rfl <;> decide
theorem put_first (v : BA) (K : Nat) (h : pagesN v.length = K) (h2 : K = 1 ∨ K = 2) (w : World) : Calls Try.prog 10 #[.string (str v), .slice (some ⟨w.heap.size, 0, none⟩) K 2] (w.alloc (.cells #[.int .i64 20, .int .i64 21] 3)) fun e w' => Putk v K ([20, 21].take K) w e w' := by
  obtain ⟨hf, hl⟩ := first_ok h h2
  have hn := (nums_new w [20, 21] #[.int .i64 20, .int .i64 21] rfl).part 0 K 2 (by show 0 + K ≤ 2; omega)
  rw [Nat.add_zero, List.drop_zero] at hn
  refine (put_any v (w.alloc (.cells #[.int .i64 20, .int .i64 21] 3)) hn (by simp) (by omega) (by omega)).mono ?_
  rintro e w' ⟨A, c, h1, h2', h3⟩
  rw [putS_yes hf, hf, pagesL_length, hl] at h1
  rw [putS_yes hf, pagesL_length, hl] at h2'
  have hb := (Below.refl w.heap.size w).alloc (Nat.le_refl _) (.cells #[.int .i64 20, .int .i64 21] 3)
  have h2'' := own_base h2' hb.size
  obtain ⟨g, rfl, h4, h5, h6⟩ := own_cells (B := w.heap.size) h2'' (pagesL_length _ _ _) (by omega)
  refine ⟨g, c, h1, fun i hi => ?_, h2'', hb.trans (h3.mono hb.size)⟩
  have := h6 i hi
  have e : (pagesL v ([20, 21].take K) K).getD i nilP = pageAt v ([20, 21].take K) i := by simp [pagesL, List.getD, hi]
  rw [e] at this
  exact this
theorem run_ix (s : ByteArray) (i : Nat) (hi : i < s.size) (w : World) : (Instr.index 9 (.string s) (.int .i64 i)).run Try.prog w = .ok (.int .u8 ((s.data.toList.getD i 0).toNat : Int)) w := by
  rw [run_index_string w 9 s .i64 (i : Int) Try.underlying9, dif_pos ⟨by omega, by omega⟩]
  have e : s[((i : Int)).toNat]'(by omega) = s.data.toList.getD i 0 := by
    rw [List.getD_eq_getElem?_getD, List.getElem?_eq_getElem (by rw [size_data]; exact hi)]
    simp
    rfl
  rw [e]
end Go.Proofs.Ytoladghpoddlgaa
