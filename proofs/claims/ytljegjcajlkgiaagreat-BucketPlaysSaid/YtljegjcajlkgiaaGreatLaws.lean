/- What the laws share: boxes written over; what Set and Cut make of a page of cells; the law's 'at'. -/
import Derived.Test.YtljegjcajlkgiaaGreatBase
namespace Go.Proofs.YtljegjcajlkgiaaGreat
open Go.ChangeShapes Go.WideShapes Go.ChangeAt Go.RowKit
set_option linter.unusedVariables false
set_option linter.unusedSimpArgs false
set_option maxRecDepth 100000
theorem heap_set4 (w : World) (B : Nat) (u0 u1 u2 u3 : Value) (j : Nat) (hj : j ≠ B) : ((((w.setCell ⟨B, 0, none⟩ u0).setCell ⟨B, 1, none⟩ u1).setCell ⟨B, 2, none⟩ u2).setCell ⟨B, 3, none⟩ u3).heap[j]? = w.heap[j]? := by
  rw [Below.heap_setCell _ _ _ _ hj, Below.heap_setCell _ _ _ _ hj, Below.heap_setCell _ _ _ _ hj, Below.heap_setCell _ _ _ _ hj]
theorem PBox.set4 {w : World} {B : Nat} {k d x : Int} {b : ByteArray} (h : PBox w B k d x b) (k' d' x' : Int) (b' : ByteArray) : PBox ((((w.setCell ⟨B, 0, none⟩ (.int .i64 k')).setCell ⟨B, 1, none⟩ (.int .i64 d')).setCell ⟨B, 2, none⟩ (.int .i64 x')).setCell ⟨B, 3, none⟩ (.string b')) B k' d' x' b' := by
  unfold PBox at *
  simp [World.setCell, Array.getElem?_modify, h]
theorem PBox.heap {w w' : World} {B : Nat} {k d x : Int} {b : ByteArray} (h : PBox w B k d x b) (hh : w'.heap[B]? = w.heap[B]?) : PBox w' B k d x b := hh.trans h
theorem Box.heap {w w' : World} {B : Nat} {v0 v1 v2 v3 : Value} (h : Box w B v0 v1 v2 v3) (hh : w'.heap[B]? = w.heap[B]?) : Box w' B v0 v1 v2 v3 := hh.trans h
theorem setP_body {k d x : Int} (hk : isBk k = true) {m : List Ce} (hm : putOk m = true) (c : Ce) :
    (resV (setP ⟨k, d, x, bodyOf m⟩ c) = .tuple #[.agg #[.int .i64 k, .int .i64 d, .int .i64 x, .string (str (bodyOf (setS m c)))], .int .i64 0] ∧ okC c = true ∧ putOk (setS m c) = true) ∨
    (∃ ev : Int, (ev == 0) = false ∧ (ev != 0) = true ∧ resV (setP ⟨k, d, x, bodyOf m⟩ c) = .tuple #[.agg #[.int .i64 0, .int .i64 0, .int .i64 0, .string ⟨#[]⟩], .int .i64 ev] ∧ ((okC c = false ∧ ev = 1) ∨ (okC c = true ∧ putOk (setS m c) = false ∧ ev = 13))) := by
  obtain ⟨g, e⟩ := goodP_body hk hm
  unfold setP
  dsimp only
  rw [g, e]
  cases ok : okC c with
  | false => exact .inr ⟨1, rfl, rfl, rfl, .inl ⟨rfl, rfl⟩⟩
  | true =>
    cases hp : putOk (setS m c) with
    | false => exact .inr ⟨13, rfl, rfl, rfl, .inr ⟨rfl, rfl, rfl⟩⟩
    | true => exact .inl ⟨rfl, rfl, rfl⟩
theorem cutP_body {k d x : Int} (hk : isBk k = true) {m : List Ce} (hm : putOk m = true) (q : ByteArray) :
    (resV (cutP ⟨k, d, x, bodyOf m⟩ q) = .tuple #[.agg #[.int .i64 k, .int .i64 d, .int .i64 x, .string (str (bodyOf (cutS m q)))], .int .i64 0] ∧ ¬ ∀ y ∈ m, y.key ≠ q) ∨
    (resV (cutP ⟨k, d, x, bodyOf m⟩ q) = .tuple #[.agg #[.int .i64 0, .int .i64 0, .int .i64 0, .string ⟨#[]⟩], .int .i64 3] ∧ ∀ y ∈ m, y.key ≠ q) := by
  obtain ⟨g, e⟩ := goodP_body hk hm
  unfold cutP
  dsimp only
  rw [g, e, if_pos rfl]
  by_cases h : (cutS m q).length = m.length
  · rw [if_pos h]; exact .inr ⟨rfl, cut_length.1 h⟩
  · rw [if_neg h]; exact .inl ⟨rfl, fun hh => h (cut_length.2 hh)⟩
theorem neq_cells (a0 a1 : ByteArray) (a2 a3 : Int) (b0 b1 : ByteArray) (b2 b3 : Int) (w : World) : (binOp .neq 42 (.agg #[.string a0, .string a1, .int .i64 a2, .int .i64 a3]) (.agg #[.string b0, .string b1, .int .i64 b2, .int .i64 b3])).run Tryz.prog w = .ok (.bool (!eqC ⟨a0, a1, a2, a3⟩ ⟨b0, b1, b2, b3⟩)) w := by
  have h := eq_cells a0 a1 a2 a3 b0 b1 b2 b3 w
  rw [run_eql_struct] at h
  rw [run_neq_struct]
  generalize (Op.equalIn 10000 42 (.agg #[.string a0, .string a1, .int .i64 a2, .int .i64 a3]) (.agg #[.string b0, .string b1, .int .i64 b2, .int .i64 b3])).run Tryz.prog w = r at *
  cases r with
  | ok b w' =>
    simp only [Result.andThen_ok, Result.ok.injEq, Value.bool.injEq] at h ⊢
    exact ⟨by rw [h.1], h.2⟩
  | _ => simp [Result.andThen] at h
theorem neq_pages (a0 a1 a2 : Int) (a3 : ByteArray) (b0 b1 b2 : Int) (b3 : ByteArray) (w : World) : (binOp .neq 23 (.agg #[.int .i64 a0, .int .i64 a1, .int .i64 a2, .string a3]) (.agg #[.int .i64 b0, .int .i64 b1, .int .i64 b2, .string b3])).run Tryz.prog w = .ok (.bool (!eqP4 a0 a1 a2 a3 b0 b1 b2 b3)) w := by
  have h := eq_pages a0 a1 a2 a3 b0 b1 b2 b3 w
  rw [run_eql_struct] at h
  rw [run_neq_struct]
  generalize (Op.equalIn 10000 23 (.agg #[.int .i64 a0, .int .i64 a1, .int .i64 a2, .string a3]) (.agg #[.int .i64 b0, .int .i64 b1, .int .i64 b2, .string b3])).run Tryz.prog w = r at *
  cases r with
  | ok b w' =>
    simp only [Result.andThen_ok, Result.ok.injEq, Value.bool.injEq] at h ⊢
    exact ⟨by rw [h.1], h.2⟩
  | _ => simp [Result.andThen] at h
theorem keys_eq {a b : ByteArray} : (a.toList == b.toList) = decide (a = b) := by
  rw [ByteArray.toList_eq, ByteArray.toList_eq]
  by_cases h : a = b
  · rw [h, beq_self_eq_true, decide_eq_true rfl]
  · rw [decide_eq_false h, beq_eq_false_iff_ne]; exact fun e => h (data_inj e)
end Go.Proofs.YtljegjcajlkgiaaGreat
