/- The contracts of exists, Right, wrong, the document's own test of a patch, Zeros; a patch's cells in memory. -/
import Derived.Test.YtkopgohmocjbbaaChecked
import Derived.Test.YtkopgohmocjbbaaPlain
import Derived.WalkKit
import Derived.ProofKit
import Derived.IntWalk
import Derived.Below
import Derived.Carry
import Derived.Laws.BytesArg
import Derived.Laws.MakeOwn
import Derived.Laws.IdiomStrings
import Derived.SliceStrings
import Derived.LoopTactic
namespace Go.Proofs.Ytkopgohmocjbbaa
open Go.ChangeShapes Go.WideShapes Go.ChangeAt Go.RowKit
set_option linter.unusedVariables false
set_option linter.unusedSimpArgs false
/-- A patch as the program holds it. -/
def pv (k a : Int) (b : ByteArray) : Value := .agg #[.int .i64 k, .int .i64 a, .string b]
def pvP (p : Pt) : Value := pv p.pg p.ofs p.bs
/-- A block of a patch's three cells. -/
def Box (w : World) (b : Nat) (v0 v1 v2 : Value) : Prop := w.heap[b]? = some (.cells #[v0, v1, v2] 26 (0, 0))
theorem Box.cells {w : World} {b : Nat} {v0 v1 v2 : Value} (h : Box w b v0 v1 v2) : w.cell? ⟨b, 0, none⟩ = some v0 ∧ w.cell? ⟨b, 1, none⟩ = some v1 ∧ w.cell? ⟨b, 2, none⟩ = some v2 :=
  ⟨(cell_of_row _ _ _ _ _ _ h).trans rfl, (cell_of_row _ _ _ _ _ _ h).trans rfl, (cell_of_row _ _ _ _ _ _ h).trans rfl⟩
theorem Box.free {w : World} {b : Nat} {v0 v1 v2 : Value} (h : Box w b v0 v1 v2) : w.frozen? ⟨b, 0, none⟩ = false ∧ w.frozen? ⟨b, 1, none⟩ = false ∧ w.frozen? ⟨b, 2, none⟩ = false :=
  ⟨frozen_of_row _ _ _ _ _ h, frozen_of_row _ _ _ _ _ h, frozen_of_row _ _ _ _ _ h⟩
theorem Box.new (w : World) (v0 v1 v2 : Value) : Box (w.alloc (.cells #[v0, v1, v2] 26)) w.heap.size v0 v1 v2 := heap_alloc_new w _
theorem Box.lt {w : World} {b : Nat} {v0 v1 v2 : Value} (h : Box w b v0 v1 v2) : b < w.heap.size := (Array.getElem?_eq_some_iff.1 h).1
theorem Box.below {w w' : World} {b B : Nat} {v0 v1 v2 : Value} (h : Box w b v0 v1 v2) (hb : Below B w w') (hB : w.heap.size ≤ B) : Box w' b v0 v1 v2 := (hb.block _ (Nat.lt_of_lt_of_le h.lt hB)).trans h
theorem Box.kept {w w' : World} {b : Nat} {v0 v1 v2 : Value} (h : Box w b v0 v1 v2) (hb : Below w.heap.size w w') : Box w' b v0 v1 v2 := h.below hb (Nat.le_refl _)
/-- Behind X: all that was there stands. -/
def Held (X w : World) : Prop := Below X.heap.size X w
theorem Held.refl (X : World) : Held X X := Below.refl _ _
theorem Held.start (X : World) : Held X X.drew := (Below.refl _ _).drew
theorem Held.step {X w w' : World} (h : Held X w) (hb : Below w.heap.size w w') : Held X w' := Below.trans h (hb.mono (Below.size h))
theorem Held.cell {X w : World} {a : Addr} {v : Value} (h : Held X w) (hc : X.cell? a = some v) : w.cell? a = some v := (Below.cell h (World.block_lt_of_cell? X a hc)).trans hc
theorem Held.trans {a b c : World} (h : Held a b) (k : Held b c) : Held a c := Below.trans h (Below.mono k (Below.size h))
theorem exists_any (n : Int) (w : World) : Calls Try.prog 23 #[.int .i64 n] w fun e w' => e = .returned (.bool (decide (0 ≤ n ∧ n ≤ 63))) ∧ w = w' := by
  by_cases h1 : 0 ≤ n
  · by_cases h2 : n ≤ 63
    · rw [decide_eq_true (show 0 ≤ n ∧ n ≤ 63 from ⟨h1, h2⟩)]
      have h3 : n < 64 := by omega
      go_enter Try.func23, Try.ntmps23
      go_wp2_with fail
      go_ret
      exact ⟨rfl, rfl⟩
    · rw [decide_eq_false (show ¬ (0 ≤ n ∧ n ≤ 63) from fun h => h2 h.2)]
      have h3 : ¬ n < 64 := by omega
      go_enter Try.func23, Try.ntmps23
      go_wp2_with fail
      go_ret
      exact ⟨rfl, rfl⟩
  · rw [decide_eq_false (show ¬ (0 ≤ n ∧ n ≤ 63) from fun h => h1 h.1)]
    go_enter Try.func23, Try.ntmps23
    go_wp2_with fail
    go_ret
    exact ⟨rfl, rfl⟩
theorem right_any (k a : Int) (b : ByteArray) (hb : b.size ≤ maxLen) (w : World) : Calls Try.prog 16 #[pv k a b] w fun e w' => e = .returned (.bool (okP ⟨k, a, b⟩)) ∧ Below w.heap.size w w' := by
  unfold maxLen at hb
  unfold pv
  have e1 : IntKind.i64.wrap (256 - (b.size : Int)) = 256 - (b.size : Int) := IntWalk.i64_in _ (by omega)
  by_cases h0 : 0 ≤ k ∧ k ≤ 63
  · by_cases h1 : 0 ≤ a
    · by_cases h2 : 0 < b.size
      · have h2' : (0 : Int) < (b.size : Int) := by omega
        by_cases h3 : a ≤ 256 - (b.size : Int)
        · rw [show okP ⟨k, a, b⟩ = true from okP_iff.2 ⟨h0, h1, h2, by show a + (b.size : Int) ≤ 256; omega⟩]
          have W0 := Lib.hid (exists_any k)
          rw [decide_eq_true h0] at W0
          clear h0
          have HB := Lib.hid ((Below.refl w.heap.size w).alloc (Nat.le_refl _) (.cells #[.int .i64 k, .int .i64 a, .string b] 26))
          go_enter Try.func16, Try.ntmps16
          go_wp2_with fail
          refine (W0.out _).mono ?_; rintro e w1 ⟨rfl, rfl⟩
          go_wp2_with fail
          go_ret
          exact ⟨rfl, HB.out⟩
        · rw [show okP ⟨k, a, b⟩ = false from okP_no.2 (fun h => h3 (by have := h.2.2.2; dsimp only at this; omega))]
          have W0 := Lib.hid (exists_any k)
          rw [decide_eq_true h0] at W0
          clear h0
          have HB := Lib.hid ((Below.refl w.heap.size w).alloc (Nat.le_refl _) (.cells #[.int .i64 k, .int .i64 a, .string b] 26))
          go_enter Try.func16, Try.ntmps16
          go_wp2_with fail
          refine (W0.out _).mono ?_; rintro e w1 ⟨rfl, rfl⟩
          go_wp2_with fail
          go_ret
          exact ⟨congrArg (fun v => Ending.returned (Value.bool v)) (decide_eq_false (show ¬ a ≤ 256 - (b.size : Int) by omega)), HB.out⟩
      · have h2' : ¬ (0 : Int) < (b.size : Int) := by omega
        rw [show okP ⟨k, a, b⟩ = false from okP_no.2 (fun h => h2 h.2.2.1)]
        have W0 := Lib.hid (exists_any k)
        rw [decide_eq_true h0] at W0
        clear h0
        have HB := Lib.hid ((Below.refl w.heap.size w).alloc (Nat.le_refl _) (.cells #[.int .i64 k, .int .i64 a, .string b] 26))
        go_enter Try.func16, Try.ntmps16
        go_wp2_with fail
        refine (W0.out _).mono ?_; rintro e w1 ⟨rfl, rfl⟩
        go_wp2_with fail
        go_ret
        exact ⟨rfl, HB.out⟩
    · rw [show okP ⟨k, a, b⟩ = false from okP_no.2 (fun h => h1 h.2.1)]
      have W0 := Lib.hid (exists_any k)
      rw [decide_eq_true h0] at W0
      clear h0
      have HB := Lib.hid ((Below.refl w.heap.size w).alloc (Nat.le_refl _) (.cells #[.int .i64 k, .int .i64 a, .string b] 26))
      go_enter Try.func16, Try.ntmps16
      go_wp2_with fail
      refine (W0.out _).mono ?_; rintro e w1 ⟨rfl, rfl⟩
      go_wp2_with fail
      go_ret
      exact ⟨rfl, HB.out⟩
  · rw [show okP ⟨k, a, b⟩ = false from okP_no.2 (fun h => h0 h.1)]
    have W0 := Lib.hid (exists_any k)
    rw [decide_eq_false h0] at W0
    clear h0
    have HB := Lib.hid ((Below.refl w.heap.size w).alloc (Nat.le_refl _) (.cells #[.int .i64 k, .int .i64 a, .string b] 26))
    go_enter Try.func16, Try.ntmps16
    go_wp2_with fail
    refine (W0.out _).mono ?_; rintro e w1 ⟨rfl, rfl⟩
    go_wp2_with fail
    go_ret
    exact ⟨rfl, HB.out⟩
theorem wrong_any (k a : Int) (b : ByteArray) (hb : b.size ≤ maxLen) (w : World) : Calls Try.prog 27 #[pv k a b] w fun e w' => e = .returned (.bool (!okP ⟨k, a, b⟩)) ∧ Below w.heap.size w w' := by
  have R := Lib.hid (right_any k a b hb)
  unfold pv at *
  generalize okP ⟨k, a, b⟩ = g at *
  go_enter Try.func27, Try.ntmps27
  have HB := Lib.hid ((Below.refl w.heap.size w).alloc (Nat.le_refl _) (.cells #[.int .i64 k, .int .i64 a, .string b] 26))
  have hx := (Box.new w (.int .i64 k) (.int .i64 a) (.string b)).cells
  obtain ⟨x0, x1, x2⟩ := hx
  go_wp2_with fail
  refine (R.out _).mono ?_; rintro e w1 ⟨rfl, hb1⟩
  have HB1 := Lib.hid (HB.out.trans (hb1.mono (by simp)))
  clear hb1
  go_wp2_with fail
  go_ret
  exact ⟨rfl, HB1.out⟩
theorem emptyL_no {b : ByteArray} (h : 0 < b.size) : b.toList.isEmpty = false := by
  rw [ByteArray.toList_eq]
  cases hl : b.data.toList with
  | nil => have := size_data b; rw [hl] at this; simp at this; omega
  | cons _ _ => rfl
theorem emptyL_yes {b : ByteArray} (h : ¬ 0 < b.size) : b.toList.isEmpty = true := by
  rw [ByteArray.toList_eq]
  cases hl : b.data.toList with
  | nil => rfl
  | cons _ _ => have := size_data b; rw [hl] at this; simp at this; omega
theorem rright_any (k a : Int) (b : ByteArray) (hb : b.size ≤ maxLen) (w : World) : Calls Try.prog 17 #[pv k a b] w fun e w' => e = .returned (.bool (okP ⟨k, a, b⟩)) ∧ Below w.heap.size w w' := by
  unfold maxLen at hb
  unfold pv
  by_cases c0 : 0 ≤ k
  · by_cases c1 : k ≤ 63
    · have c1' : k < 64 := by omega
      by_cases c2 : 0 ≤ a
      · by_cases c3 : a ≤ 255
        · have c3' : a < 256 := by omega
          have e1 : IntKind.i64.wrap (256 - a) = 256 - a := IntWalk.i64_in _ (by omega)
          by_cases c4 : 0 < b.size
          · have c4' : b.toList.isEmpty = false := emptyL_no c4
            have c4'' : (b.toList = []) = False := eq_false (fun h => by rw [h] at c4'; cases c4')
            by_cases c5 : (b.size : Int) ≤ 256 - a
            · rw [show okP ⟨k, a, b⟩ = true from okP_iff.2 ⟨⟨c0, c1⟩, c2, c4, by show a + (b.size : Int) ≤ 256; omega⟩]
              have HB := Lib.hid ((Below.refl w.heap.size w).alloc (Nat.le_refl _) (.cells #[.int .i64 k, .int .i64 a, .string b] 26))
              go_enter Try.func17, Try.ntmps17
              go_wp2_with fail
              go_ret
              exact ⟨rfl, HB.out⟩
            · rw [show okP ⟨k, a, b⟩ = false from okP_no.2 (fun h => c5 (by have h1 := h.1; have h2 := h.2.1; have h3 := h.2.2.1; have h4 := h.2.2.2; dsimp only at h1 h2 h3 h4; omega))]
              have HB := Lib.hid ((Below.refl w.heap.size w).alloc (Nat.le_refl _) (.cells #[.int .i64 k, .int .i64 a, .string b] 26))
              go_enter Try.func17, Try.ntmps17
              go_wp2_with fail
              go_ret
              exact ⟨rfl, HB.out⟩
          · have c4' : b.toList.isEmpty = true := emptyL_yes c4
            have c4'' : b.toList = [] := List.isEmpty_iff.1 c4'
            rw [show okP ⟨k, a, b⟩ = false from okP_no.2 (fun h => c4 (by have h1 := h.1; have h2 := h.2.1; have h3 := h.2.2.1; have h4 := h.2.2.2; dsimp only at h1 h2 h3 h4; omega))]
            have HB := Lib.hid ((Below.refl w.heap.size w).alloc (Nat.le_refl _) (.cells #[.int .i64 k, .int .i64 a, .string b] 26))
            go_enter Try.func17, Try.ntmps17
            go_wp2_with fail
            go_ret
            exact ⟨rfl, HB.out⟩
        · have c3' : ¬ a < 256 := by omega
          rw [show okP ⟨k, a, b⟩ = false from okP_no.2 (fun h => c3 (by have h1 := h.1; have h2 := h.2.1; have h3 := h.2.2.1; have h4 := h.2.2.2; dsimp only at h1 h2 h3 h4; omega))]
          have HB := Lib.hid ((Below.refl w.heap.size w).alloc (Nat.le_refl _) (.cells #[.int .i64 k, .int .i64 a, .string b] 26))
          go_enter Try.func17, Try.ntmps17
          go_wp2_with fail
          go_ret
          exact ⟨rfl, HB.out⟩
      · rw [show okP ⟨k, a, b⟩ = false from okP_no.2 (fun h => c2 (by have h1 := h.1; have h2 := h.2.1; have h3 := h.2.2.1; have h4 := h.2.2.2; dsimp only at h1 h2 h3 h4; omega))]
        have HB := Lib.hid ((Below.refl w.heap.size w).alloc (Nat.le_refl _) (.cells #[.int .i64 k, .int .i64 a, .string b] 26))
        go_enter Try.func17, Try.ntmps17
        go_wp2_with fail
        go_ret
        exact ⟨rfl, HB.out⟩
    · have c1' : ¬ k < 64 := by omega
      rw [show okP ⟨k, a, b⟩ = false from okP_no.2 (fun h => c1 (by have h1 := h.1; have h2 := h.2.1; have h3 := h.2.2.1; have h4 := h.2.2.2; dsimp only at h1 h2 h3 h4; omega))]
      have HB := Lib.hid ((Below.refl w.heap.size w).alloc (Nat.le_refl _) (.cells #[.int .i64 k, .int .i64 a, .string b] 26))
      go_enter Try.func17, Try.ntmps17
      go_wp2_with fail
      go_ret
      exact ⟨rfl, HB.out⟩
  · rw [show okP ⟨k, a, b⟩ = false from okP_no.2 (fun h => c0 (by have h1 := h.1; have h2 := h.2.1; have h3 := h.2.2.1; have h4 := h.2.2.2; dsimp only at h1 h2 h3 h4; omega))]
    have HB := Lib.hid ((Below.refl w.heap.size w).alloc (Nat.le_refl _) (.cells #[.int .i64 k, .int .i64 a, .string b] 26))
    go_enter Try.func17, Try.ntmps17
    go_wp2_with fail
    go_ret
    exact ⟨rfl, HB.out⟩
end Go.Proofs.Ytkopgohmocjbbaa
