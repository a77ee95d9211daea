/- The contracts of Key, within, Right, Size; a cell's block in memory. -/
import Derived.Test.YtljegjcajlkgiaaGreatChecked
import Derived.Test.YtljegjcajlkgiaaGreatPlain
import Derived.WalkKit
import Derived.ProofKit
import Derived.IntWalk
import Derived.Below
import Derived.Carry
import Derived.Laws.BytesArg
import Derived.Laws.MakeOwn
import Derived.Laws.IdiomStrings
import Derived.SliceStrings
import Derived.LoopTactic
namespace Go.Proofs.YtljegjcajlkgiaaGreat
open Go.ChangeShapes Go.WideShapes Go.ChangeAt Go.RowKit
set_option linter.unusedVariables false
set_option linter.unusedSimpArgs false
/-- A cell as the program holds it. -/
def cv (k v : ByteArray) (b s : Int) : Value := .agg #[.string k, .string v, .int .i64 b, .int .i64 s]
def cvC (c : Ce) : Value := cv c.key c.val c.blob c.size
/-- A block of a cell's four parts. -/
def Box (w : World) (b : Nat) (v0 v1 v2 v3 : Value) : Prop := w.heap[b]? = some (.cells #[v0, v1, v2, v3] 42 (0, 0))
theorem Box.cells {w : World} {b : Nat} {v0 v1 v2 v3 : Value} (h : Box w b v0 v1 v2 v3) : w.cell? ⟨b, 0, none⟩ = some v0 ∧ w.cell? ⟨b, 1, none⟩ = some v1 ∧ w.cell? ⟨b, 2, none⟩ = some v2 ∧ w.cell? ⟨b, 3, none⟩ = some v3 :=
  ⟨(cell_of_row _ _ _ _ _ _ h).trans rfl, (cell_of_row _ _ _ _ _ _ h).trans rfl, (cell_of_row _ _ _ _ _ _ h).trans rfl, (cell_of_row _ _ _ _ _ _ h).trans rfl⟩
theorem Box.free {w : World} {b : Nat} {v0 v1 v2 v3 : Value} (h : Box w b v0 v1 v2 v3) : w.frozen? ⟨b, 0, none⟩ = false ∧ w.frozen? ⟨b, 1, none⟩ = false ∧ w.frozen? ⟨b, 2, none⟩ = false ∧ w.frozen? ⟨b, 3, none⟩ = false :=
  ⟨frozen_of_row _ _ _ _ _ h, frozen_of_row _ _ _ _ _ h, frozen_of_row _ _ _ _ _ h, frozen_of_row _ _ _ _ _ h⟩
theorem Box.new (w : World) (v0 v1 v2 v3 : Value) : Box (w.alloc (.cells #[v0, v1, v2, v3] 42)) w.heap.size v0 v1 v2 v3 := heap_alloc_new w _
theorem Box.lt {w : World} {b : Nat} {v0 v1 v2 v3 : Value} (h : Box w b v0 v1 v2 v3) : b < w.heap.size := (Array.getElem?_eq_some_iff.1 h).1
theorem Box.below {w w' : World} {b B : Nat} {v0 v1 v2 v3 : Value} (h : Box w b v0 v1 v2 v3) (hb : Below B w w') (hB : w.heap.size ≤ B) : Box w' b v0 v1 v2 v3 := (hb.block _ (Nat.lt_of_lt_of_le h.lt hB)).trans h
theorem Box.kept {w w' : World} {b : Nat} {v0 v1 v2 v3 : Value} (h : Box w b v0 v1 v2 v3) (hb : Below w.heap.size w w') : Box w' b v0 v1 v2 v3 := h.below hb (Nat.le_refl _)
/-- Behind X: all that was there stands. -/
def Held (X w : World) : Prop := Below X.heap.size X w
theorem Held.refl (X : World) : Held X X := Below.refl _ _
theorem Held.start (X : World) : Held X X.drew := (Below.refl _ _).drew
theorem Held.step {X w w' : World} (h : Held X w) (hb : Below w.heap.size w w') : Held X w' := Below.trans h (hb.mono (Below.size h))
theorem Held.cell {X w : World} {a : Addr} {v : Value} (h : Held X w) (hc : X.cell? a = some v) : w.cell? a = some v := (Below.cell h (World.block_lt_of_cell? X a hc)).trans hc
theorem Held.trans {a b c : World} (h : Held a b) (k : Held b c) : Held a c := Below.trans h (Below.mono k (Below.size h))
theorem emptyL_no {b : ByteArray} (h : 0 < b.size) : b.toList.isEmpty = false := by
  rw [ByteArray.toList_eq]
  cases hl : b.data.toList with
  | nil => have := size_data b; rw [hl] at this; simp at this; omega
  | cons _ _ => rfl
theorem emptyL_yes {b : ByteArray} (h : ¬ 0 < b.size) : b.toList.isEmpty = true := by
  rw [ByteArray.toList_eq]
  cases hl : b.data.toList with
  | nil => rfl
  | cons _ _ => have := size_data b; rw [hl] at this; simp at this; omega
def keyB (n : Nat) : Bool := decide (1 ≤ n ∧ n ≤ 16)
def inB (n a b : Int) : Bool := decide (a ≤ n ∧ n ≤ b)
theorem key_any (s : ByteArray) (w : World) : Calls Tryz.prog 76 #[.string s] w fun e w' => e = .returned (.bool (keyB s.size)) ∧ w = w' := by
  unfold keyB
  by_cases h1 : 1 ≤ s.size
  · have h1' : (1 : Int) ≤ (s.size : Int) := by omega
    by_cases h2 : s.size ≤ 16
    · have h2' : (s.size : Int) ≤ 16 := by omega
      rw [decide_eq_true (show 1 ≤ s.size ∧ s.size ≤ 16 from ⟨h1, h2⟩)]
      go_enter Tryz.func76, Tryz.ntmps76
      go_wp2_with fail
      go_ret
      exact ⟨rfl, rfl⟩
    · have h2' : ¬ (s.size : Int) ≤ 16 := by omega
      rw [decide_eq_false (show ¬ (1 ≤ s.size ∧ s.size ≤ 16) from fun h => h2 h.2)]
      go_enter Tryz.func76, Tryz.ntmps76
      go_wp2_with fail
      go_ret
      exact ⟨rfl, rfl⟩
  · have h1' : ¬ (1 : Int) ≤ (s.size : Int) := by omega
    rw [decide_eq_false (show ¬ (1 ≤ s.size ∧ s.size ≤ 16) from fun h => h1 h.1)]
    go_enter Tryz.func76, Tryz.ntmps76
    go_wp2_with fail
    go_ret
    exact ⟨rfl, rfl⟩
theorem within_any (n a b : Int) (w : World) : Calls Tryz.prog 77 #[.int .i64 n, .int .i64 a, .int .i64 b] w fun e w' => e = .returned (.bool (inB n a b)) ∧ w = w' := by
  unfold inB
  by_cases h1 : a ≤ n
  · by_cases h2 : n ≤ b
    · rw [decide_eq_true (show a ≤ n ∧ n ≤ b from ⟨h1, h2⟩)]
      go_enter Tryz.func77, Tryz.ntmps77
      go_wp2_with fail
      go_ret
      exact ⟨rfl, rfl⟩
    · rw [decide_eq_false (show ¬ (a ≤ n ∧ n ≤ b) from fun h => h2 h.2)]
      go_enter Tryz.func77, Tryz.ntmps77
      go_wp2_with fail
      go_ret
      exact ⟨rfl, rfl⟩
  · rw [decide_eq_false (show ¬ (a ≤ n ∧ n ≤ b) from fun h => h1 h.1)]
    go_enter Tryz.func77, Tryz.ntmps77
    go_wp2_with fail
    go_ret
    exact ⟨rfl, rfl⟩
theorem right_any (k v : ByteArray) (b s : Int) (w : World) : Calls Tryz.prog 23 #[cv k v b s] w fun e w' => e = .returned (.bool (okC ⟨k, v, b, s⟩)) ∧ Below w.heap.size w w' := by
  unfold cv
  have K := Lib.hid (key_any k)
  by_cases hk : 1 ≤ k.size ∧ k.size ≤ 16
  · rw [show keyB k.size = true from decide_eq_true hk] at K
    by_cases hb : b = 0
    · subst hb
      by_cases hv : (v.size : Int) ≤ 40
      · by_cases hs : s = 0
        · rw [show okC ⟨k, v, 0, s⟩ = true from okC_iff.2 ⟨hk, .inl ⟨rfl, by show v.size ≤ 40; omega, hs⟩⟩]
          clear hk
          subst hs
          have HB := Lib.hid ((Below.refl w.heap.size w).alloc (Nat.le_refl _) (.cells #[.string k, .string v, .int .i64 0, .int .i64 0] 42))
          go_enter Tryz.func23, Tryz.ntmps23
          go_wp2_with fail
          refine (K.out _).mono ?_; rintro e w0 ⟨rfl, rfl⟩
          go_wp2_with fail
          go_ret
          exact ⟨rfl, HB.out⟩
        · have hno : ¬ (Ce.mk k v 0 s).Ok := by
            rintro ⟨_, h | h⟩
            · exact hs h.2.2
            · have := h.1; dsimp only at this; omega
          rw [show okC ⟨k, v, 0, s⟩ = false from okC_no.2 hno]
          clear hno
          have hs' : (s == 0) = false := by rw [beq_eq_false_iff_ne]; exact hs
          clear hk
          have HB := Lib.hid ((Below.refl w.heap.size w).alloc (Nat.le_refl _) (.cells #[.string k, .string v, .int .i64 0, .int .i64 s] 42))
          go_enter Tryz.func23, Tryz.ntmps23
          go_wp2_with fail
          refine (K.out _).mono ?_; rintro e w0 ⟨rfl, rfl⟩
          go_wp2_with fail
          go_ret
          exact ⟨rfl, HB.out⟩
      · have hno : ¬ (Ce.mk k v 0 s).Ok := by
          rintro ⟨_, h | h⟩
          · have := h.2.1; dsimp only at this; omega
          · have := h.1; dsimp only at this; omega
        rw [show okC ⟨k, v, 0, s⟩ = false from okC_no.2 hno]
        clear hno
        clear hk
        have HB := Lib.hid ((Below.refl w.heap.size w).alloc (Nat.le_refl _) (.cells #[.string k, .string v, .int .i64 0, .int .i64 s] 42))
        go_enter Tryz.func23, Tryz.ntmps23
        go_wp2_with fail
        refine (K.out _).mono ?_; rintro e w0 ⟨rfl, rfl⟩
        go_wp2_with fail
        go_ret
        exact ⟨rfl, HB.out⟩
    · have hb' : (b == 0) = false := by rw [beq_eq_false_iff_ne]; exact hb
      have W0 := Lib.hid (within_any b 2 63)
      by_cases h2 : 2 ≤ b ∧ b ≤ 63
      · rw [show inB b 2 63 = true from decide_eq_true h2] at W0
        by_cases hv : v.size = 0
        · have hv' : v.toList.isEmpty = true := emptyL_yes (by omega)
          have hv'' : v.toList = [] := List.isEmpty_iff.1 hv'
          by_cases h3 : 41 ≤ s ∧ s ≤ 400
          · rw [show okC ⟨k, v, b, s⟩ = true from okC_iff.2 ⟨hk, .inr ⟨h2, by show v.size = 0; omega, h3.1, h3.2⟩⟩]
            have W1 := Lib.hid (within_any s 41 400)
            rw [show inB s 41 400 = true from decide_eq_true h3] at W1
            clear hk h2 h3
            have HB := Lib.hid ((Below.refl w.heap.size w).alloc (Nat.le_refl _) (.cells #[.string k, .string v, .int .i64 b, .int .i64 s] 42))
            go_enter Tryz.func23, Tryz.ntmps23
            go_wp2_with fail
            refine (K.out _).mono ?_; rintro e w0 ⟨rfl, rfl⟩
            go_wp2_with fail
            refine (W0.out _).mono ?_; rintro e w1 ⟨rfl, rfl⟩
            go_wp2_with fail
            refine (W1.out _).mono ?_; rintro e w2 ⟨rfl, rfl⟩
            go_wp2_with fail
            go_ret
            exact ⟨rfl, HB.out⟩
          · have hno : ¬ (Ce.mk k v b s).Ok := by
              rintro ⟨_, h | h⟩
              · exact hb h.1
              · exact h3 ⟨h.2.2.1, h.2.2.2⟩
            rw [show okC ⟨k, v, b, s⟩ = false from okC_no.2 hno]
            clear hno
            have W1 := Lib.hid (within_any s 41 400)
            rw [show inB s 41 400 = false from decide_eq_false h3] at W1
            clear hk h2 h3
            have HB := Lib.hid ((Below.refl w.heap.size w).alloc (Nat.le_refl _) (.cells #[.string k, .string v, .int .i64 b, .int .i64 s] 42))
            go_enter Tryz.func23, Tryz.ntmps23
            go_wp2_with fail
            refine (K.out _).mono ?_; rintro e w0 ⟨rfl, rfl⟩
            go_wp2_with fail
            refine (W0.out _).mono ?_; rintro e w1 ⟨rfl, rfl⟩
            go_wp2_with fail
            refine (W1.out _).mono ?_; rintro e w2 ⟨rfl, rfl⟩
            go_wp2_with fail
            go_ret
            exact ⟨rfl, HB.out⟩
        · have hno : ¬ (Ce.mk k v b s).Ok := by
            rintro ⟨_, h | h⟩
            · exact hb h.1
            · exact hv (by have := h.2.1; dsimp only at this; omega)
          rw [show okC ⟨k, v, b, s⟩ = false from okC_no.2 hno]
          clear hno
          have hv' : v.toList.isEmpty = false := emptyL_no (by omega)
          have hv'' : (v.toList = []) = False := eq_false (fun h => by rw [h] at hv'; cases hv')
          clear hk h2
          have HB := Lib.hid ((Below.refl w.heap.size w).alloc (Nat.le_refl _) (.cells #[.string k, .string v, .int .i64 b, .int .i64 s] 42))
          go_enter Tryz.func23, Tryz.ntmps23
          go_wp2_with fail
          refine (K.out _).mono ?_; rintro e w0 ⟨rfl, rfl⟩
          go_wp2_with fail
          refine (W0.out _).mono ?_; rintro e w1 ⟨rfl, rfl⟩
          go_wp2_with fail
          go_ret
          exact ⟨rfl, HB.out⟩
      · have hno : ¬ (Ce.mk k v b s).Ok := by
          rintro ⟨_, h | h⟩
          · exact hb h.1
          · exact h2 h.1
        rw [show okC ⟨k, v, b, s⟩ = false from okC_no.2 hno]
        clear hno
        rw [show inB b 2 63 = false from decide_eq_false h2] at W0
        clear hk h2
        have HB := Lib.hid ((Below.refl w.heap.size w).alloc (Nat.le_refl _) (.cells #[.string k, .string v, .int .i64 b, .int .i64 s] 42))
        go_enter Tryz.func23, Tryz.ntmps23
        go_wp2_with fail
        refine (K.out _).mono ?_; rintro e w0 ⟨rfl, rfl⟩
        go_wp2_with fail
        refine (W0.out _).mono ?_; rintro e w1 ⟨rfl, rfl⟩
        go_wp2_with fail
        go_ret
        exact ⟨rfl, HB.out⟩
  · have hno : ¬ (Ce.mk k v b s).Ok := fun h => hk h.1
    rw [show okC ⟨k, v, b, s⟩ = false from okC_no.2 hno]
    clear hno
    rw [show keyB k.size = false from decide_eq_false hk] at K
    clear hk
    have HB := Lib.hid ((Below.refl w.heap.size w).alloc (Nat.le_refl _) (.cells #[.string k, .string v, .int .i64 b, .int .i64 s] 42))
    go_enter Tryz.func23, Tryz.ntmps23
    go_wp2_with fail
    refine (K.out _).mono ?_; rintro e w0 ⟨rfl, rfl⟩
    go_wp2_with fail
    go_ret
    exact ⟨rfl, HB.out⟩
theorem size_any (k v : ByteArray) (b s : Int) (hk : k.size ≤ maxLen / 4) (hv : v.size ≤ maxLen / 4) (w : World) : Calls Tryz.prog 83 #[cv k v b s] w fun e w' => e = .returned (.int .i64 (sizeC ⟨k, v, b, s⟩)) ∧ Below w.heap.size w w' := by
  unfold maxLen at hk hv
  unfold cv
  have e1 : IntKind.i64.wrap (4 + (k.size : Int)) = 4 + (k.size : Int) := IntWalk.i64_in _ (by omega)
  have e2 : IntKind.i64.wrap (4 + (k.size : Int) + (v.size : Int)) = 4 + (k.size : Int) + (v.size : Int) := IntWalk.i64_in _ (by omega)
  have e3 : IntKind.i64.wrap (4 + (k.size : Int) + 2) = 4 + (k.size : Int) + 2 := IntWalk.i64_in _ (by omega)
  clear hk hv
  by_cases hb : b = 0
  · subst hb
    rw [show ((sizeC ⟨k, v, 0, s⟩ : Nat) : Int) = 4 + (k.size : Int) + (v.size : Int) by unfold sizeC; rw [if_pos rfl]; dsimp only; omega]
    have HB := Lib.hid ((Below.refl w.heap.size w).alloc (Nat.le_refl _) (.cells #[.string k, .string v, .int .i64 0, .int .i64 s] 42))
    go_enter Tryz.func83, Tryz.ntmps83
    go_wp2_with fail
    go_ret
    exact ⟨rfl, HB.out⟩
  · have hb' : (b == 0) = false := by rw [beq_eq_false_iff_ne]; exact hb
    rw [show ((sizeC ⟨k, v, b, s⟩ : Nat) : Int) = 4 + (k.size : Int) + 2 by unfold sizeC; rw [if_neg hb]; dsimp only; omega]
    have HB := Lib.hid ((Below.refl w.heap.size w).alloc (Nat.le_refl _) (.cells #[.string k, .string v, .int .i64 b, .int .i64 s] 42))
    go_enter Tryz.func83, Tryz.ntmps83
    go_wp2_with fail
    go_ret
    exact ⟨rfl, HB.out⟩
end Go.Proofs.YtljegjcajlkgiaaGreat
