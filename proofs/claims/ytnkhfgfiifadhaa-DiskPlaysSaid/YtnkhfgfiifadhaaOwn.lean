/- What the memory of a disk is, and what a call on it leaves alone. -/
import Derived.Test.YtnkhfgfiifadhaaRows
import Derived.Test.YtnkhfgfiifadhaaPlain
import Derived.WalkKit
import Derived.ProofKit
namespace Go.Proofs.Ytnkhfgfiifadhaa
open Go.RowKit
set_option linter.unusedVariables false

/-- A disk: what is permanent, the pending writes, does it run, how many writes are left. -/
structure St where
  last : List BA
  pend : List PW
  runs : Bool
  left : Int

/-- The disk at p has its sectors in block s, its pending writes at pv. -/
structure Own (C p s c : Nat) (pv : Value) (A : St) (w : World) : Prop where
  hp : C ≤ p
  hs : C ≤ s
  ps : p ≠ s
  vp : pv.ownBlock ≠ some p
  vs : pv.ownBlock ≠ some s
  head : w.heap[p]? = some (.cells #[.slice (some ⟨s, 0, none⟩) A.last.length c, pv, .bool A.runs, .int .i64 A.left] 57 (0, 0))
  secs : ∃ cur, w.heap[s]? = some (.cells cur 61 (0, 0)) ∧ A.last.length * 64 ≤ cur.size ∧ ∀ k, k < A.last.length → ∀ j v, (cb ((appl A.last A.pend).getD k []))[j]? = some v → cur[k * 64 + j]? = some v
  row : w.ownsRow C 63 129 pv A.pend.length (pcells A.last A.pend)
  whole : Whole A.last
  fits : Fits A.last.length A.pend
  n1 : 1 ≤ A.last.length
  n2 : A.last.length ≤ 10000
  c1 : A.last.length ≤ c
  c2 : c ≤ maxLen
  l1 : -9223372036854775808 ≤ A.left
  l2 : A.left ≤ 9223372036854775807

/-- What a call on that disk may turn. -/
structure Turned (p s : Nat) (pv : Value) (w w' : World) : Prop where
  os : w'.os = w.os
  tape : w'.tape = w.tape
  output : w'.output = w.output
  size : w.heap.size ≤ w'.heap.size
  block : ∀ k, k < w.heap.size → k ≠ p → k ≠ s → pv.ownBlock ≠ some k → w'.heap[k]? = w.heap[k]?

section
variable {C p s c : Nat} {pv : Value} {A : St} {w w' : World}
theorem Own.lt (h : Own C p s c pv A w) : p < w.heap.size := (Array.getElem?_eq_some_iff.1 h.head).1
theorem Own.lts (h : Own C p s c pv A w) : s < w.heap.size := by obtain ⟨cur, h1, _⟩ := h.secs; exact (Array.getElem?_eq_some_iff.1 h1).1
theorem Own.ltv (h : Own C p s c pv A w) : ∀ k, pv.ownBlock = some k → C ≤ k ∧ k < w.heap.size := h.row.lt
theorem Own.cell0 (h : Own C p s c pv A w) : w.cell? ⟨p, 0, none⟩ = some (.slice (some ⟨s, 0, none⟩) A.last.length c) := cell_of_row w p 0 _ _ _ h.head
theorem Own.cell1 (h : Own C p s c pv A w) : w.cell? ⟨p, 1, none⟩ = some pv := cell_of_row w p 1 _ _ _ h.head
theorem Own.cell2 (h : Own C p s c pv A w) : w.cell? ⟨p, 2, none⟩ = some (.bool A.runs) := cell_of_row w p 2 _ _ _ h.head
theorem Own.cell3 (h : Own C p s c pv A w) : w.cell? ⟨p, 3, none⟩ = some (.int .i64 A.left) := cell_of_row w p 3 _ _ _ h.head
theorem Own.free (h : Own C p s c pv A w) (o : Nat) : w.frozen? ⟨p, o, none⟩ = false := frozen_of_row w p o _ _ h.head
theorem Own.sector (h : Own C p s c pv A w) {k : Nat} (hk : k < A.last.length) : w.rangeAt s (k * 64) (cb ((appl A.last A.pend).getD k [])) := fun j v hv => by
  obtain ⟨cur, h1, _, h3⟩ := h.secs
  rw [cell_of_row w s _ _ _ _ h1]
  exact h3 k hk j v hv
theorem Own.there (h : Own C p s c pv A w) {k : Nat} (hk : k < A.last.length) : w.there s (k * 64) 64 := fun j hj => by
  obtain ⟨cur, h1, h2, _⟩ := h.secs
  refine ⟨?_, frozen_of_row w s _ _ _ h1⟩
  rw [cell_of_row w s _ _ _ _ h1, Array.getElem?_eq_getElem (by omega)]
  rfl
theorem Own.wholeNow (h : Own C p s c pv A w) : Whole (appl A.last A.pend) := h.fits.whole h.whole
theorem Own.lenNow (h : Own C p s c pv A w) {k : Nat} (hk : k < A.last.length) : ((appl A.last A.pend).getD k []).length = 64 := h.wholeNow.getD (by rw [appl_length]; exact hk)
theorem Own.len (h : Own C p s c pv A w) : ∃ a cp, pv = .slice a A.pend.length cp := by
  rcases h.row.2 with ⟨h1, h2⟩ | ⟨g, cap, cur, h1, _⟩
  · exact ⟨_, _, by rw [h1, h2]⟩
  · exact ⟨_, _, h1⟩
theorem Own.pendLe (h : Own C p s c pv A w) : A.pend.length ≤ maxLen := by
  rcases h.row.2 with ⟨_, h2⟩ | ⟨g, cap, cur, h1, _, _, h2, h3, _⟩
  · rw [h2]; exact Nat.zero_le _
  · omega
/-- What leaves the disk's blocks alone leaves the disk alone. -/
theorem Own.same (h : Own C p s c pv A w) (hb : ∀ k, (k = p ∨ k = s ∨ pv.ownBlock = some k) → w'.heap[k]? = w.heap[k]?) : Own C p s c pv A w' := by
  refine ⟨h.hp, h.hs, h.ps, h.vp, h.vs, (hb p (.inl rfl)).trans h.head, ?_, ?_, h.whole, h.fits, h.n1, h.n2, h.c1, h.c2, h.l1, h.l2⟩
  · obtain ⟨cur, h1, h2⟩ := h.secs
    exact ⟨cur, (hb s (.inr (.inl rfl))).trans h1, h2⟩
  · refine ⟨h.row.1, ?_⟩
    rcases h.row.2 with h1 | ⟨g, cap, cur, h1, h2, h3, h4⟩
    · exact .inl h1
    · exact .inr ⟨g, cap, cur, h1, h2, (hb g (.inr (.inr (by rw [h1]; rfl)))).trans h3, h4⟩
theorem Own.below {D : Nat} (h : Own C p s c pv A w) (hb : Below D w w') (hD : w.heap.size ≤ D) : Own C p s c pv A w' := h.same fun k hk => hb.block k (by
  rcases hk with rfl | rfl | hk
  · have := h.lt; omega
  · have := h.lts; omega
  · have := (h.ltv k hk).2; omega)
theorem Turned.refl (p s : Nat) (pv : Value) (w : World) : Turned p s pv w w := ⟨rfl, rfl, rfl, Nat.le_refl _, fun _ _ _ _ _ => rfl⟩
theorem Turned.below {D : Nat} (h : Turned p s pv w w') (hp : D ≤ p) (hs : D ≤ s) (hv : ∀ k, pv.ownBlock = some k → D ≤ k) (hD : D ≤ w.heap.size) : Below D w w' :=
  ⟨h.os, h.tape, h.output, h.size, fun k hk => h.block k (by omega) (by omega) (by omega) (fun e => by have := hv k e; omega)⟩
/-- A pending list's block: as it was, or new. -/
def Moved (pv pv' : Value) (w : World) : Prop := ∀ k, pv'.ownBlock = some k → pv.ownBlock = some k ∨ w.heap.size ≤ k
theorem Turned.trans {pv' : Value} {w1 w2 : World} (h : Turned p s pv w w1) (k : Turned p s pv' w1 w2) (hm : Moved pv pv' w) : Turned p s pv w w2 :=
  ⟨k.os.trans h.os, k.tape.trans h.tape, k.output.trans h.output, Nat.le_trans h.size k.size, fun i hi h1 h2 h3 => (k.block i (by have := h.size; omega) h1 h2 (fun e => by
    rcases hm i e with h4 | h4
    · exact h3 h4
    · omega)).trans (h.block i hi h1 h2 h3)⟩
theorem Moved.refl (pv : Value) (w : World) : Moved pv pv w := fun k h => .inl h
theorem Moved.trans {pv' pv2 : Value} {w1 : World} (h : Moved pv pv' w) (k : Moved pv' pv2 w1) (hw : w.heap.size ≤ w1.heap.size) : Moved pv pv2 w := fun i hi => by
  rcases k i hi with h1 | h1
  · exact h i h1
  · exact .inr (by omega)
/-- What a call that writes leaves. -/
def Did (C p s c : Nat) (pv : Value) (A : St) (w w' : World) : Prop := ∃ pv', Own C p s c pv' A w' ∧ Turned p s pv w w' ∧ Moved pv pv' w
end
end Go.Proofs.Ytnkhfgfiifadhaa
