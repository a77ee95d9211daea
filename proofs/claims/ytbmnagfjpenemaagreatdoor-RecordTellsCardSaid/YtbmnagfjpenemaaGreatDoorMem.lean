/- What a call that writes leaves alone; a Writer, a Reader in memory. -/
import Derived.Test.YtbmnagfjpenemaaGreatDoorRows
import Derived.Test.YtbmnagfjpenemaaGreatDoorPlain
import Derived.Lib.Hide
namespace Go.Proofs.YtbmnagfjpenemaaGreatDoor
open Go.RowKit
set_option linter.unusedVariables false
set_option linter.unusedSimpArgs false
set_option maxRecDepth 100000

/-! What a call that writes at block p leaves alone: all below block C but p, and whatever holds no bytes. -/
structure Only (C p : Nat) (w w' : World) : Prop where
  os : w'.os = w.os
  tape : w'.tape = w.tape
  output : w'.output = w.output
  size : w.heap.size ≤ w'.heap.size
  block : ∀ k, k < C → k ≠ p → w'.heap[k]? = w.heap[k]?
  typed : ∀ k cs t fr, k ≠ p → t ≠ 5 → w.heap[k]? = some (.cells cs t fr) → w'.heap[k]? = some (.cells cs t fr)

theorem block_of_heap {w : World} {p : Nat} {o : Obj} (h : w.heap[p]? = some o) : p < w.heap.size := (Array.getElem?_eq_some_iff.1 h).1
theorem Only.refl (C p : Nat) (w : World) : Only C p w w := ⟨rfl, rfl, rfl, Nat.le_refl _, fun _ _ _ => rfl, fun _ _ _ _ _ _ h => h⟩
theorem Only.trans {C p : Nat} {a b c : World} (h : Only C p a b) (k : Only C p b c) : Only C p a c :=
  ⟨k.os.trans h.os, k.tape.trans h.tape, k.output.trans h.output, Nat.le_trans h.size k.size, fun i hi hp => (k.block i hi hp).trans (h.block i hi hp),
   fun i cs t fr hp ht hh => k.typed i cs t fr hp ht (h.typed i cs t fr hp ht hh)⟩
theorem Only.below {C p : Nat} {a b : World} (h : Only C p a b) (hp : C ≤ p) : Below C a b :=
  ⟨h.os, h.tape, h.output, h.size, fun i hi => h.block i hi (by omega)⟩
theorem Only.of_below {C p : Nat} {a b : World} (h : Below a.heap.size a b) (hC : C ≤ a.heap.size) : Only C p a b :=
  ⟨h.os, h.tape, h.output, h.size, fun i hi _ => h.block i (by omega), fun i _ _ _ _ _ hh => (h.block i (block_of_heap hh)).trans hh⟩
theorem Only.setCell {C p : Nat} {a w : World} (h : Only C p a w) (i : Nat) (u : Value) : Only C p a (w.setCell ⟨p, i, none⟩ u) :=
  h.trans ⟨rfl, rfl, rfl, by simp [World.setCell], fun k _ hk => Below.heap_setCell w ⟨p, i, none⟩ u k hk, fun k _ _ _ hk _ hh => (Below.heap_setCell w ⟨p, i, none⟩ u k hk).trans hh⟩
theorem Only.drew {C p : Nat} {a w : World} (h : Only C p a w) : Only C p a w.drew := ⟨h.os, h.tape, h.output, h.size, h.block, h.typed⟩
theorem Only.alloc {C p : Nat} {a w : World} (h : Only C p a w) (hC : C ≤ w.heap.size) (o : Obj) : Only C p a (w.alloc o) :=
  h.trans (Only.of_below ((Below.refl _ w).alloc (Nat.le_refl _) o) hC)

/-! A Writer at block p: its bytes, and whether it is bad; its row lies from block C on. -/
def Wr (C : Nat) (w : World) (p : Nat) (l : List UInt8) (bad : Bool) : Prop :=
  C ≤ w.heap.size ∧ ∃ v, w.heap[p]? = some (.cells #[v, .bool bad] 67 (0, 0)) ∧ w.ownsRow C 5 1 v l.length (bcs l)

theorem Wr.new (C : Nat) (w : World) (hC : C ≤ w.heap.size + 1) : Wr C (w.alloc (.cells #[.slice none 0 0, .bool false] 67)) w.heap.size [] false :=
  ⟨by simpa using hC, _, heap_alloc_new w _, World.ownsRow_nil _ _ _ _⟩

theorem Wr.lt {C : Nat} {w : World} {p : Nat} {l : List UInt8} {bad : Bool} (h : Wr C w p l bad) : p < w.heap.size := by
  obtain ⟨_, v, hh, _⟩ := h
  exact block_of_heap hh

/-- What a Writer is survives all that leaves its blocks alone. -/
theorem Wr.kept {C D q : Nat} {w w' : World} {p : Nat} {l : List UInt8} {bad : Bool} (h : Wr C w p l bad) (ho : Only D q w w') (hD : w.heap.size ≤ D) (hq : p ≠ q)
    (hrow : ∀ cs n, w.heap[q]? ≠ some (.cells cs 5 n)) : Wr C w' p l bad := by
  obtain ⟨hC, v, hh, hown⟩ := h
  refine ⟨Nat.le_trans hC ho.size, v, (ho.block p (Nat.lt_of_lt_of_le (block_of_heap hh) hD) hq).trans hh, hown.1, ?_⟩
  rcases hown.2 with hn | ⟨g, cap, cur, rfl, hb, hgg, rest⟩
  · exact .inl hn
  · refine .inr ⟨g, cap, cur, rfl, hb, ?_, rest⟩
    rw [ho.block g (Nat.lt_of_lt_of_le (block_of_heap hgg) hD) (fun e => hrow _ _ (e ▸ hgg))]
    exact hgg

theorem own_slice {w : World} {base e size n : Nat} {v : Value} {xs : List Value} (h : w.ownsRow base e size v n xs) : ∃ A c, v = .slice A n c := by
  rcases h.2 with ⟨rfl, rfl⟩ | ⟨g, cap, cur, rfl, _⟩
  · exact ⟨_, _, rfl⟩
  · exact ⟨_, _, rfl⟩

/-- A row of bytes of the call's own, as a string. -/
theorem own_string {P : Program} {w : World} {base n : Nat} {v : Value} {l : List UInt8} (h : w.ownsRow base 5 1 v n (bcs l)) (hl : l.length = n)
    (h1 : P.underlying 63 = some (.slice 5)) (h2 : P.underlying 5 = some (.int .u8)) (h3 : P.underlying 9 = some .string) :
    (convert 63 9 v).run P w = .ok (.string (str l)) w := by
  subst hl
  rcases h.2 with ⟨rfl, hn⟩ | ⟨g, cap, cur, rfl, _⟩
  · have : l = [] := List.eq_nil_of_length_eq_zero hn
    subst this
    exact run_convert_bytes_nil w 63 5 h1 h2 0 0 9 h3
  · exact run_convert_bytes_back w 63 9 5 ⟨g, 0, none⟩ cap l h1 h2 h3 fun j hj => h.cells rfl j _ (by simp [bcs, List.getElem?_eq_getElem hj])

theorem frozen_of_heap (w : World) (p i : Nat) (cs : Array Value) (t : TypeId) (h : w.heap[p]? = some (.cells cs t (0, 0))) : w.frozen? ⟨p, i, none⟩ = false := by
  simp [World.frozen?, h]

theorem wrote_block {C n : Nat} {w w1 : World} {p : Nat} {xs : List Value} {bad : Bool} {v : Value} (hown : w.ownsRow C 5 1 v n xs)
    (hh : w.heap[p]? = some (.cells #[v, .bool bad] 67 (0, 0))) (hg : w.grownBy w1 v.ownBlock) : w1.heap[p]? = some (.cells #[v, .bool bad] 67 (0, 0)) := by
  refine (hg.block p (block_of_heap hh) ?_).trans hh
  intro e
  rcases hown.2 with ⟨rfl, _⟩ | ⟨g, cap, cur, rfl, _, hgg, _⟩
  · simp [Value.ownBlock] at e
  · simp [Value.ownBlock] at e
    subst e
    rw [hh] at hgg
    simp at hgg

/-- The Writer behind an append: its row and its block p have turned, nothing else. -/
theorem Wr.wrote {C : Nat} {w w1 : World} {p : Nat} {l m : List UInt8} {bad : Bool} {v v' : Value} (hC : C ≤ w.heap.size)
    (hh : w.heap[p]? = some (.cells #[v, .bool bad] 67 (0, 0))) (hown : w.ownsRow C 5 1 v l.length (bcs l))
    (hg : w.grownBy w1 v.ownBlock) (hown1 : w1.ownsRow C 5 1 v' (l ++ m).length (bcs (l ++ m))) :
    Wr C (w1.setCell ⟨p, 0, none⟩ v') p (l ++ m) bad ∧ Only C p w (w1.setCell ⟨p, 0, none⟩ v') := by
  have h1 := wrote_block hown hh hg
  have hO : Only C p w w1 := ⟨hg.os, hg.tape, hg.output, hg.size, fun k hk _ => hg.block k (by omega) (fun e => by have := (hown.lt k e.symm).1; omega),
    fun k cs t fr _ ht hk => (hg.block k (block_of_heap hk) (fun e => by
      rcases hown.2 with ⟨rfl, _⟩ | ⟨g, cap, cur, rfl, _, hgg, _⟩
      · simp [Value.ownBlock] at e
      · simp [Value.ownBlock] at e
        subst e
        rw [hk] at hgg
        simp at hgg
        exact ht hgg.2.1)).trans hk⟩
  refine ⟨⟨?_, v', ?_, ?_⟩, hO.setCell _ _⟩
  · have := hg.size; simp [World.setCell]; omega
  · simp [World.setCell, Array.getElem?_modify, h1]
  · refine ⟨hown1.1, ?_⟩
    rcases hown1.2 with hn | ⟨g, cap, cur, rfl, hb, hgg, rest⟩
    · exact .inl hn
    · refine .inr ⟨g, cap, cur, rfl, hb, ?_, rest⟩
      rw [Below.heap_setCell w1 ⟨p, 0, none⟩ _ g ?_]
      · exact hgg
      · rintro rfl
        rw [h1] at hgg
        simp at hgg

theorem Wr.spoilt {C : Nat} {w : World} {p : Nat} {l : List UInt8} {bad : Bool} (h : Wr C w p l bad) :
    Wr C (w.setCell ⟨p, 1, none⟩ (.bool true)) p l true ∧ Only C p w (w.setCell ⟨p, 1, none⟩ (.bool true)) := by
  obtain ⟨hC, v, hh, hown⟩ := h
  refine ⟨⟨by simpa [World.setCell] using hC, v, by simp [World.setCell, Array.getElem?_modify, hh], hown.1, ?_⟩, (Only.refl _ _ _).setCell _ _⟩
  rcases hown.2 with hn | ⟨g, cap, cur, rfl, hb, hgg, rest⟩
  · exact .inl hn
  · refine .inr ⟨g, cap, cur, rfl, hb, ?_, rest⟩
    rw [Below.heap_setCell w ⟨p, 1, none⟩ _ g ?_]
    · exact hgg
    · rintro rfl
      rw [hh] at hgg
      simp at hgg

/-! A Reader at block q: what is left, and whether it is good. -/
def Rd (w : World) (q : Nat) (l : List UInt8) (good : Bool) : Prop := w.heap[q]? = some (.cells #[.string (str l), .bool good] 135 (0, 0))

theorem Rd.lt {w : World} {q : Nat} {l : List UInt8} {good : Bool} (h : Rd w q l good) : q < w.heap.size := block_of_heap h
theorem Rd.alloc {w : World} {q : Nat} {l : List UInt8} {good : Bool} (h : Rd w q l good) (o : Obj) : Rd (w.alloc o) q l good := (Below.heap_alloc w o q h.lt).trans h
theorem Rd.drew {w : World} {q : Nat} {l : List UInt8} {good : Bool} (h : Rd w q l good) : Rd w.drew q l good := h
theorem Rd.new (w : World) (l : List UInt8) : Rd (w.alloc (.cells #[.string (str l), .bool true] 135)) w.heap.size l true := heap_alloc_new w _
theorem Rd.cut {w : World} {q : Nat} {l : List UInt8} {good : Bool} (h : Rd w q l good) (m : List UInt8) : Rd (w.setCell ⟨q, 0, none⟩ (.string (str m))) q m good := by
  unfold Rd at *
  simp [World.setCell, Array.getElem?_modify, h]
theorem Rd.spoilt {w : World} {q : Nat} {l : List UInt8} {good : Bool} (h : Rd w q l good) : Rd (w.setCell ⟨q, 1, none⟩ (.bool false)) q l false := by
  unfold Rd at *
  simp [World.setCell, Array.getElem?_modify, h]

end Go.Proofs.YtbmnagfjpenemaaGreatDoor
