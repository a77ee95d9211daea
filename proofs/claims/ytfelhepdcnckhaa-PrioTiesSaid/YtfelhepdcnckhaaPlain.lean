/- Pairs, their order, and what memory holds of a queue. No program beyond its numbers of types. -/
import Derived.Test.YtfelhepdcnckhaaHeap
import Derived.Maps.AppendAt
import Derived.Deep.AppendLies
import Derived.Below
namespace Go.Proofs.Ytfelhepdcnckhaa
open Go.RowKit

abbrev Pr := Int × Int
/-- The order: the greater first; of the same the lesser second. -/
def le (a b : Pr) : Prop := b.1 < a.1 ∨ (a.1 = b.1 ∧ a.2 ≤ b.2)
instance (a b : Pr) : Decidable (le a b) := by unfold le; infer_instance
theorem le_total (a b : Pr) : le a b ∨ le b a := by unfold le; omega
theorem le_trans (a b c : Pr) (h : le a b) (k : le b c) : le a c := by unfold le at *; omega
theorem le_refl (a : Pr) : le a a := by unfold le; omega
theorem le_anti (a b : Pr) (h : le a b) (k : le b a) : a = b := by
  unfold le at *; exact Prod.ext (by omega) (by omega)

/-- A pair's cells. -/
def pc (x : Pr) : List Value := [.int .i64 x.1, .int .i64 x.2]
def pcs (f : Nat → Pr) (n : Nat) : List Value := (vals f n).flatMap pc
theorem pcs_length (f : Nat → Pr) (n : Nat) : (pcs f n).length = n * 2 := by
  unfold pcs
  induction n with
  | zero => rfl
  | succ n ih => rw [vals_succ, List.flatMap_append, List.length_append, ih]; simp [pc]; omega
theorem pcs_succ (f : Nat → Pr) (n : Nat) : pcs f (n + 1) = pcs f n ++ pc (f n) := by
  unfold pcs; rw [vals_succ, List.flatMap_append]; simp
theorem pcs_congr (f g : Nat → Pr) (n : Nat) (h : ∀ i, i < n → f i = g i) : pcs f n = pcs g n := by
  unfold pcs; rw [vals_congr f g n h]
theorem pcs_at0 (f : Nat → Pr) (n i : Nat) (h : i < n) : (pcs f n)[i * 2]? = some (.int .i64 (f i).1) := by
  induction n with
  | zero => omega
  | succ n ih =>
    rw [pcs_succ]
    by_cases e : i = n
    · subst e
      rw [List.getElem?_append_right (by rw [pcs_length]; omega), pcs_length]; simp [pc]
    · rw [List.getElem?_append_left (by rw [pcs_length]; omega)]; exact ih (by omega)
theorem pcs_at1 (f : Nat → Pr) (n i : Nat) (h : i < n) : (pcs f n)[i * 2 + 1]? = some (.int .i64 (f i).2) := by
  induction n with
  | zero => omega
  | succ n ih =>
    rw [pcs_succ]
    by_cases e : i = n
    · subst e
      rw [List.getElem?_append_right (by rw [pcs_length]; omega), pcs_length]
      have : i * 2 + 1 - i * 2 = 1 := by omega
      rw [this]; simp [pc]
    · rw [List.getElem?_append_left (by rw [pcs_length]; omega)]; exact ih (by omega)
theorem pcs_ones (f : Nat → Pr) (n : Nat) : ∀ u ∈ pcs f n, u.oneCell' = true := by
  intro u hu
  unfold pcs at hu
  obtain ⟨x, _, hx⟩ := List.mem_flatMap.1 hu
  simp only [pc, List.mem_cons, List.not_mem_nil, or_false] at hx
  rcases hx with rfl | rfl <;> rfl
theorem pcs_take (f : Nat → Pr) (n : Nat) : (pcs f (n + 1)).take (n * 2) = pcs f n := by
  rw [pcs_succ]
  exact List.take_left' (pcs_length f n)

/-- The queue at p holds the slice v, and that n pairs. -/
def Held (w : World) (p : Nat) (v : Value) (f : Nat → Pr) (n : Nat) : Prop :=
  w.heap[p]? = some (.cells #[v] 28 (0, 0)) ∧ w.ownsRow 0 48 2 v n (pcs f n)

/-- Of what lies below B all but the queue's own cell and its row is as it was. -/
structure Trn (B p : Nat) (o : Option Nat) (w w' : World) : Prop where
  os : w'.os = w.os
  tape : w'.tape = w.tape
  output : w'.output = w.output
  size : w.heap.size ≤ w'.heap.size
  block : ∀ k, k < B → k ≠ p → some k ≠ o → w'.heap[k]? = w.heap[k]?
theorem Trn.refl (B p : Nat) (o : Option Nat) (w : World) : Trn B p o w w := ⟨rfl, rfl, rfl, Nat.le_refl _, fun _ _ _ _ => rfl⟩
theorem Trn.trans {B p : Nat} {o : Option Nat} {a b c : World} (h : Trn B p o a b) (k : Trn B p o b c) : Trn B p o a c :=
  ⟨k.os.trans h.os, k.tape.trans h.tape, k.output.trans h.output, Nat.le_trans h.size k.size, fun i h1 h2 h3 => (k.block i h1 h2 h3).trans (h.block i h1 h2 h3)⟩
theorem Trn.of_below {B p : Nat} {o : Option Nat} {a b : World} (h : Below B a b) : Trn B p o a b := ⟨h.os, h.tape, h.output, h.size, fun k hk _ _ => h.block k hk⟩
theorem Trn.below {B p : Nat} {o : Option Nat} {a b : World} (h : Trn B p o a b) {C : Nat} (hC : C ≤ B) (hp : C ≤ p) (ho : ∀ g, o = some g → C ≤ g) : Below C a b :=
  ⟨h.os, h.tape, h.output, h.size, fun k hk => h.block k (by omega) (by omega) (fun e => by have := ho k e.symm; omega)⟩
theorem Trn.cell {B p : Nat} {o : Option Nat} {a b : World} (h : Trn B p o a b) {x : Addr} (h1 : x.block < B) (h2 : x.block ≠ p) (h3 : some x.block ≠ o) : b.cell? x = a.cell? x :=
  World.cell?_of_block (w := a) (h.block x.block h1 h2 h3)
theorem Trn.frozen {B p : Nat} {o : Option Nat} {a b : World} (h : Trn B p o a b) {x : Addr} (h1 : x.block < B) (h2 : x.block ≠ p) (h3 : some x.block ≠ o) : b.frozen? x = a.frozen? x :=
  World.frozen?_of_block (w := a) (h.block x.block h1 h2 h3)

/-- Its row is the one that it had, or lies from B on. -/
def Near (B : Nat) (o : Option Nat) (v : Value) : Prop := v.ownBlock = o ∨ ∃ g, B ≤ g ∧ v.ownBlock = some g

/-- What the heap's functions are told of memory. -/
def St (B p : Nat) (o : Option Nat) (w : World) (f : Nat → Pr) (n : Nat) : Prop :=
  B ≤ w.heap.size ∧ p < B ∧ n ≤ 1000000 ∧ ∃ v, Held w p v f n ∧ Near B o v

theorem Held.row_lt {w : World} {p : Nat} {v : Value} {f : Nat → Pr} {n : Nat} (h : Held w p v f n) {g : Nat} (hg : v.ownBlock = some g) : g < w.heap.size := (h.2.lt g hg).2
theorem Held.lt {w : World} {p : Nat} {v : Value} {f : Nat → Pr} {n : Nat} (h : Held w p v f n) : p < w.heap.size := (Array.getElem?_eq_some_iff.1 h.1).1
/-- The row's block, known. -/
theorem Held.row {w : World} {p : Nat} {v : Value} {f : Nat → Pr} {n : Nat} (h : Held w p v f n) {g : Nat} (hg : v.ownBlock = some g) : ∃ cur, w.heap[g]? = some (.cells cur 48 (0, 0)) := by
  rcases h.2.2 with ⟨rfl, _⟩ | ⟨g', cap, cur, rfl, _, hgg, _⟩
  · simp [Value.ownBlock] at hg
  · simp only [Value.ownBlock, Option.some.injEq] at hg
    subst hg
    exact ⟨cur, hgg⟩
theorem Held.ne {w : World} {p : Nat} {v : Value} {f : Nat → Pr} {n : Nat} (h : Held w p v f n) : v.ownBlock ≠ some p := by
  intro e
  obtain ⟨cur, hc⟩ := h.row e
  rw [h.1] at hc
  simp at hc
/-- A block of other things is not the row. -/
theorem Held.other {w : World} {p : Nat} {v : Value} {f : Nat → Pr} {n : Nat} (h : Held w p v f n) {b : Nat} {o : Obj} (ho : w.heap[b]? = some o) (hn : ∀ cs, o ≠ .cells cs 48 (0, 0)) : some b ≠ v.ownBlock := by
  intro e
  obtain ⟨cur, hc⟩ := h.row e.symm
  rw [ho] at hc
  exact hn cur (by simpa using hc)
/-- What is left alone keeps the queue. -/
theorem Held.kept {w w' : World} {p : Nat} {v : Value} {f : Nat → Pr} {n : Nat} (h : Held w p v f n) (hp : w'.heap[p]? = w.heap[p]?) (hg : ∀ g, v.ownBlock = some g → w'.heap[g]? = w.heap[g]?) : Held w' p v f n := by
  refine ⟨hp.trans h.1, h.2.1, ?_⟩
  rcases h.2.2 with ⟨rfl, h0⟩ | ⟨g, cap, cur, rfl, hb, hgg, rest⟩
  · exact .inl ⟨rfl, h0⟩
  · exact .inr ⟨g, cap, cur, rfl, hb, (hg g rfl).trans hgg, rest⟩
theorem Held.keep {w w' : World} {p : Nat} {v : Value} {f : Nat → Pr} {n : Nat} (h : Held w p v f n) (hb : Below w.heap.size w w') : Held w' p v f n :=
  h.kept (hb.block p h.lt) fun g hg => hb.block g (h.row_lt hg)
/-- Another queue's turn. -/
theorem Held.apart {w w' : World} {p q : Nat} {v u : Value} {f g : Nat → Pr} {n m : Nat} (h : Held w p v f n) (k : Held w q u g m) (hpq : p ≠ q) (hvu : v.ownBlock ≠ u.ownBlock ∨ v.ownBlock = none) (ht : Trn w.heap.size q u.ownBlock w w') : Held w' p v f n := by
  refine h.kept (ht.block p h.lt hpq (k.other h.1 (by intro cs; simp))) fun b hb => ht.block b (h.row_lt hb) (fun e => ?_) (fun e => ?_)
  · subst e
    exact (h.other k.1 (by intro cs; simp)) hb.symm
  · rcases hvu with hvu | hvu
    · exact hvu (hb.trans e)
    · rw [hvu] at hb; cases hb

/-- A value that holds n pairs, n not 0. -/
theorem Held.form {w : World} {p : Nat} {v : Value} {f : Nat → Pr} {n : Nat} (h : Held w p v f n) (hn : 0 < n) : ∃ g cap cur, v = .slice (some ⟨g, 0, none⟩) n cap ∧ w.heap[g]? = some (.cells cur 48 (0, 0)) ∧ n ≤ cap ∧ cap ≤ maxLen ∧ cur.size = cap * 2 ∧ cur.toList.take (n * 2) = pcs f n := by
  rcases h.2.2 with ⟨_, h0⟩ | ⟨g, cap, cur, rfl, hb, hgg, h1, h2, h3, h4⟩
  · omega
  · exact ⟨g, cap, cur, rfl, hgg, h1, h2, h3, h4⟩
theorem Held.cell0 {w : World} {p : Nat} {v : Value} {f : Nat → Pr} {n g : Nat} (h : Held w p v f n) (hg : v.ownBlock = some g) {i : Nat} (hi : i < n) : w.cell? ⟨g, i * 2, none⟩ = some (.int .i64 (f i).1) := by
  have := h.2.cells hg (i * 2) _ (pcs_at0 f n i hi)
  have hadd : (⟨g, 0, none⟩ : Addr).add (i * 2) = ⟨g, i * 2, none⟩ := by unfold Addr.add; split <;> simp_all
  rwa [hadd] at this
theorem Held.cell1 {w : World} {p : Nat} {v : Value} {f : Nat → Pr} {n g : Nat} (h : Held w p v f n) (hg : v.ownBlock = some g) {i : Nat} (hi : i < n) : w.cell? ⟨g, i * 2 + 1, none⟩ = some (.int .i64 (f i).2) := by
  have := h.2.cells hg (i * 2 + 1) _ (pcs_at1 f n i hi)
  have hadd : (⟨g, 0, none⟩ : Addr).add (i * 2 + 1) = ⟨g, i * 2 + 1, none⟩ := by unfold Addr.add; split <;> simp_all
  rwa [hadd] at this
theorem Held.pcell {w : World} {p : Nat} {v : Value} {f : Nat → Pr} {n : Nat} (h : Held w p v f n) : w.cell? ⟨p, 0, none⟩ = some v := cell_of_row w p 0 _ _ _ h.1
end Go.Proofs.Ytfelhepdcnckhaa
