/- The contracts of the queue's calls: what each returns, and what the queue holds then. -/
import Derived.Test.YtfelhepdcnckhaaMeth
import Derived.Test.YtfelhepdcnckhaaHeapMore
namespace Go.Proofs.Ytfelhepdcnckhaa
open Go.ChangeShapes Go.WideShapes Go.ChangeAt Go.RowKit
set_option linter.unusedVariables false
set_option maxRecDepth 100000

abbrev ptr (p : Nat) : Value := .pointer (some ⟨p, 0, none⟩)
/-- The queue at p, whose slice is v, holds the pairs of l, in whatever order. -/
def Qu (w : World) (p : Nat) (v : Value) (l : List Pr) : Prop := ∃ f n, Held w p v f n ∧ Hp le f 0 n ∧ (vals f n).Perm l ∧ n ≤ 1000000
/-- What a call on it leaves: it holds l; its row is its old one, or new; all else is as it was. -/
def Went (p : Nat) (v : Value) (l : List Pr) (w w' : World) : Prop := ∃ v', Qu w' p v' l ∧ Near w.heap.size v.ownBlock v' ∧ Trn w.heap.size p v.ownBlock w w'
/-- The first of all. -/
def Best (l : List Pr) (m : Pr) : Prop := m ∈ l ∧ ∀ y ∈ l, le m y

theorem Qu.perm {w : World} {p : Nat} {v : Value} {l m : List Pr} (h : Qu w p v l) (k : l.Perm m) : Qu w p v m := by
  obtain ⟨f, n, h1, h2, h3, h4⟩ := h
  exact ⟨f, n, h1, h2, h3.trans k, h4⟩
theorem Best.perm {l m : List Pr} {x : Pr} (h : Best l x) (k : l.Perm m) : Best m x := ⟨k.mem_iff.1 h.1, fun y hy => h.2 y (k.mem_iff.2 hy)⟩
theorem Best.uniq {l : List Pr} {x y : Pr} (h : Best l x) (k : Best l y) : x = y := le_anti x y (h.2 y k.1) (k.2 x h.1)
theorem Qu.length {w : World} {p : Nat} {v : Value} {l : List Pr} {f : Nat → Pr} {n : Nat} (h : (vals f n).Perm l) : n = l.length := by rw [← h.length_eq, vals_length]
theorem Qu.st {w : World} {p : Nat} {v : Value} {f : Nat → Pr} {n : Nat} (h : Held w p v f n) (hn : n ≤ 1000000) : St w.heap.size p v.ownBlock w f n := ⟨Nat.le_refl _, h.lt, hn, v, h, .inl rfl⟩
theorem heap_best {f : Nat → Pr} {n : Nat} {l : List Pr} (h : Hp le f 0 (n + 1)) (hl : (vals f (n + 1)).Perm l) : Best l (f 0) := by
  refine ⟨hl.mem_iff.1 ?_, fun y hy => ?_⟩
  · exact List.mem_map.2 ⟨0, List.mem_range.2 (by omega), rfl⟩
  · obtain ⟨i, hi, rfl⟩ := List.mem_map.1 (hl.mem_iff.2 hy)
    exact heap_first h le_refl le_trans i (List.mem_range.1 hi)
/-- A new queue. -/
theorem Qu.new {w : World} {p : Nat} (h : w.heap[p]? = some (.cells #[.slice none 0 0] 28 (0, 0))) : Qu w p (.slice none 0 0) [] :=
  ⟨fun _ => (0, 0), 0, ⟨h, World.ownsRow_nil w 0 _ 2⟩, fun c h0 h1 => by omega, List.Perm.refl _, by omega⟩
theorem Went.refl {w : World} {p : Nat} {v : Value} {l : List Pr} (h : Qu w p v l) : Went p v l w w := ⟨v, h, .inl rfl, Trn.refl _ _ _ _⟩
theorem Qu.below {w w' : World} {p : Nat} {v : Value} {l : List Pr} (h : Qu w p v l) (hb : Below w.heap.size w w') : Qu w' p v l := by
  obtain ⟨f, n, h1, h2, h3, h4⟩ := h
  exact ⟨f, n, h1.keep hb, h2, h3, h4⟩
theorem Went.below {w w' : World} {p : Nat} {v : Value} {l : List Pr} (h : Qu w p v l) (hb : Below w.heap.size w w') : Went p v l w w' := ⟨v, h.below hb, .inl rfl, Trn.of_below hb⟩
theorem Near.lift {B C : Nat} {o : Option Nat} {v u : Value} (hC : B ≤ C) (h : Near B o v) (k : Near C v.ownBlock u) : Near B o u := by
  rcases k with k | ⟨g, k1, k2⟩
  · rcases h with h | ⟨b, h1, h2⟩
    · exact .inl (k.trans h)
    · exact .inr ⟨b, h1, k.trans h2⟩
  · exact .inr ⟨g, Nat.le_trans hC k1, k2⟩
/-- Two calls, one behind the other. -/
theorem Went.step {w w1 w2 : World} {p : Nat} {v u : Value} {l : List Pr} (hB : w.heap.size ≤ w1.heap.size) (hn : Near w.heap.size v.ownBlock u) (ht : Trn w.heap.size p v.ownBlock w w1) (k : Went p u l w1 w2) : Went p v l w w2 := by
  obtain ⟨v', k1, k2, k3⟩ := k
  refine ⟨v', k1, hn.lift hB k2, ht.trans ⟨k3.os, k3.tape, k3.output, k3.size, fun b h1 h2 h3 => k3.block b (by omega) h2 (fun e => ?_)⟩⟩
  rcases hn with hn | ⟨g, g1, g2⟩
  · exact h3 (e.trans hn)
  · rw [g2] at e; simp at e; omega

/-! Len. -/
theorem qlen_walk (p : Nat) (v : Value) (f : Nat → Pr) (n : Nat) (w : World) (hv : Held w p v f n) :
    Calls Try.prog 13 #[ptr p] w fun e w' => e = .returned (.int .i64 (n : Int)) ∧ w = w' := by
  obtain ⟨A, c, rfl⟩ := hv.slice
  have hc := hv.pcell
  clear hv
  go_enter Try.func13, Try.ntmps13
  go_wp2_with fail
  go_ret
  exact ⟨rfl, rfl⟩
theorem len_q (p : Nat) (v : Value) (l : List Pr) (w : World) (h : Qu w p v l) :
    Calls Try.prog 13 #[ptr p] w fun e w' => e = .returned (.int .i64 (l.length : Int)) ∧ w = w' := by
  obtain ⟨f, n, h1, h2, h3, h4⟩ := h
  rw [← Qu.length (w := w) (p := p) (v := v) h3]
  exact qlen_walk p v f n w h1
theorem len_nil (w : World) : Calls Try.prog 13 #[.pointer none] w fun e w' => e = .returned (.int .i64 0) ∧ w = w' := by
  go_enter Try.func13, Try.ntmps13
  go_wp2_with fail
  go_ret
  exact ⟨rfl, rfl⟩

/-! Push. -/
set_option maxHeartbeats 400000 in
theorem push_q (p : Nat) (v : Value) (l : List Pr) (a b : Int) (w : World) (h : Qu w p v l) (hl : l.length < 1000000) :
    Calls Try.prog 10 #[ptr p, .int .i64 a, .int .i64 b] w fun e w' => e = .returned (.tuple #[]) ∧ Went p v (l ++ [(a, b)]) w w' := by
  obtain ⟨f, n, h1, h2, h3, h4⟩ := h
  have hn := Qu.length (w := w) (p := p) (v := v) h3
  have H : Calls Try.prog 17 #[.iface 46 (.pointer (some ⟨p, 0, none⟩)), .iface 48 (.agg #[.int .i64 a, .int .i64 b])] w fun e w' => e = .returned (.tuple #[]) ∧ Went p v (l ++ [(a, b)]) w w' :=
    (push_any (meth w.heap.size p v.ownBlock) (meth2 w.heap.size p v.ownBlock) le_total le_trans f n (a, b) w (Qu.st h1 h4) h2 (by omega)).mono fun e w' ⟨he, g, g1, g2, g3, g4⟩ => by
      obtain ⟨_, _, k3, v', k4, k5⟩ := g1
      exact ⟨he, v', ⟨g, n + 1, k4, g2, g3.trans (h3.append_right _), k3⟩, k5, g4⟩
  have HH := Lib.hid H
  clear H h1 h2 h3 h4 hn
  go_enter Try.func10, Try.ntmps10
  go_wp2_with fail
  refine HH.out.mono ?_; rintro e w1 ⟨rfl, hw1⟩
  have H1 := Lib.hid hw1
  clear hw1
  go_wp2_with fail
  go_end0
  exact ⟨rfl, H1.out⟩
theorem push_nil (a b : Int) (w : World) : Calls Try.prog 10 #[.pointer none, .int .i64 a, .int .i64 b] w fun e w' => e = .returned (.tuple #[]) ∧ w = w' := by
  go_enter Try.func10, Try.ntmps10
  go_wp2_with fail
  go_end0
  exact ⟨rfl, rfl⟩

/-! Peek. -/
abbrev peeked (a b : Int) (c : Bool) : Ending := .returned (.tuple #[.int .i64 a, .int .i64 b, .bool c])
set_option maxHeartbeats 400000 in
theorem peek_walk (p : Nat) (v : Value) (f : Nat → Pr) (n : Nat) (w : World) (hv : Held w p v f (n + 1)) :
    Calls Try.prog 16 #[ptr p] w fun e w' => e = peeked (f 0).1 (f 0).2 true ∧ Below w.heap.size w w' := by
  have HL := Lib.hid (qlen_walk p v f (n + 1) w hv)
  obtain ⟨g, cap, cur, rfl, _, _⟩ := hv.form (by omega)
  have hc := hv.pcell
  have h0 := hv.cell0 (i := 0) rfl (by omega)
  have h1 := hv.cell1 (i := 0) rfl (by omega)
  rw [Nat.zero_mul] at h0 h1
  have hb : (((n + 1 : Nat) : Int) == 0) = false := by rw [beq_eq_false_iff_ne]; omega
  have hb2 : (0 : Int) < ((n + 1 : Nat) : Int) := by omega
  have hb3 : 0 < n + 1 := by omega
  clear hv
  go_enter Try.func16, Try.ntmps16
  go_wp2_with fail
  refine HL.out.mono ?_; rintro e w1 ⟨rfl, rfl⟩
  go_wp2_with fail
  go_quiet (fail)
  go_wp2_with fail
  go_ret3
  exact ⟨rfl, (((Below.refl _ _).alloc (Nat.le_refl _) _).trans ⟨rfl, rfl, rfl, Nat.le_refl _, fun _ _ => rfl⟩)⟩
theorem peek_q (p : Nat) (v : Value) (l : List Pr) (m : Pr) (w : World) (h : Qu w p v l) (hm : Best l m) :
    Calls Try.prog 16 #[ptr p] w fun e w' => e = peeked m.1 m.2 true ∧ Below w.heap.size w w' := by
  obtain ⟨f, n, h1, h2, h3, h4⟩ := h
  have hn := Qu.length (w := w) (p := p) (v := v) h3
  have hp : 0 < l.length := List.length_pos_of_mem hm.1
  obtain ⟨k, rfl⟩ : ∃ k, n = k + 1 := ⟨n - 1, by omega⟩
  have e := hm.uniq (heap_best h2 h3)
  subst e
  exact peek_walk p v f k w h1
theorem peek_none (p : Nat) (v : Value) (w : World) (h : Qu w p v []) :
    Calls Try.prog 16 #[ptr p] w fun e w' => e = peeked 0 0 false ∧ w = w' := by
  have HL := Lib.hid (len_q p v [] w h)
  clear h
  go_enter Try.func16, Try.ntmps16
  go_wp2_with fail
  refine HL.out.mono ?_; rintro e w1 ⟨rfl, rfl⟩
  go_wp2_with fail
  go_ret3
  exact ⟨rfl, rfl⟩
theorem peek_nil (w : World) : Calls Try.prog 16 #[.pointer none] w fun e w' => e = peeked 0 0 false ∧ w = w' := by
  go_enter Try.func16, Try.ntmps16
  go_wp2_with fail
  refine (len_nil _).mono ?_; rintro e w1 ⟨rfl, rfl⟩
  go_wp2_with fail
  go_ret3
  exact ⟨rfl, rfl⟩

/-! Pop. -/
set_option maxHeartbeats 400000 in
theorem pop_q (p : Nat) (v : Value) (l l' : List Pr) (m : Pr) (w : World) (h : Qu w p v l) (hm : Best l m) (hl : (m :: l').Perm l) :
    Calls Try.prog 12 #[ptr p] w fun e w' => e = peeked m.1 m.2 true ∧ Went p v l' w w' := by
  have HP := Lib.hid (peek_q p v l m w h hm)
  have H : ∀ w1, Below w.heap.size w w1 → Calls Try.prog 22 #[.iface 46 (.pointer (some ⟨p, 0, none⟩))] w1 fun e w' => (∃ r, e = .returned r) ∧ Went p v l' w w' := by
    intro w1 hb
    obtain ⟨f, n, h1, h2, h3, h4⟩ := h.below hb
    have hn := Qu.length (w := w) (p := p) (v := v) h3
    have hp : 0 < l.length := List.length_pos_of_mem hm.1
    obtain ⟨k, rfl⟩ : ∃ k, n = k + 1 := ⟨n - 1, by omega⟩
    refine (pop_any (meth w1.heap.size p v.ownBlock) (meth2 w1.heap.size p v.ownBlock) le_total le_trans f k w1 (Qu.st h1 h4) h2 (by omega)).mono fun e w' ⟨he, g, g1, g2, g3, g4⟩ => ?_
    obtain ⟨_, _, k3, v', k4, k5⟩ := g1
    have e := hm.uniq (heap_best h2 h3)
    rw [← e] at g3
    exact ⟨⟨_, he⟩, Went.step hb.size (.inl rfl) (Trn.of_below hb) ⟨v', ⟨g, k, k4, g2, List.Perm.cons_inv ((g3.trans h3).trans hl.symm), by omega⟩, k5, g4⟩⟩
  have HH := Lib.hid H
  clear H h hm hl
  go_enter Try.func12, Try.ntmps12
  go_wp2_with fail
  refine HP.out.mono ?_; rintro e w1 ⟨rfl, hb⟩
  have HC := Lib.hid (HH.out w1 hb)
  clear hb
  go_wp2_with fail
  refine HC.out.mono ?_; rintro e w2 ⟨⟨r, rfl⟩, hw2⟩
  have H1 := Lib.hid hw2
  clear hw2
  go_wp2_with fail
  go_ret3
  exact ⟨rfl, H1.out⟩
theorem pop_none (p : Nat) (v : Value) (w : World) (h : Qu w p v []) :
    Calls Try.prog 12 #[ptr p] w fun e w' => e = peeked 0 0 false ∧ w = w' := by
  have HL := Lib.hid (peek_none p v w h)
  clear h
  go_enter Try.func12, Try.ntmps12
  go_wp2_with fail
  refine HL.out.mono ?_; rintro e w1 ⟨rfl, rfl⟩
  go_wp2_with fail
  go_ret3
  exact ⟨rfl, rfl⟩
theorem pop_nil (w : World) : Calls Try.prog 12 #[.pointer none] w fun e w' => e = peeked 0 0 false ∧ w = w' := by
  go_enter Try.func12, Try.ntmps12
  go_wp2_with fail
  refine (peek_nil _).mono ?_; rintro e w1 ⟨rfl, rfl⟩
  go_wp2_with fail
  go_ret3
  exact ⟨rfl, rfl⟩
end Go.Proofs.Ytfelhepdcnckhaa
