/- What the laws share: one queue of the law's own and what its calls leave alone; the law's alive(); how arguments read. -/
import Derived.Test.YtfelhepdcnckhaaQueue
import Derived.Carry
import Derived.OpenShut
import Derived.Deep.Slices
import Derived.Deep.Fields
import Derived.ChangeSame
namespace Go.Proofs.Ytfelhepdcnckhaa
open Go.ChangeShapes Go.WideShapes Go.ChangeAt Go.RowKit
set_option linter.unusedVariables false

/-! A queue that lies from C on. -/
def Own (C p : Nat) (l : List Pr) (w : World) : Prop := ∃ v, Qu w p v l ∧ C ≤ p ∧ C ≤ w.heap.size ∧ ∀ g, v.ownBlock = some g → C ≤ g
/-- All below C is as it was, and so is each block of other things than the queue's. -/
def Kept (C p : Nat) (w w' : World) : Prop := Below C w w' ∧ ∀ k o, w.heap[k]? = some o → k ≠ p → (∀ cs, o ≠ .cells cs 48 (0, 0)) → w'.heap[k]? = some o
theorem Kept.refl (C p : Nat) (w : World) : Kept C p w w := ⟨Below.refl C w, fun _ _ h _ _ => h⟩
theorem Kept.trans {C p : Nat} {a b c : World} (h : Kept C p a b) (k : Kept C p b c) : Kept C p a c := ⟨h.1.trans k.1, fun i o h1 h2 h3 => k.2 i o (h.2 i o h1 h2 h3) h2 h3⟩
theorem Kept.of_below {C p : Nat} {a b : World} (h : Below a.heap.size a b) (hC : C ≤ a.heap.size) : Kept C p a b :=
  ⟨h.mono hC, fun i o h1 _ _ => (h.block i (Array.getElem?_eq_some_iff.1 h1).1).trans h1⟩
theorem Own.went {C p : Nat} {l l' : List Pr} {w : World} {v : Value} (h : Qu w p v l) (h1 : C ≤ p) (h2 : C ≤ w.heap.size) (h3 : ∀ g, v.ownBlock = some g → C ≤ g) {w' : World} (k : Went p v l' w w') : Own C p l' w' ∧ Kept C p w w' := by
  obtain ⟨v', k1, k2, k3⟩ := k
  obtain ⟨f, n, hf, _⟩ := h
  refine ⟨⟨v', k1, h1, Nat.le_trans h2 k3.size, fun g hg => ?_⟩, k3.below h2 h1 h3, fun i o a b c => ?_⟩
  · rcases k2 with e | ⟨b, b1, b2⟩
    · exact h3 g (e ▸ hg)
    · rw [b2] at hg
      have : b = g := by simpa using hg
      omega
  · exact (k3.block i (Array.getElem?_eq_some_iff.1 a).1 b (hf.other a c)).trans a
theorem Own.below {C p : Nat} {l : List Pr} {w w' : World} (h : Own C p l w) (hb : Below w.heap.size w w') : Own C p l w' := by
  obtain ⟨v, h1, h2, h3, h4⟩ := h
  exact ⟨v, h1.below hb, h2, Nat.le_trans h3 hb.size, h4⟩
theorem Own.perm {C p : Nat} {l m : List Pr} {w : World} (h : Own C p l w) (k : l.Perm m) : Own C p m w := by
  obtain ⟨v, h1, h2⟩ := h
  exact ⟨v, h1.perm k, h2⟩
theorem Own.new {C p : Nat} {w : World} (h : w.heap[p]? = some (.cells #[.slice none 0 0] 28 (0, 0))) (hC : C ≤ p) : Own C p [] w :=
  ⟨_, Qu.new h, hC, by have := (Array.getElem?_eq_some_iff.1 h).1; omega, fun g hg => by simp [Value.ownBlock] at hg⟩
theorem Own.fresh (w : World) : Own w.heap.size w.heap.size [] (w.alloc (.cells #[.slice none 0 0] 28)) := Own.new (heap_alloc_new w _) (Nat.le_refl _)
theorem Own.len {C p : Nat} {l : List Pr} {w : World} (h : Own C p l w) : p < w.heap.size := by
  obtain ⟨v, ⟨f, n, hf, _⟩, _⟩ := h
  exact hf.lt

theorem push_o (C p : Nat) (l : List Pr) (a b : Int) (w : World) (h : Own C p l w) (hl : l.length < 1000000) :
    Calls Try.prog 10 #[ptr p, .int .i64 a, .int .i64 b] w fun e w' => e = .returned (.tuple #[]) ∧ Own C p (l ++ [(a, b)]) w' ∧ Kept C p w w' := by
  obtain ⟨v, h1, h2, h3, h4⟩ := h
  exact (push_q p v l a b w h1 hl).mono fun e w' ⟨he, hw⟩ => ⟨he, Own.went h1 h2 h3 h4 hw⟩
theorem peek_o (C p : Nat) (l : List Pr) (m : Pr) (w : World) (h : Own C p l w) (hm : Best l m) :
    Calls Try.prog 16 #[ptr p] w fun e w' => e = peeked m.1 m.2 true ∧ Own C p l w' ∧ Kept C p w w' := by
  obtain ⟨v, h1, h2, h3, h4⟩ := h
  exact (peek_q p v l m w h1 hm).mono fun e w' ⟨he, hw⟩ => ⟨he, Own.went h1 h2 h3 h4 (Went.below h1 hw)⟩
theorem peek_e (C p : Nat) (w : World) (h : Own C p [] w) :
    Calls Try.prog 16 #[ptr p] w fun e w' => e = peeked 0 0 false ∧ w = w' := by
  obtain ⟨v, h1, h2, h3, h4⟩ := h
  exact peek_none p v w h1
theorem pop_o (C p : Nat) (l l' : List Pr) (m : Pr) (w : World) (h : Own C p l w) (hm : Best l m) (hl : (m :: l').Perm l) :
    Calls Try.prog 12 #[ptr p] w fun e w' => e = peeked m.1 m.2 true ∧ Own C p l' w' ∧ Kept C p w w' := by
  obtain ⟨v, h1, h2, h3, h4⟩ := h
  exact (pop_q p v l l' m w h1 hm hl).mono fun e w' ⟨he, hw⟩ => ⟨he, Own.went h1 h2 h3 h4 hw⟩
theorem pop_e (C p : Nat) (w : World) (h : Own C p [] w) :
    Calls Try.prog 12 #[ptr p] w fun e w' => e = peeked 0 0 false ∧ w = w' := by
  obtain ⟨v, h1, h2, h3, h4⟩ := h
  exact pop_none p v w h1
theorem len_o (C p : Nat) (l : List Pr) (w : World) (h : Own C p l w) :
    Calls Try.prog 13 #[ptr p] w fun e w' => e = .returned (.int .i64 (l.length : Int)) ∧ w = w' := by
  obtain ⟨v, h1, h2, h3, h4⟩ := h
  exact len_q p v l w h1

/-! The first of some. -/
theorem best_exists : ∀ (l : List Pr), l ≠ [] → ∃ m, Best l m
  | [], h => absurd rfl h
  | [x], _ => ⟨x, by simp, fun y hy => by simp at hy; subst hy; exact le_refl _⟩
  | x :: y :: l, _ => by
    obtain ⟨m, h1, h2⟩ := best_exists (y :: l) (by simp)
    by_cases h : le x m
    · refine ⟨x, by simp, fun z hz => ?_⟩
      rcases List.mem_cons.1 hz with rfl | hz
      · exact le_refl _
      · exact le_trans _ _ _ h (h2 z hz)
    · refine ⟨m, List.mem_cons_of_mem _ h1, fun z hz => ?_⟩
      rcases List.mem_cons.1 hz with rfl | hz
      · exact (le_total z m).resolve_left h
      · exact h2 z hz
theorem best_split (l : List Pr) (h : l ≠ []) : ∃ m l', Best l m ∧ (m :: l').Perm l ∧ l'.length + 1 = l.length := by
  obtain ⟨m, hm⟩ := best_exists l h
  refine ⟨m, l.erase m, hm, (List.perm_cons_erase hm.1).symm, ?_⟩
  have := (List.perm_cons_erase hm.1).length_eq
  simpa using this.symm

/-! alive. -/
set_option maxHeartbeats 1000000 in
theorem alive_yes (w : World) : Calls Try.prog 9 #[] w fun e w' => e = .returned (.bool true) ∧ Below w.heap.size w w' := by
  have HO := Lib.hid (Own.fresh w)
  have HB : Hid (Best ([(1, 5)] ++ [(3, 6)]) (3, 6)) := ⟨by simp, fun y hy => by simp at hy; rcases hy with rfl | rfl <;> (unfold le; simp)⟩
  have HP : Hid (((3, 6) :: [((1 : Int), (5 : Int))]).Perm ([(1, 5)] ++ [(3, 6)])) := List.Perm.swap _ _ _
  go_enter Try.func9, Try.ntmps9
  go_wp2_with fail
  refine (push_o _ _ [] 1 5 _ HO.out (by simp)).mono ?_; rintro e X1 ⟨rfl, hx⟩
  have H1 := Lib.hid hx
  clear hx
  go_wp2_with fail
  refine (push_o _ _ _ 3 6 _ H1.out.1 (by simp)).mono ?_; rintro e X2 ⟨rfl, hx⟩
  have H2 := Lib.hid hx
  clear hx
  go_wp2_with fail
  refine (pop_o _ _ _ _ _ _ H2.out.1 HB.out HP.out).mono ?_; rintro e X3 ⟨rfl, hx⟩
  have H3 := Lib.hid hx
  clear hx
  go_wp2_with fail
  refine (len_o _ _ _ _ H3.out.1).mono ?_; rintro e X4 ⟨rfl, rfl⟩
  go_wp2_with fail
  go_ret
  exact ⟨rfl, ((Below.refl _ _).alloc (Nat.le_refl _) _).trans ((H1.out.2.trans (H2.out.2.trans H3.out.2)).1)⟩

/-! A slice of numbers that came in. -/
theorem add_plain (b off i : Nat) : (⟨b, off, none⟩ : Addr).add i = ⟨b, off + i, none⟩ := by unfold Addr.add; split <;> simp_all
def Ints (w : World) (A : Option Addr) (len : Nat) (l : List Int) : Prop :=
  l.length = len ∧ ∀ k, k < len → ∃ b off, A = some ⟨b, off, none⟩ ∧ b < w.heap.size ∧ w.cell? ⟨b, off + k, none⟩ = some (.int .i64 (l.getD k 0)) ∧ -9223372036854775808 ≤ l.getD k 0 ∧ l.getD k 0 ≤ 9223372036854775807
theorem ints_nil (w : World) : Ints w none 0 [] := ⟨rfl, fun k hk => by omega⟩
theorem ints_row {w : World} {x : Addr} {len cap : Nat} {zs : List Int} (hl : len ≤ cap) (hz : zs.length = cap) (hc : ∀ i, i < zs.length → w.cell? (x.add i) = some (.int .i64 (zs.getD i 0))) (hw : ∀ n ∈ zs, (Lit.int .i64 n).wf = true) :
    Ints w (some x) len (zs.take len) := by
  refine ⟨by simp; omega, fun k hk => ?_⟩
  obtain ⟨b, off, spot⟩ := x
  have h0 := hc k (by omega)
  have hspot : spot = none := by simpa [Addr.add] using World.cell?_spot (hc 0 (by omega))
  subst hspot
  rw [add_plain] at h0
  have hg : (zs.take len).getD k 0 = zs.getD k 0 := by simp [List.getD, hk]
  have hm : zs.getD k 0 ∈ zs := by
    rw [List.getD, List.getElem?_eq_getElem (by omega)]
    exact List.getElem_mem _
  have hwf := hw _ hm
  have b1 : IntKind.i64.min = -9223372036854775808 := rfl
  have b2 : IntKind.i64.max = 9223372036854775807 := rfl
  simp only [Lit.wf, Bool.and_eq_true, decide_eq_true_eq, b1, b2] at hwf
  refine ⟨b, off, rfl, World.block_lt_of_cell? w _ h0, ?_, ?_, ?_⟩
  · rw [hg]; exact h0
  · rw [hg]; exact hwf.1
  · rw [hg]; exact hwf.2
theorem Ints.below {w w' : World} {A : Option Addr} {len : Nat} {l : List Int} (h : Ints w A len l) (hb : Below w.heap.size w w') : Ints w' A len l :=
  ⟨h.1, fun k hk => by
    obtain ⟨b, off, h1, h2, h3, h4⟩ := h.2 k hk
    exact ⟨b, off, h1, Nat.lt_of_lt_of_le h2 hb.size, (hb.cell (p := ⟨b, off + k, none⟩) h2).trans h3, h4⟩⟩
theorem Ints.mem {w : World} {A : Option Addr} {len : Nat} {l : List Int} (h : Ints w A len l) : ∀ x ∈ l, -9223372036854775808 ≤ x ∧ x ≤ 9223372036854775807 := by
  intro x hx
  obtain ⟨k, hk, rfl⟩ := List.getElem_of_mem hx
  obtain ⟨_, _, _, _, _, h4⟩ := h.2 k (by rw [← h.1]; exact hk)
  simpa [List.getD, hk] using h4

/-! A slice of things to do that came in. -/
abbrev O3 := Int × Int × Int
abbrev o0 : O3 := (0, 0, 0)
def Ops (w : World) (A : Option Addr) (len : Nat) (l : List O3) : Prop :=
  l.length = len ∧ ∀ k, k < len → ∃ b off, A = some ⟨b, off, none⟩ ∧ b < w.heap.size ∧ w.cell? ⟨b, off + k * 3, none⟩ = some (.int .i64 (l.getD k o0).1) ∧
    w.cell? ⟨b, off + k * 3 + 1, none⟩ = some (.int .i64 (l.getD k o0).2.1) ∧ w.cell? ⟨b, off + k * 3 + 2, none⟩ = some (.int .i64 (l.getD k o0).2.2)
theorem ops_nil (w : World) : Ops w none 0 [] := ⟨rfl, fun k hk => by omega⟩
theorem Ops.below {w w' : World} {A : Option Addr} {len : Nat} {l : List O3} (h : Ops w A len l) (hb : Below w.heap.size w w') : Ops w' A len l :=
  ⟨h.1, fun k hk => by
    obtain ⟨b, off, h1, h2, h3, h4, h5⟩ := h.2 k hk
    exact ⟨b, off, h1, Nat.lt_of_lt_of_le h2 hb.size, (hb.cell (p := ⟨b, off + k * 3, none⟩) h2).trans h3, (hb.cell (p := ⟨b, off + k * 3 + 1, none⟩) h2).trans h4, (hb.cell (p := ⟨b, off + k * 3 + 2, none⟩) h2).trans h5⟩⟩
theorem choose_list {P : Nat → O3 → Prop} : ∀ {n : Nat}, (∀ k, k < n → ∃ o, P k o) → ∃ l : List O3, l.length = n ∧ ∀ k, k < n → P k (l.getD k o0)
  | 0, _ => ⟨[], rfl, fun k hk => by omega⟩
  | n + 1, h => by
    obtain ⟨l, hl, hp⟩ := choose_list (n := n) fun k hk => h k (by omega)
    obtain ⟨o, ho⟩ := h n (by omega)
    refine ⟨l ++ [o], by simp [hl], fun k hk => ?_⟩
    by_cases e : k < n
    · have : (l ++ [o]).getD k o0 = l.getD k o0 := by simp [List.getD, List.getElem?_append_left (show k < l.length by omega)]
      rw [this]
      exact hp k e
    · obtain rfl : k = n := by omega
      have : (l ++ [o]).getD k o0 = o := by simp [List.getD, hl]
      rw [this]
      exact ho
section
open Go.Deep
variable {H : Type} {enc : TypeId × Value → H} {P : Program} {w : World} {base : Nat} {spare : Nat → Bool} {held : Bool}
theorem open_slice_fields {t e : TypeId} {fs : Array Field} {fuel : Nat} {cs : List Value} {x : DataW H × List MemPlace} (ht : P.underlying t = some (.slice e)) (he : P.underlying e = some (.struct fs))
    (hone : oneCellFields P fs = true) (hC : P.cellsOf e = fs.size) (h : DataW.trod enc P w base spare held fuel t cs = some x) :
    (cs = [.slice none 0 0] ∧ x = (.nil, [])) ∨
    ∃ (a : Addr) (len cap m : Nat) (D : Nat → DataW H) (Pl : Nat → List MemPlace), cs = [.slice (some a) len cap] ∧ base ≤ a.block ∧ len ≤ cap ∧ cap ≤ maxLen ∧ m = (if spare a.block then cap else len) ∧
      x = (.slice ((List.range len).map D) ((List.range (m - len)).map fun j => D (len + j)), MemPlace.row a (m * fs.size) ++ (List.range m).flatMap Pl) ∧
      ∀ i, i < m → ∃ (ys : List (DataW H × List MemPlace)) (n : Nat), D i = .agg (ys.map (·.1)) ∧ Pl i = ys.flatMap (·.2) ∧ ys.length = fs.size ∧
        ∀ (j : Nat) (f : Field), fs[j]? = some f → ∃ (v : Value) (y : DataW H × List MemPlace), w.cell? (a.add (i * fs.size + j)) = some v ∧ ys[j]? = some y ∧ DataW.trod enc P w base spare held n f.type [v] = some y := by
  rcases open_slice ht h with h0 | ⟨a, len, cap, m, n, D, Pl, hcs, hb, hl, hm, hmm, hx, hi⟩
  · exact .inl h0
  · refine .inr ⟨a, len, cap, m, D, Pl, hcs, hb, hl, hm, hmm, by rw [hC] at hx; exact hx, fun i him => ?_⟩
    obtain ⟨cs', hc, ht'⟩ := hi i him
    rw [hC] at hc
    obtain ⟨ys, n', hn', hy, hlen, hyl, hf⟩ := DataW.trod_struct he ht'
    obtain ⟨_, hcl, hat⟩ := World.cells?_some hc
    simp only [Prod.mk.injEq] at hy
    refine ⟨ys, n', hy.1, hy.2, hyl, fun j f hj => ?_⟩
    obtain ⟨ho, hk⟩ := hone_of hone j f hj
    have hjl : j < fs.size := (Array.getElem?_eq_some_iff.1 hj).1
    have hcell := hat j hjl
    have hv : cs'[j]? = some (cs'[j]'(by omega)) := List.getElem?_eq_getElem (by omega)
    have h1 := hf j f hj
    rw [ho, hk] at h1
    have hone' : (cs'.drop j).take 1 = [cs'[j]'(by omega)] := by
      rw [List.drop_eq_getElem_cons (by omega)]
      rfl
    rw [hone'] at h1
    have hys : ys[j]? = some (ys[j]'(by omega)) := List.getElem?_eq_getElem (by omega)
    refine ⟨_, _, ?_, hys, h1.trans hys⟩
    rw [← Go.Deep.add_add, hcell, hv]
end
/-- A slice of things to do, read. -/
theorem ops_read {H : Type} {enc : TypeId × Value → H} {W : World} {A : Option Addr} {len cap base fuel : Nat} {sp : Nat → Bool} {hd : Bool} {x : DataW H × List MemPlace}
    (h : DataW.trod enc Try.prog W base sp hd fuel 37 [.slice A len cap] = some x) (hsp : ∀ b, sp b = true) : ∃ l, Ops W A len l ∧ len ≤ cap ∧ cap ≤ maxLen := by
  rcases open_slice_fields Try.underlying37 Try.underlying39 (by kernel_rfl) (by kernel_rfl) h with ⟨hcs, hx⟩ | ⟨a, len', cap', m, D, Pl, hcs, _, hl, hm, hmm, hx, hi⟩
  · simp at hcs
    obtain ⟨rfl, rfl, rfl⟩ := hcs
    exact ⟨[], ops_nil W, by omega, by unfold maxLen; omega⟩
  · simp at hcs
    obtain ⟨rfl, rfl, rfl⟩ := hcs
    have hmm' : m = cap := by rw [hmm, hsp a.block]; simp
    subst hmm'
    have each : ∀ k, k < len → ∃ o : O3, ∃ b off, (some a : Option Addr) = some ⟨b, off, none⟩ ∧ b < W.heap.size ∧ W.cell? ⟨b, off + k * 3, none⟩ = some (.int .i64 o.1) ∧
        W.cell? ⟨b, off + k * 3 + 1, none⟩ = some (.int .i64 o.2.1) ∧ W.cell? ⟨b, off + k * 3 + 2, none⟩ = some (.int .i64 o.2.2) := by
      intro k hk
      obtain ⟨ys, n, _, _, _, hfj⟩ := hi k (by omega)
      obtain ⟨u0, y0, hc0, _, t0⟩ := hfj 0 _ rfl
      obtain ⟨u1, y1, hc1, _, t1⟩ := hfj 1 _ rfl
      obtain ⟨u2, y2, hc2, _, t2⟩ := hfj 2 _ rfl
      obtain ⟨z0, e0, _, w0⟩ := DataW.trod_int (P := Try.prog) Try.underlying3 t0
      obtain ⟨z1, e1, _, w1⟩ := DataW.trod_int (P := Try.prog) Try.underlying3 t1
      obtain ⟨z2, e2, _, w2'⟩ := DataW.trod_int (P := Try.prog) Try.underlying3 t2
      obtain rfl : u0 = .int .i64 z0 := by simpa using e0
      obtain rfl : u1 = .int .i64 z1 := by simpa using e1
      obtain rfl : u2 = .int .i64 z2 := by simpa using e2
      obtain ⟨b, off, spot⟩ := a
      obtain ⟨_, _, _, _, _, hf0⟩ := hi 0 (by omega)
      obtain ⟨_, _, hc00, _⟩ := hf0 0 _ rfl
      have hspot : spot = none := by simpa [Addr.add] using World.cell?_spot hc00
      subst hspot
      rw [add_plain] at hc0 hc1 hc2
      exact ⟨(z0, z1, z2), b, off, rfl, World.block_lt_of_cell? W _ hc0, hc0, by rw [Nat.add_assoc]; exact hc1, by rw [Nat.add_assoc]; exact hc2⟩
    obtain ⟨l, hl1, hl2⟩ := choose_list each
    exact ⟨l, ⟨hl1, hl2⟩, hl, hm⟩
/-- A slice of numbers, read. -/
theorem ints_read {H : Type} {enc : TypeId × Value → H} {W : World} {A : Option Addr} {len cap base fuel : Nat} {sp : Nat → Bool} {hd : Bool} {x : DataW H × List MemPlace}
    (h : DataW.trod enc Try.prog W base sp hd fuel 22 [.slice A len cap] = some x) (hsp : ∀ b, sp b = true) : ∃ l, Ints W A len l ∧ len ≤ cap ∧ cap ≤ maxLen := by
  rcases open_ints Try.underlying22 Try.underlying3 (by kernel_rfl) h with ⟨hcs, _⟩ | ⟨x, l, c, zs, hcs, _, hl, hm, hz, _, hcell, hwz⟩
  · simp at hcs
    obtain ⟨rfl, rfl, rfl⟩ := hcs
    exact ⟨[], ints_nil W, by omega, by unfold maxLen; omega⟩
  · simp at hcs
    obtain ⟨rfl, rfl, rfl⟩ := hcs
    rw [hsp] at hz
    exact ⟨zs.take len, ints_row hl (by simpa using hz) hcell hwz, hl, hm⟩
end Go.Proofs.Ytfelhepdcnckhaa
