/- Arguments read: lists of things that are done to a page. -/
import Derived.Test.YtljegjcajlkgiaaGreatLaws
namespace Go.Proofs.YtljegjcajlkgiaaGreat
open Go.ChangeShapes Go.WideShapes Go.ChangeAt Go.RowKit Go.Joins
set_option linter.unusedVariables false
set_option linter.unusedSimpArgs false
set_option maxRecDepth 100000
structure Opp where
  kind : Int
  c : Ce
def nilO : Opp := ⟨0, nilC⟩
/-- A thing that is done, at this address. -/
def OpAt (w : World) (b off : Nat) (o : Opp) : Prop := w.cell? ⟨b, off, none⟩ = some (.int .i64 o.kind) ∧ CeAt w b (off + 1) o.c
def OpsL (w : World) (A : Option Addr) (n : Nat) (l : List Opp) : Prop := l.length = n ∧ ∀ k, k < n → ∃ b off, A = some ⟨b, off, none⟩ ∧ b < w.heap.size ∧ OpAt w b (off + k * 5) (l.getD k nilO) ∧ (l.getD k nilO).c.key.size ≤ maxLen ∧ (l.getD k nilO).c.val.size ≤ maxLen
theorem OpAt.kept {C : Nat} {w w' : World} {b off : Nat} {o : Opp} (h : OpAt w b off o) (hC : b < C) (hb : Below C w w') : OpAt w' b off o := ⟨(hb.cell (p := ⟨b, off, none⟩) hC).trans h.1, h.2.kept hC hb⟩
theorem choose_ops {P : Nat → Opp → Prop} : ∀ {n : Nat}, (∀ k, k < n → ∃ o, P k o) → ∃ l : List Opp, l.length = n ∧ ∀ k, k < n → P k (l.getD k nilO)
  | 0, _ => ⟨[], rfl, fun k hk => by omega⟩
  | n + 1, h => by
    obtain ⟨l, hl, hp⟩ := choose_ops (n := n) fun k hk => h k (by omega)
    obtain ⟨o, ho⟩ := h n (by omega)
    refine ⟨l ++ [o], by simp [hl], fun k hk => ?_⟩
    by_cases e : k < n
    · have : (l ++ [o]).getD k nilO = l.getD k nilO := by simp [List.getD, List.getElem?_append_left (show k < l.length by omega)]
      rw [this]
      exact hp k e
    · obtain rfl : k = n := by omega
      have : (l ++ [o]).getD k nilO = o := by simp [List.getD, hl]
      rw [this]
      exact ho
theorem ops_read {H : Type} {enc : TypeId × Value → H} {W : World} {A : Option Addr} {len cap base fuel : Nat} {sp : Nat → Bool} {hd : Bool} {x : DataW H × List MemPlace}
    (h : DataW.trod enc Tryz.prog W base sp hd fuel 24 [.slice A len cap] = some x) (hsp : ∀ b, sp b = true) : ∃ l, OpsL W A len l ∧ len ≤ cap ∧ cap ≤ maxLen := by
  have hce : Tryz.prog.cellsOf 44 = 5 := by kernel_rfl
  rcases Go.Deep.open_slice Tryz.underlying24 h with ⟨hcs, _⟩ | ⟨a, len', cap', m, n, D, Pl, hcs, _, hl, hm, hmm, _, hi⟩
  · simp at hcs
    obtain ⟨rfl, rfl, rfl⟩ := hcs
    exact ⟨[], ⟨rfl, fun k hk => by omega⟩, by omega, by unfold maxLen; omega⟩
  · simp at hcs
    obtain ⟨rfl, rfl, rfl⟩ := hcs
    have hmm' : m = cap := by rw [hmm, hsp a.block]; simp
    subst hmm'
    have hplain : ∀ k, k < len → a.spot = none := fun k hk => by
      obtain ⟨cs', hc, _⟩ := hi 0 (by omega)
      rw [hce] at hc
      obtain ⟨_, h5, hat⟩ := World.cells?_some hc
      have h0 := hat 0 (by omega)
      rw [List.getElem?_eq_getElem (by omega)] at h0
      have := World.cell?_spot h0
      simpa [Addr.add] using this
    have each : ∀ k, k < len → ∃ o : Opp, ∃ b off, (some a : Option Addr) = some ⟨b, off, none⟩ ∧ b < W.heap.size ∧ OpAt W b (off + k * 5) o ∧ o.c.key.size ≤ maxLen ∧ o.c.val.size ≤ maxLen := by
      intro k hk
      have hspot := hplain k hk
      obtain ⟨b, off, spot⟩ := a
      dsimp only at hspot
      subst hspot
      obtain ⟨cs', hc, ht⟩ := hi k (by omega)
      rw [hce] at hc
      obtain ⟨_, h5, hat⟩ := World.cells?_some hc
      obtain ⟨xs, n', _, _, _, hxl, hf⟩ := DataW.trod_struct Tryz.underlying44 ht
      obtain ⟨q, v0, v1, v2, v3, rfl⟩ : ∃ q v0 v1 v2 v3, cs' = [q, v0, v1, v2, v3] := by
        rcases cs' with _ | ⟨q, _ | ⟨v0, _ | ⟨v1, _ | ⟨v2, _ | ⟨v3, _ | ⟨v4, r⟩⟩⟩⟩⟩⟩ <;> simp at h5
        exact ⟨_, _, _, _, _, rfl⟩
      have c1 : Tryz.prog.cellsOf 3 = 1 := by kernel_rfl
      have c2 : Tryz.prog.cellsOf 9 = 1 := by kernel_rfl
      have c4 : Tryz.prog.cellsOf 42 = 4 := by kernel_rfl
      have tq : DataW.trod enc Tryz.prog W base sp hd n' 3 (List.take (Tryz.prog.cellsOf 3) (List.drop 0 [q, v0, v1, v2, v3])) = xs[0]? := hf 0 _ rfl
      have tc : DataW.trod enc Tryz.prog W base sp hd n' 42 (List.take (Tryz.prog.cellsOf 42) (List.drop 1 [q, v0, v1, v2, v3])) = xs[1]? := hf 1 _ rfl
      rw [c1] at tq
      rw [c4] at tc
      have hxl2 : xs.length = 2 := hxl
      obtain ⟨yq, yc, rfl⟩ : ∃ yq yc, xs = [yq, yc] := by
        rcases xs with _ | ⟨v0, _ | ⟨v1, _ | ⟨v2, r⟩⟩⟩ <;> simp at hxl2
        exact ⟨_, _, rfl⟩
      have uq : DataW.trod enc Tryz.prog W base sp hd n' 3 [q] = some yq := tq
      have uc : DataW.trod enc Tryz.prog W base sp hd n' 42 [v0, v1, v2, v3] = some yc := tc
      obtain ⟨iq, eq, _, wq⟩ := DataW.trod_int (P := Tryz.prog) Tryz.underlying3 uq
      obtain ⟨ys, n2, _, _, _, hyl, hg⟩ := DataW.trod_struct Tryz.underlying42 uc
      have t0 : DataW.trod enc Tryz.prog W base sp hd n2 9 (List.take (Tryz.prog.cellsOf 9) (List.drop 0 [v0, v1, v2, v3])) = ys[0]? := hg 0 _ rfl
      have t1 : DataW.trod enc Tryz.prog W base sp hd n2 9 (List.take (Tryz.prog.cellsOf 9) (List.drop 1 [v0, v1, v2, v3])) = ys[1]? := hg 1 _ rfl
      have t2 : DataW.trod enc Tryz.prog W base sp hd n2 3 (List.take (Tryz.prog.cellsOf 3) (List.drop 2 [v0, v1, v2, v3])) = ys[2]? := hg 2 _ rfl
      have t3 : DataW.trod enc Tryz.prog W base sp hd n2 3 (List.take (Tryz.prog.cellsOf 3) (List.drop 3 [v0, v1, v2, v3])) = ys[3]? := hg 3 _ rfl
      rw [c2] at t0 t1
      rw [c1] at t2 t3
      have hyl4 : ys.length = 4 := hyl
      obtain ⟨y0, y1, y2, y3, rfl⟩ : ∃ y0 y1 y2 y3, ys = [y0, y1, y2, y3] := by
        rcases ys with _ | ⟨v0, _ | ⟨v1, _ | ⟨v2, _ | ⟨v3, _ | ⟨v4, r⟩⟩⟩⟩⟩ <;> simp at hyl4
        exact ⟨_, _, _, _, rfl⟩
      have u0 : DataW.trod enc Tryz.prog W base sp hd n2 9 [v0] = some y0 := t0
      have u1 : DataW.trod enc Tryz.prog W base sp hd n2 9 [v1] = some y1 := t1
      have u2 : DataW.trod enc Tryz.prog W base sp hd n2 3 [v2] = some y2 := t2
      have u3 : DataW.trod enc Tryz.prog W base sp hd n2 3 [v3] = some y3 := t3
      obtain ⟨s0, e0, _, w0⟩ := DataW.trod_string (P := Tryz.prog) Tryz.underlying9 u0
      obtain ⟨s1, e1, _, w1⟩ := DataW.trod_string (P := Tryz.prog) Tryz.underlying9 u1
      obtain ⟨i2, e2, _, w2⟩ := DataW.trod_int (P := Tryz.prog) Tryz.underlying3 u2
      obtain ⟨i3, e3, _, w3⟩ := DataW.trod_int (P := Tryz.prog) Tryz.underlying3 u3
      simp only [List.cons.injEq, and_true] at e0 e1 e2 e3 eq
      subst e0 e1 e2 e3 eq
      have hcq := hat 0 (by omega)
      have hc0 := hat 1 (by omega)
      have hc1 := hat 2 (by omega)
      have hc2 := hat 3 (by omega)
      have hc3 := hat 4 (by omega)
      rw [add_plain, add_plain] at hcq hc0 hc1 hc2 hc3
      exact ⟨⟨iq, ⟨s0, s1, i2, i3⟩⟩, b, off, rfl, World.block_lt_of_cell? W _ hcq, ⟨hcq, hc0, hc1, hc2, hc3⟩, w0, w1⟩
    obtain ⟨l, hl1, hl2⟩ := choose_ops each
    exact ⟨l, ⟨hl1, hl2⟩, hl, hm⟩
/-- The box of a thing that is done. -/
def OBox (w : World) (B : Nat) (o : Opp) : Prop := w.heap[B]? = some (.cells #[.int .i64 o.kind, .string o.c.key, .string o.c.val, .int .i64 o.c.blob, .int .i64 o.c.size] 44 (0, 0))
theorem OBox.cells {w : World} {B : Nat} {o : Opp} (h : OBox w B o) : w.cell? ⟨B, 0, none⟩ = some (.int .i64 o.kind) ∧ w.cell? ⟨B, 1, none⟩ = some (.string o.c.key) ∧ w.cell? ⟨B, 2, none⟩ = some (.string o.c.val) ∧ w.cell? ⟨B, 3, none⟩ = some (.int .i64 o.c.blob) ∧ w.cell? ⟨B, 4, none⟩ = some (.int .i64 o.c.size) :=
  ⟨(cell_of_row _ _ _ _ _ _ h).trans rfl, (cell_of_row _ _ _ _ _ _ h).trans rfl, (cell_of_row _ _ _ _ _ _ h).trans rfl, (cell_of_row _ _ _ _ _ _ h).trans rfl, (cell_of_row _ _ _ _ _ _ h).trans rfl⟩
theorem OBox.lt {w : World} {B : Nat} {o : Opp} (h : OBox w B o) : B < w.heap.size := (Array.getElem?_eq_some_iff.1 h).1
theorem OBox.kept {w w' : World} {B : Nat} {o : Opp} (h : OBox w B o) (hb : Below w.heap.size w w') : OBox w' B o := (hb.block _ h.lt).trans h
theorem OBox.new (w : World) (o : Opp) : OBox (w.alloc (.cells #[.int .i64 o.kind, .string o.c.key, .string o.c.val, .int .i64 o.c.blob, .int .i64 o.c.size] 44)) w.heap.size o := heap_alloc_new w _
end Go.Proofs.YtljegjcajlkgiaaGreat
