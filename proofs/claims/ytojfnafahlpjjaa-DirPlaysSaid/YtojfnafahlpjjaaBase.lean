/- Arguments read: pages, lists of numbers, lists of things that are done; what the rows' listed tables ask. -/
import Derived.Test.YtojfnafahlpjjaaChecked
import Derived.Test.YtojfnafahlpjjaaAlive
import Derived.WalkKit
import Derived.ProofKit
import Derived.Test.YtojfnafahlpjjaaRows
import Derived.Deep.Slices
import Derived.Lib.SmallJoins
import Derived.Deep.Fields
import Derived.OpenShut
import Derived.ChangeOld
import Derived.ChangeSame
import Derived.Below
import Derived.Carry
namespace Go.Proofs.Ytojfnafahlpjjaa
open Go.ChangeShapes Go.WideShapes Go.ChangeAt Go.RowKit Go.Joins
set_option linter.unusedVariables false
set_option linter.unusedSimpArgs false
set_option maxRecDepth 100000
theorem own : ownKnob Try.prog.godebug = none := by kernel_rfl
theorem laidOut : laidOutB Try.prog = true := by kernel_rfl
/-- A page that came in: its four fields; and shut again, in any world. -/
theorem open_page {H : Type} {enc : TypeId × Value → H} {W : World} {v : Value} {d : DataW H} {p : List MemPlace} {b0 : Nat} {sp : Nat → Bool} {hd : Bool}
    (hv : Value.okWide Try.prog W .any b0 23 v) (h : DataW.Trod enc Try.prog W 0 sp hd 23 v d p) :
    ∃ (k dp n : Int) (b : ByteArray), v = .agg #[.int .i64 k, .int .i64 dp, .int .i64 n, .string b] ∧ (Lit.int .i64 k).wf = true ∧ (Lit.int .i64 dp).wf = true ∧ (Lit.int .i64 n).wf = true ∧ b.size ≤ maxLen ∧ ∀ (W' : World) (sp' : Nat → Bool), DataW.Trod enc Try.prog W' 0 sp' hd 23 v d p := by
  obtain ⟨v0, v1, v2, v3, y0, y1, y2, y3, n, rfl, rfl, rfl, h0, h1, h2, h3⟩ := open_agg4 Try.underlying23 (by kernel_rfl) (by kernel_rfl) hv h
  obtain ⟨k0, e0, x0, g0⟩ := DataW.trod_int Try.underlying3 h0
  obtain ⟨k1, e1, x1, g1⟩ := DataW.trod_int Try.underlying3 h1
  obtain ⟨k2, e2, x2, g2⟩ := DataW.trod_int Try.underlying3 h2
  obtain ⟨s, e3, x3, g3⟩ := DataW.trod_string Try.underlying9 h3
  simp only [List.cons.injEq, and_true] at e0 e1 e2 e3
  subst e0 e1 e2 e3 x0 x1 x2 x3
  refine ⟨k0, k1, k2, s, rfl, g0, g1, g2, g3, fun W' sp' => ?_⟩
  exact shut_agg4 Try.underlying23 (by kernel_rfl) (by kernel_rfl) (field_of_Trod (shut_int Try.underlying3 g0) rfl) (field_of_Trod (shut_int Try.underlying3 g1) rfl) (field_of_Trod (shut_int Try.underlying3 g2) rfl) (field_of_Trod (Go.ChangeMaps.shut_string Try.underlying9 g3) rfl)
theorem int_range {n : Int} (h : (Lit.int .i64 n).wf = true) : -9223372036854775808 ≤ n ∧ n ≤ 9223372036854775807 := by
  have b1 : IntKind.i64.min = -9223372036854775808 := rfl
  have b2 : IntKind.i64.max = 9223372036854775807 := rfl
  simpa only [Lit.wf, Bool.and_eq_true, decide_eq_true_eq, b1, b2] using h
/-! A slice of numbers that came in. -/
def Ints (w : World) (A : Option Addr) (len : Nat) (l : List Int) : Prop :=
  l.length = len ∧ ∀ k, k < len → ∃ b off, A = some ⟨b, off, none⟩ ∧ b < w.heap.size ∧ w.cell? ⟨b, off + k, none⟩ = some (.int .i64 (l.getD k 0)) ∧ -9223372036854775808 ≤ l.getD k 0 ∧ l.getD k 0 ≤ 9223372036854775807
theorem ints_nil (w : World) : Ints w none 0 [] := ⟨rfl, fun k hk => by omega⟩
theorem ints_row {w : World} {x : Addr} {len cap : Nat} {zs : List Int} (hl : len ≤ cap) (hz : zs.length = cap) (hc : ∀ i, i < zs.length → w.cell? (x.add i) = some (.int .i64 (zs.getD i 0))) (hw : ∀ n ∈ zs, (Lit.int .i64 n).wf = true) :
    Ints w (some x) len (zs.take len) := by
  refine ⟨by simp; omega, fun k hk => ?_⟩
  obtain ⟨b, off, spot⟩ := x
  have h0 := hc k (by omega)
  have hspot : spot = none := by simpa [Addr.add] using World.cell?_spot (hc 0 (by omega))
  subst hspot
  rw [add_plain] at h0
  have hg : (zs.take len).getD k 0 = zs.getD k 0 := by simp [List.getD, hk]
  have hm : zs.getD k 0 ∈ zs := by
    rw [List.getD, List.getElem?_eq_getElem (by omega)]
    exact List.getElem_mem _
  have hwf := int_range (hw _ hm)
  refine ⟨b, off, rfl, World.block_lt_of_cell? w _ h0, ?_, ?_, ?_⟩
  · rw [hg]; exact h0
  · rw [hg]; exact hwf.1
  · rw [hg]; exact hwf.2
theorem ints_read {H : Type} {enc : TypeId × Value → H} {W : World} {A : Option Addr} {len cap base fuel : Nat} {sp : Nat → Bool} {hd : Bool} {x : DataW H × List MemPlace}
    (h : DataW.trod enc Try.prog W base sp hd fuel 29 [.slice A len cap] = some x) (hsp : ∀ b, sp b = true) : ∃ l, Ints W A len l ∧ len ≤ cap ∧ cap ≤ maxLen := by
  rcases open_ints Try.underlying29 Try.underlying3 (by kernel_rfl) h with ⟨hcs, _⟩ | ⟨x, l, c, zs, hcs, _, hl, hm, hz, _, hcell, hwz⟩
  · simp at hcs
    obtain ⟨rfl, rfl, rfl⟩ := hcs
    exact ⟨[], ints_nil W, by omega, by unfold maxLen; omega⟩
  · simp at hcs
    obtain ⟨rfl, rfl, rfl⟩ := hcs
    rw [hsp] at hz
    exact ⟨zs.take len, ints_row hl (by simpa using hz) hcell hwz, hl, hm⟩
theorem Ints.at {W : World} {A : Option Addr} {n : Nat} {l : List Int} (h : Ints W A n l) {i : Nat} (hi : i < n) {w : World} (hb : Below W.heap.size W w) : ∃ b off, A = some ⟨b, off, none⟩ ∧ b < W.heap.size ∧ w.cell? ⟨b, off + i, none⟩ = some (.int .i64 (l.getD i 0)) ∧ -9223372036854775808 ≤ l.getD i 0 ∧ l.getD i 0 ≤ 9223372036854775807 := by
  obtain ⟨b, off, h1, h2, h3, h4⟩ := h.2 i hi
  exact ⟨b, off, h1, h2, (hb.cell (p := ⟨b, off + i, none⟩) h2).trans h3, h4⟩
/-! A slice of things that are done. -/
structure Opp where
  kind : Int
  bits : Int
  depth : Int
  n : Int
def nilO : Opp := ⟨0, 0, 0, 0⟩
def OpAt (w : World) (b off : Nat) (o : Opp) : Prop := w.cell? ⟨b, off, none⟩ = some (.int .i64 o.kind) ∧ w.cell? ⟨b, off + 1, none⟩ = some (.int .i64 o.bits) ∧ w.cell? ⟨b, off + 2, none⟩ = some (.int .i64 o.depth) ∧ w.cell? ⟨b, off + 3, none⟩ = some (.int .i64 o.n)
def inI (n : Int) : Prop := -9223372036854775808 ≤ n ∧ n ≤ 9223372036854775807
def OpR (o : Opp) : Prop := inI o.bits ∧ inI o.depth ∧ inI o.n
def OpsL (w : World) (A : Option Addr) (n : Nat) (l : List Opp) : Prop := l.length = n ∧ ∀ k, k < n → ∃ b off, A = some ⟨b, off, none⟩ ∧ b < w.heap.size ∧ OpAt w b (off + k * 4) (l.getD k nilO) ∧ OpR (l.getD k nilO)
theorem choose_ops {P : Nat → Opp → Prop} : ∀ {n : Nat}, (∀ k, k < n → ∃ o, P k o) → ∃ l : List Opp, l.length = n ∧ ∀ k, k < n → P k (l.getD k nilO)
  | 0, _ => ⟨[], rfl, fun k hk => by omega⟩
  | n + 1, h => by
    obtain ⟨l, hl, hp⟩ := choose_ops (n := n) fun k hk => h k (by omega)
    obtain ⟨o, ho⟩ := h n (by omega)
    refine ⟨l ++ [o], by simp [hl], fun k hk => ?_⟩
    by_cases e : k < n
    · have : (l ++ [o]).getD k nilO = l.getD k nilO := by simp [List.getD, List.getElem?_append_left (show k < l.length by omega)]
      rw [this]
      exact hp k e
    · obtain rfl : k = n := by omega
      have : (l ++ [o]).getD k nilO = o := by simp [List.getD, hl]
      rw [this]
      exact ho
theorem ops_read {H : Type} {enc : TypeId × Value → H} {W : World} {A : Option Addr} {len cap base fuel : Nat} {sp : Nat → Bool} {hd : Bool} {x : DataW H × List MemPlace}
    (h : DataW.trod enc Try.prog W base sp hd fuel 24 [.slice A len cap] = some x) (hsp : ∀ b, sp b = true) : ∃ l, OpsL W A len l ∧ len ≤ cap ∧ cap ≤ maxLen := by
  have hce : Try.prog.cellsOf 43 = 4 := by kernel_rfl
  rcases Go.Deep.open_slice Try.underlying24 h with ⟨hcs, _⟩ | ⟨a, len', cap', m, n, D, Pl, hcs, _, hl, hm, hmm, _, hi⟩
  · simp at hcs
    obtain ⟨rfl, rfl, rfl⟩ := hcs
    exact ⟨[], ⟨rfl, fun k hk => by omega⟩, by omega, by unfold maxLen; omega⟩
  · simp at hcs
    obtain ⟨rfl, rfl, rfl⟩ := hcs
    have hmm' : m = cap := by rw [hmm, hsp a.block]; simp
    subst hmm'
    have hplain : ∀ k, k < len → a.spot = none := fun k hk => by
      obtain ⟨cs', hc, _⟩ := hi 0 (by omega)
      rw [hce] at hc
      obtain ⟨_, h5, hat⟩ := World.cells?_some hc
      have h0 := hat 0 (by omega)
      rw [List.getElem?_eq_getElem (by omega)] at h0
      have := World.cell?_spot h0
      simpa [Addr.add] using this
    have each : ∀ k, k < len → ∃ o : Opp, ∃ b off, (some a : Option Addr) = some ⟨b, off, none⟩ ∧ b < W.heap.size ∧ OpAt W b (off + k * 4) o ∧ OpR o := by
      intro k hk
      have hspot := hplain k hk
      obtain ⟨b, off, spot⟩ := a
      dsimp only at hspot
      subst hspot
      obtain ⟨cs', hc, ht⟩ := hi k (by omega)
      rw [hce] at hc
      obtain ⟨_, h5, hat⟩ := World.cells?_some hc
      obtain ⟨xs, n', _, _, _, hxl, hf⟩ := DataW.trod_struct Try.underlying43 ht
      obtain ⟨v0, v1, v2, v3, rfl⟩ : ∃ v0 v1 v2 v3, cs' = [v0, v1, v2, v3] := by
        rcases cs' with _ | ⟨v0, _ | ⟨v1, _ | ⟨v2, _ | ⟨v3, _ | ⟨v4, r⟩⟩⟩⟩⟩ <;> simp at h5
        exact ⟨_, _, _, _, rfl⟩
      have c1 : Try.prog.cellsOf 3 = 1 := by kernel_rfl
      have t0 : DataW.trod enc Try.prog W base sp hd n' 3 (List.take (Try.prog.cellsOf 3) (List.drop 0 [v0, v1, v2, v3])) = xs[0]? := hf 0 _ rfl
      have t1 : DataW.trod enc Try.prog W base sp hd n' 3 (List.take (Try.prog.cellsOf 3) (List.drop 1 [v0, v1, v2, v3])) = xs[1]? := hf 1 _ rfl
      have t2 : DataW.trod enc Try.prog W base sp hd n' 3 (List.take (Try.prog.cellsOf 3) (List.drop 2 [v0, v1, v2, v3])) = xs[2]? := hf 2 _ rfl
      have t3 : DataW.trod enc Try.prog W base sp hd n' 3 (List.take (Try.prog.cellsOf 3) (List.drop 3 [v0, v1, v2, v3])) = xs[3]? := hf 3 _ rfl
      rw [c1] at t0 t1 t2 t3
      have hx : ∀ j, j < 4 → ∃ y, xs[j]? = some y := fun j hj => ⟨xs[j]'(by rw [hxl]; exact hj), List.getElem?_eq_getElem _⟩
      obtain ⟨y0, z0⟩ := hx 0 (by omega)
      rw [z0] at t0
      have u0 : DataW.trod enc Try.prog W base sp hd n' 3 [v0] = some y0 := t0
      obtain ⟨i0, e0, _, w0⟩ := DataW.trod_int (P := Try.prog) Try.underlying3 u0
      obtain ⟨y1, z1⟩ := hx 1 (by omega)
      rw [z1] at t1
      have u1 : DataW.trod enc Try.prog W base sp hd n' 3 [v1] = some y1 := t1
      obtain ⟨i1, e1, _, w1⟩ := DataW.trod_int (P := Try.prog) Try.underlying3 u1
      obtain ⟨y2, z2⟩ := hx 2 (by omega)
      rw [z2] at t2
      have u2 : DataW.trod enc Try.prog W base sp hd n' 3 [v2] = some y2 := t2
      obtain ⟨i2, e2, _, w2⟩ := DataW.trod_int (P := Try.prog) Try.underlying3 u2
      obtain ⟨y3, z3⟩ := hx 3 (by omega)
      rw [z3] at t3
      have u3 : DataW.trod enc Try.prog W base sp hd n' 3 [v3] = some y3 := t3
      obtain ⟨i3, e3, _, w3⟩ := DataW.trod_int (P := Try.prog) Try.underlying3 u3
      simp only [List.cons.injEq, and_true] at e0 e1 e2 e3
      subst e0 e1 e2 e3
      have hc0 := hat 0 (by omega)
      have hc1 := hat 1 (by omega)
      have hc2 := hat 2 (by omega)
      have hc3 := hat 3 (by omega)
      rw [add_plain, add_plain] at hc0 hc1 hc2 hc3
      exact ⟨⟨i0, i1, i2, i3⟩, b, off, rfl, World.block_lt_of_cell? W _ hc0, ⟨hc0, hc1, hc2, hc3⟩, int_range w1, int_range w2, int_range w3⟩
    obtain ⟨l, hl1, hl2⟩ := choose_ops each
    exact ⟨l, ⟨hl1, hl2⟩, hl, hm⟩
theorem OpsL.at {W : World} {A : Option Addr} {n : Nat} {l : List Opp} (h : OpsL W A n l) {i : Nat} (hi : i < n) {w : World} (hb : Below W.heap.size W w) : ∃ b off, A = some ⟨b, off, none⟩ ∧ b < W.heap.size ∧ w.cell? ⟨b, off + i * 4, none⟩ = some (.int .i64 (l.getD i nilO).kind) ∧ w.cell? ⟨b, off + i * 4 + 1, none⟩ = some (.int .i64 (l.getD i nilO).bits) ∧ w.cell? ⟨b, off + i * 4 + 2, none⟩ = some (.int .i64 (l.getD i nilO).depth) ∧ w.cell? ⟨b, off + i * 4 + 3, none⟩ = some (.int .i64 (l.getD i nilO).n) ∧ OpR (l.getD i nilO) := by
  obtain ⟨b, off, h1, h2, h3, h4⟩ := h.2 i hi
  exact ⟨b, off, h1, h2, (hb.cell (p := ⟨b, off + i * 4, none⟩) h2).trans h3.1, (hb.cell (p := ⟨b, off + i * 4 + 1, none⟩) h2).trans h3.2.1, (hb.cell (p := ⟨b, off + i * 4 + 2, none⟩) h2).trans h3.2.2.1, (hb.cell (p := ⟨b, off + i * 4 + 3, none⟩) h2).trans h3.2.2.2, h4⟩
/-- The box of a thing that is done. -/
def OBox (w : World) (B : Nat) (k b d n : Int) : Prop := w.heap[B]? = some (.cells #[.int .i64 k, .int .i64 b, .int .i64 d, .int .i64 n] 43 (0, 0))
theorem OBox.cells {w : World} {B : Nat} {k b d n : Int} (h : OBox w B k b d n) : w.cell? ⟨B, 0, none⟩ = some (.int .i64 k) ∧ w.cell? ⟨B, 1, none⟩ = some (.int .i64 b) ∧ w.cell? ⟨B, 2, none⟩ = some (.int .i64 d) ∧ w.cell? ⟨B, 3, none⟩ = some (.int .i64 n) :=
  ⟨(cell_of_row _ _ _ _ _ _ h).trans rfl, (cell_of_row _ _ _ _ _ _ h).trans rfl, (cell_of_row _ _ _ _ _ _ h).trans rfl, (cell_of_row _ _ _ _ _ _ h).trans rfl⟩
theorem OBox.lt {w : World} {B : Nat} {k b d n : Int} (h : OBox w B k b d n) : B < w.heap.size := (Array.getElem?_eq_some_iff.1 h).1
theorem OBox.kept {w w' : World} {B : Nat} {k b d n : Int} (h : OBox w B k b d n) (hb : Below w.heap.size w w') : OBox w' B k b d n := (hb.block _ h.lt).trans h
theorem OBox.new (w : World) (k b d n : Int) : OBox (w.alloc (.cells #[.int .i64 k, .int .i64 b, .int .i64 d, .int .i64 n] 43)) w.heap.size k b d n := heap_alloc_new w _
/-- What a page may not be. -/
theorem dirS_zero : dirS 0 0 [] = [] := dirS_no (fun h => by cases h.1)
end Go.Proofs.Ytojfnafahlpjjaa
