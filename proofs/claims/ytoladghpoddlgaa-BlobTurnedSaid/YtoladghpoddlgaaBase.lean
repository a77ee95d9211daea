/- Arguments read: lists of numbers, lists of pages. -/
import Derived.Test.YtoladghpoddlgaaMem
import Derived.Test.YtoladghpoddlgaaNums
import Derived.Deep.Slices
import Derived.Lib.SmallJoins
import Derived.Deep.Fields
import Derived.SliceStrings
import Derived.OpenShut
import Derived.ChangeOld
import Derived.ChangeSame
import Derived.Below
import Derived.Carry
namespace Go.Proofs.Ytoladghpoddlgaa
open Go.ChangeShapes Go.WideShapes Go.ChangeAt Go.RowKit Go.Joins
set_option linter.unusedVariables false
set_option linter.unusedSimpArgs false
set_option maxRecDepth 100000
theorem int_range {n : Int} (h : (Lit.int .i64 n).wf = true) : -9223372036854775808 ≤ n ∧ n ≤ 9223372036854775807 := by
  have b1 : IntKind.i64.min = -9223372036854775808 := rfl
  have b2 : IntKind.i64.max = 9223372036854775807 := rfl
  simpa only [Lit.wf, Bool.and_eq_true, decide_eq_true_eq, b1, b2] using h
/-! A slice of numbers that came in. -/
def Ints (w : World) (A : Option Addr) (len : Nat) (l : List Int) : Prop :=
  l.length = len ∧ ∀ k, k < len → ∃ b off, A = some ⟨b, off, none⟩ ∧ b < w.heap.size ∧ w.cell? ⟨b, off + k, none⟩ = some (.int .i64 (l.getD k 0)) ∧ -9223372036854775808 ≤ l.getD k 0 ∧ l.getD k 0 ≤ 9223372036854775807
theorem ints_nil (w : World) : Ints w none 0 [] := ⟨rfl, fun k hk => by omega⟩
theorem ints_row {w : World} {x : Addr} {len cap : Nat} {zs : List Int} (hl : len ≤ cap) (hz : zs.length = cap) (hc : ∀ i, i < zs.length → w.cell? (x.add i) = some (.int .i64 (zs.getD i 0))) (hw : ∀ n ∈ zs, (Lit.int .i64 n).wf = true) :
    Ints w (some x) len (zs.take len) := by
  refine ⟨by simp; omega, fun k hk => ?_⟩
  obtain ⟨b, off, spot⟩ := x
  have h0 := hc k (by omega)
  have hspot : spot = none := by simpa [Addr.add] using World.cell?_spot (hc 0 (by omega))
  subst hspot
  rw [add_plain] at h0
  have hg : (zs.take len).getD k 0 = zs.getD k 0 := by simp [List.getD, hk]
  have hm : zs.getD k 0 ∈ zs := by
    rw [List.getD, List.getElem?_eq_getElem (by omega)]
    exact List.getElem_mem _
  have hwf := int_range (hw _ hm)
  refine ⟨b, off, rfl, World.block_lt_of_cell? w _ h0, ?_, ?_, ?_⟩
  · rw [hg]; exact h0
  · rw [hg]; exact hwf.1
  · rw [hg]; exact hwf.2
theorem ints_read {H : Type} {enc : TypeId × Value → H} {W : World} {A : Option Addr} {len cap base fuel : Nat} {sp : Nat → Bool} {hd : Bool} {x : DataW H × List MemPlace}
    (h : DataW.trod enc Try.prog W base sp hd fuel 22 [.slice A len cap] = some x) (hsp : ∀ b, sp b = true) : ∃ l, Ints W A len l ∧ len ≤ cap ∧ cap ≤ maxLen := by
  rcases open_ints Try.underlying22 Try.underlying3 (by kernel_rfl) h with ⟨hcs, _⟩ | ⟨x, l, c, zs, hcs, _, hl, hm, hz, _, hcell, hwz⟩
  · simp at hcs
    obtain ⟨rfl, rfl, rfl⟩ := hcs
    exact ⟨[], ints_nil W, by omega, by unfold maxLen; omega⟩
  · simp at hcs
    obtain ⟨rfl, rfl, rfl⟩ := hcs
    rw [hsp] at hz
    exact ⟨zs.take len, ints_row hl (by simpa using hz) hcell hwz, hl, hm⟩
theorem Ints.at {W : World} {A : Option Addr} {n : Nat} {l : List Int} (h : Ints W A n l) {i : Nat} (hi : i < n) {w : World} (hb : Below W.heap.size W w) : ∃ b off, A = some ⟨b, off, none⟩ ∧ b < W.heap.size ∧ w.cell? ⟨b, off + i, none⟩ = some (.int .i64 (l.getD i 0)) ∧ -9223372036854775808 ≤ l.getD i 0 ∧ l.getD i 0 ≤ 9223372036854775807 := by
  obtain ⟨b, off, h1, h2, h3, h4⟩ := h.2 i hi
  exact ⟨b, off, h1, h2, (hb.cell (p := ⟨b, off + i, none⟩) h2).trans h3, h4⟩
def PgsL (w : World) (A : Option Addr) (n : Nat) (l : List Pg) : Prop := l.length = n ∧ Pgs w.heap.size w A l
theorem choose_pgs {P : Nat → Pg → Prop} : ∀ {n : Nat}, (∀ k, k < n → ∃ o, P k o) → ∃ l : List Pg, l.length = n ∧ ∀ k, k < n → P k (l.getD k nilP)
  | 0, _ => ⟨[], rfl, fun k hk => by omega⟩
  | n + 1, h => by
    obtain ⟨l, hl, hp⟩ := choose_pgs (n := n) fun k hk => h k (by omega)
    obtain ⟨o, ho⟩ := h n (by omega)
    refine ⟨l ++ [o], by simp [hl], fun k hk => ?_⟩
    by_cases e : k < n
    · have : (l ++ [o]).getD k nilP = l.getD k nilP := by simp [List.getD, List.getElem?_append_left (show k < l.length by omega)]
      rw [this]
      exact hp k e
    · obtain rfl : k = n := by omega
      have : (l ++ [o]).getD k nilP = o := by simp [List.getD, hl]
      rw [this]
      exact ho
theorem pgs_read {H : Type} {enc : TypeId × Value → H} {W : World} {A : Option Addr} {len cap base fuel : Nat} {sp : Nat → Bool} {hd : Bool} {x : DataW H × List MemPlace}
    (h : DataW.trod enc Try.prog W base sp hd fuel 23 [.slice A len cap] = some x) (hsp : ∀ b, sp b = true) : ∃ l, PgsL W A len l ∧ len ≤ cap ∧ cap ≤ maxLen := by
  have hce : Try.prog.cellsOf 26 = 4 := by kernel_rfl
  rcases Go.Deep.open_slice Try.underlying23 h with ⟨hcs, _⟩ | ⟨a, len', cap', m, n, D, Pl, hcs, _, hl, hm, hmm, _, hi⟩
  · simp at hcs
    obtain ⟨rfl, rfl, rfl⟩ := hcs
    exact ⟨[], ⟨rfl, Pgs.nil _ _ _⟩, by omega, by unfold maxLen; omega⟩
  · simp at hcs
    obtain ⟨rfl, rfl, rfl⟩ := hcs
    have hmm' : m = cap := by rw [hmm, hsp a.block]; simp
    subst hmm'
    have hplain : ∀ k, k < len → a.spot = none := fun k hk => by
      obtain ⟨cs', hc, _⟩ := hi 0 (by omega)
      rw [hce] at hc
      obtain ⟨_, h5, hat⟩ := World.cells?_some hc
      have h0 := hat 0 (by omega)
      rw [List.getElem?_eq_getElem (by omega)] at h0
      have := World.cell?_spot h0
      simpa [Addr.add] using this
    have each : ∀ k, k < len → ∃ o : Pg, ∃ b off, (some a : Option Addr) = some ⟨b, off, none⟩ ∧ b < W.heap.size ∧ PgAt W b (off + k * 4) o ∧ o.b.size ≤ maxLen := by
      intro k hk
      have hspot := hplain k hk
      obtain ⟨b, off, spot⟩ := a
      dsimp only at hspot
      subst hspot
      obtain ⟨cs', hc, ht⟩ := hi k (by omega)
      rw [hce] at hc
      obtain ⟨_, h5, hat⟩ := World.cells?_some hc
      obtain ⟨xs, n', _, _, _, hxl, hf⟩ := DataW.trod_struct Try.underlying26 ht
      obtain ⟨v0, v1, v2, v3, rfl⟩ : ∃ v0 v1 v2 v3, cs' = [v0, v1, v2, v3] := by
        rcases cs' with _ | ⟨v0, _ | ⟨v1, _ | ⟨v2, _ | ⟨v3, _ | ⟨v4, r⟩⟩⟩⟩⟩ <;> simp at h5
        exact ⟨_, _, _, _, rfl⟩
      have c1 : Try.prog.cellsOf 3 = 1 := by kernel_rfl
      have c2 : Try.prog.cellsOf 9 = 1 := by kernel_rfl
      have t0 : DataW.trod enc Try.prog W base sp hd n' 3 (List.take (Try.prog.cellsOf 3) (List.drop 0 [v0, v1, v2, v3])) = xs[0]? := hf 0 _ rfl
      have t1 : DataW.trod enc Try.prog W base sp hd n' 3 (List.take (Try.prog.cellsOf 3) (List.drop 1 [v0, v1, v2, v3])) = xs[1]? := hf 1 _ rfl
      have t2 : DataW.trod enc Try.prog W base sp hd n' 3 (List.take (Try.prog.cellsOf 3) (List.drop 2 [v0, v1, v2, v3])) = xs[2]? := hf 2 _ rfl
      have t3 : DataW.trod enc Try.prog W base sp hd n' 9 (List.take (Try.prog.cellsOf 9) (List.drop 3 [v0, v1, v2, v3])) = xs[3]? := hf 3 _ rfl
      rw [c2] at t3
      rw [c1] at t0 t1 t2
      have hx : ∀ j, j < 4 → ∃ y, xs[j]? = some y := fun j hj => ⟨xs[j]'(by rw [hxl]; exact hj), List.getElem?_eq_getElem _⟩
      obtain ⟨y0, z0⟩ := hx 0 (by omega)
      obtain ⟨y1, z1⟩ := hx 1 (by omega)
      obtain ⟨y2, z2⟩ := hx 2 (by omega)
      obtain ⟨y3, z3⟩ := hx 3 (by omega)
      rw [z0] at t0
      rw [z1] at t1
      rw [z2] at t2
      rw [z3] at t3
      have u0 : DataW.trod enc Try.prog W base sp hd n' 3 [v0] = some y0 := t0
      have u1 : DataW.trod enc Try.prog W base sp hd n' 3 [v1] = some y1 := t1
      have u2 : DataW.trod enc Try.prog W base sp hd n' 3 [v2] = some y2 := t2
      have u3 : DataW.trod enc Try.prog W base sp hd n' 9 [v3] = some y3 := t3
      obtain ⟨i0, e0, _, w0⟩ := DataW.trod_int (P := Try.prog) Try.underlying3 u0
      obtain ⟨i1, e1, _, w1⟩ := DataW.trod_int (P := Try.prog) Try.underlying3 u1
      obtain ⟨i2, e2, _, w2⟩ := DataW.trod_int (P := Try.prog) Try.underlying3 u2
      obtain ⟨s3, e3, _, w3⟩ := DataW.trod_string (P := Try.prog) Try.underlying9 u3
      simp only [List.cons.injEq, and_true] at e0 e1 e2 e3
      subst e0 e1 e2 e3
      have hc0 := hat 0 (by omega)
      have hc1 := hat 1 (by omega)
      have hc2 := hat 2 (by omega)
      have hc3 := hat 3 (by omega)
      rw [add_plain, add_plain] at hc0 hc1 hc2 hc3
      exact ⟨⟨i0, i1, i2, s3⟩, b, off, rfl, World.block_lt_of_cell? W _ hc0, ⟨hc0, hc1, hc2, hc3⟩, w3⟩
    obtain ⟨l, hl1, hl2⟩ := choose_pgs each
    refine ⟨l, ⟨hl1, fun k hk => ?_, fun p hp => ?_, by omega⟩, hl, hm⟩
    · obtain ⟨b, off, h1, h2, h3, _⟩ := hl2 k (by omega)
      exact ⟨b, off, h1, h2, h3⟩
    · obtain ⟨k, hk, rfl⟩ := List.getElem_of_mem hp
      obtain ⟨b, off, _, _, _, h4⟩ := hl2 k (by omega)
      rw [getD_at hk] at h4
      exact h4
end Go.Proofs.Ytoladghpoddlgaa
