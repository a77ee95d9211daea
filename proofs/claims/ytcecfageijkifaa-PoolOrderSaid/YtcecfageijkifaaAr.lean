/- What a law is handed: numbers; operations. -/
import Derived.Test.YtcecfageijkifaaLo
import Derived.Deep.Slices
import Derived.Deep.Grids
import Derived.Lib.SmallJoins
import Derived.Deep.Fields
import Derived.OpenShut
import Derived.ChangeOld
import Derived.ChangeSame
namespace Go.Proofs.Ytcecfageijkifaa.Po
open Go.ChangeShapes Go.WideShapes Go.ChangeAt Go.RowKit Go.Joins Go.ChangeMaps
set_option linter.unusedVariables false
set_option linter.unusedSimpArgs false
set_option maxRecDepth 100000
theorem int_range {n : Int} (h : (Lit.int .i64 n).wf = true) : -9223372036854775808 ≤ n ∧ n ≤ 9223372036854775807 := by
  have b1 : IntKind.i64.min = -9223372036854775808 := rfl
  have b2 : IntKind.i64.max = 9223372036854775807 := rfl
  simpa only [Lit.wf, Bool.and_eq_true, decide_eq_true_eq, b1, b2] using h
/-! A slice of numbers that came in. -/
def Ints (w : World) (A : Option Addr) (len : Nat) (l : List Int) : Prop :=
  l.length = len ∧ ∀ k, k < len → ∃ b off, A = some ⟨b, off, none⟩ ∧ b < w.heap.size ∧ w.cell? ⟨b, off + k, none⟩ = some (.int .i64 (l.getD k 0)) ∧ -9223372036854775808 ≤ l.getD k 0 ∧ l.getD k 0 ≤ 9223372036854775807
theorem ints_nil (w : World) : Ints w none 0 [] := ⟨rfl, fun k hk => by omega⟩
theorem ints_row {w : World} {x : Addr} {len cap : Nat} {zs : List Int} (hl : len ≤ cap) (hz : zs.length = cap) (hc : ∀ i, i < zs.length → w.cell? (x.add i) = some (.int .i64 (zs.getD i 0))) (hw : ∀ n ∈ zs, (Lit.int .i64 n).wf = true) :
    Ints w (some x) len (zs.take len) := by
  refine ⟨by simp; omega, fun k hk => ?_⟩
  obtain ⟨b, off, spot⟩ := x
  have h0 := hc k (by omega)
  have hspot : spot = none := by simpa [Addr.add] using World.cell?_spot (hc 0 (by omega))
  subst hspot
  rw [add_plain] at h0
  have hg : (zs.take len).getD k 0 = zs.getD k 0 := by simp [List.getD, hk]
  have hm : zs.getD k 0 ∈ zs := by
    rw [List.getD, List.getElem?_eq_getElem (by omega)]
    exact List.getElem_mem _
  have hwf := int_range (hw _ hm)
  refine ⟨b, off, rfl, World.block_lt_of_cell? w _ h0, ?_, ?_, ?_⟩
  · rw [hg]; exact h0
  · rw [hg]; exact hwf.1
  · rw [hg]; exact hwf.2
theorem ints_read {H : Type} {enc : TypeId × Value → H} {W : World} {A : Option Addr} {len cap base fuel : Nat} {sp : Nat → Bool} {hd : Bool} {x : DataW H × List MemPlace}
    (h : DataW.trod enc Try.prog W base sp hd fuel 49 [.slice A len cap] = some x) (hsp : ∀ b, sp b = true) : ∃ l, Ints W A len l ∧ len ≤ cap ∧ cap ≤ maxLen := by
  rcases open_ints Try.underlying49 Try.underlying3 (by kernel_rfl) h with ⟨hcs, _⟩ | ⟨a, len', cap', zs, hcs, _, hl, hm, hz, _, hcell, hwz⟩
  · simp at hcs
    obtain ⟨rfl, rfl, rfl⟩ := hcs
    exact ⟨[], ⟨rfl, fun k hk => by omega⟩, by omega, by unfold maxLen; omega⟩
  · simp at hcs
    obtain ⟨rfl, rfl, rfl⟩ := hcs
    rw [hsp] at hz
    simp only [if_true] at hz
    refine ⟨zs.take len, ⟨by rw [List.length_take]; omega, fun k hk => ?_⟩, hl, hm⟩
    have hc := hcell k (by omega)
    have h0 := hcell 0 (by omega)
    obtain ⟨b, off, spot⟩ := a
    have hspot : spot = none := by simpa [Addr.add] using World.cell?_spot h0
    subst hspot
    rw [add_plain] at hc
    have e : (zs.take len).getD k 0 = zs.getD k 0 := by
      rw [List.getD_eq_getElem?_getD, List.getD_eq_getElem?_getD, List.getElem?_take, if_pos hk]
    have hkz : k < zs.length := by omega
    have hw := int_range (hwz (zs.getD k 0) (by rw [List.getD_eq_getElem?_getD, List.getElem?_eq_getElem hkz]; exact List.getElem_mem hkz))
    refine ⟨b, off, rfl, World.block_lt_of_cell? W _ hc, ?_⟩
    rw [e]
    exact ⟨hc, hw⟩
theorem choose_l {α : Type} {P : Nat → α → Prop} (d : α) : ∀ {n : Nat}, (∀ k, k < n → ∃ o, P k o) → ∃ l : List α, l.length = n ∧ ∀ k, k < n → P k (l.getD k d)
  | 0, _ => ⟨[], rfl, fun k hk => absurd hk (Nat.not_lt_zero _)⟩
  | n + 1, h => by
    obtain ⟨l, hl, hp⟩ := choose_l d (n := n) fun k hk => h k (by omega)
    obtain ⟨o, ho⟩ := h n (by omega)
    refine ⟨l ++ [o], by simp [hl], fun k hk => ?_⟩
    by_cases e : k < n
    · have : (l ++ [o]).getD k d = l.getD k d := by simp [List.getD, List.getElem?_append_left (show k < l.length by omega)]
      rw [this]
      exact hp k e
    · obtain rfl : k = n := by omega
      have : (l ++ [o]).getD k d = o := by simp [List.getD, hl]
      rw [this]
      exact ho
/-- Something that is done. -/
structure Ox where
  kind : Int
  page : Int
  lsn : Int
  b : BA
def nilO : Ox := ⟨0, 0, 0, []⟩
def ocs (o : Ox) : Array Value := #[.int .i64 o.kind, .int .i64 o.page, .int .i64 o.lsn, .string (str o.b)]
structure OxM (o : Ox) : Prop where
  kind : rng o.kind
  page : rng o.page
  lsn : rng o.lsn
  b : o.b.length ≤ maxLen
set_option maxHeartbeats 1000000 in
theorem op_cells {H : Type} {enc : TypeId × Value → H} {W : World} {v0 v1 v2 v3 : Value} {base fuel : Nat} {sp : Nat → Bool} {hd : Bool} {x : DataW H × List MemPlace}
    (hf1 : DataW.trod enc Try.prog W base sp hd fuel 36 [v0, v1, v2, v3] = some x) (hsp : ∀ b, sp b = true) : ∃ o, ocs o = #[v0, v1, v2, v3] ∧ OxM o := by
  obtain ⟨xs, n', _, _, _, hxl, hf⟩ := DataW.trod_struct Try.underlying36 hf1
  clear hf1
  have hx : ∀ j, j < 4 → ∃ y, xs[j]? = some y := fun j hj => ⟨xs[j]'(by rw [hxl]; exact hj), List.getElem?_eq_getElem _⟩
  have c0 : Try.prog.cellsOf 3 = 1 := by kernel_rfl
  have t0 : DataW.trod enc Try.prog W base sp hd n' 3 (List.take (Try.prog.cellsOf 3) (List.drop 0 [v0, v1, v2, v3])) = xs[0]? := hf 0 _ rfl
  rw [c0] at t0
  obtain ⟨y0, z0⟩ := hx 0 (by omega)
  rw [z0] at t0
  have u0 : DataW.trod enc Try.prog W base sp hd n' 3 [v0] = some y0 := t0
  clear t0 z0 c0
  have c1 : Try.prog.cellsOf 3 = 1 := by kernel_rfl
  have t1 : DataW.trod enc Try.prog W base sp hd n' 3 (List.take (Try.prog.cellsOf 3) (List.drop 1 [v0, v1, v2, v3])) = xs[1]? := hf 1 _ rfl
  rw [c1] at t1
  obtain ⟨y1, z1⟩ := hx 1 (by omega)
  rw [z1] at t1
  have u1 : DataW.trod enc Try.prog W base sp hd n' 3 [v1] = some y1 := t1
  clear t1 z1 c1
  have c2 : Try.prog.cellsOf 3 = 1 := by kernel_rfl
  have t2 : DataW.trod enc Try.prog W base sp hd n' 3 (List.take (Try.prog.cellsOf 3) (List.drop 2 [v0, v1, v2, v3])) = xs[2]? := hf 2 _ rfl
  rw [c2] at t2
  obtain ⟨y2, z2⟩ := hx 2 (by omega)
  rw [z2] at t2
  have u2 : DataW.trod enc Try.prog W base sp hd n' 3 [v2] = some y2 := t2
  clear t2 z2 c2
  have c3 : Try.prog.cellsOf 9 = 1 := by kernel_rfl
  have t3 : DataW.trod enc Try.prog W base sp hd n' 9 (List.take (Try.prog.cellsOf 9) (List.drop 3 [v0, v1, v2, v3])) = xs[3]? := hf 3 _ rfl
  rw [c3] at t3
  obtain ⟨y3, z3⟩ := hx 3 (by omega)
  rw [z3] at t3
  have u3 : DataW.trod enc Try.prog W base sp hd n' 9 [v3] = some y3 := t3
  clear t3 z3 c3
  obtain ⟨i0, e0, _, w0⟩ := DataW.trod_int (P := Try.prog) Try.underlying3 u0
  simp only [List.cons.injEq, and_true] at e0
  obtain ⟨i1, e1, _, w1⟩ := DataW.trod_int (P := Try.prog) Try.underlying3 u1
  simp only [List.cons.injEq, and_true] at e1
  obtain ⟨i2, e2, _, w2⟩ := DataW.trod_int (P := Try.prog) Try.underlying3 u2
  simp only [List.cons.injEq, and_true] at e2
  obtain ⟨s, e3, _, w3⟩ := DataW.trod_string (P := Try.prog) Try.underlying9 u3
  simp only [List.cons.injEq, and_true] at e3
  subst e0 e1 e2 e3
  exact ⟨⟨i0, i1, i2, s.data.toList⟩, rfl, ⟨int_range w0, int_range w1, int_range w2, w3⟩⟩
/-- A list of operations that came in: below C. -/
def OlM (C : Nat) (w : World) (A : Option Addr) (n : Nat) (l : List Ox) : Prop :=
  l.length = n ∧ n ≤ maxLen ∧ ∀ k, k < n → ∃ b off, A = some ⟨b, off, none⟩ ∧ b < C ∧ (∀ j u, (ocs (l.getD k nilO))[j]? = some u → w.cell? ⟨b, off + k * 4 + j, none⟩ = some u) ∧ OxM (l.getD k nilO)
theorem OlM.kept {C : Nat} {w w' : World} {A : Option Addr} {n : Nat} {l : List Ox} (h : OlM C w A n l) (hb : Below C w w') : OlM C w' A n l :=
  ⟨h.1, h.2.1, fun k hk => by
    obtain ⟨b, off, h1, h2, h3, h4⟩ := h.2.2 k hk
    exact ⟨b, off, h1, h2, fun j u hu => (hb.cell (p := ⟨b, off + k * 4 + j, none⟩) h2).trans (h3 j u hu), h4⟩⟩
theorem OlM.nil (C : Nat) (w : World) (A : Option Addr) : OlM C w A 0 [] := ⟨rfl, Nat.zero_le _, fun k hk => absurd hk (Nat.not_lt_zero _)⟩
theorem array4 {α : Type} {cs : Array α} (h : cs.size = 4) : ∃ c0 c1 c2 c3, cs = #[c0, c1, c2, c3] := by
  obtain ⟨l⟩ := cs
  simp only [List.size_toArray] at h
  match l, h with
  | [c0, c1, c2, c3], _ => exact ⟨c0, c1, c2, c3, rfl⟩
theorem ops_read {H : Type} {enc : TypeId × Value → H} {W : World} {v : Value} {base fuel : Nat} {sp : Nat → Bool} {hd : Bool} {x : DataW H × List MemPlace}
    (h : DataW.trod enc Try.prog W base sp hd fuel 22 [v] = some x) (hsp : ∀ b, sp b = true) : ∃ A n c l, v = .slice A n c ∧ OlM W.heap.size W A n l := by
  have hce : Try.prog.cellsOf 36 = 4 := by kernel_rfl
  rcases Go.Deep.open_slice Try.underlying22 h with ⟨hcs, _⟩ | ⟨a, len, cap, m, n, D, Pl, hcs, _, hl, hm, hmm, _, hi⟩
  · simp at hcs
    subst hcs
    exact ⟨none, 0, 0, [], rfl, OlM.nil _ _ _⟩
  · simp at hcs
    subst hcs
    have hmm' : m = cap := by rw [hmm, hsp a.block]; simp
    subst hmm'
    have hplain : ∀ k, k < len → a.spot = none := fun k hk => by
      obtain ⟨cs', hc, _⟩ := hi 0 (by omega)
      rw [hce] at hc
      obtain ⟨_, h5, hat⟩ := World.cells?_some hc
      have h0 := hat 0 (by omega)
      rw [List.getElem?_eq_getElem (by omega)] at h0
      have := World.cell?_spot h0
      simpa [Addr.add] using this
    have each : ∀ k, k < len → ∃ o : Ox, ∃ b off, (some a : Option Addr) = some ⟨b, off, none⟩ ∧ b < W.heap.size ∧ (∀ j u, (ocs o)[j]? = some u → W.cell? ⟨b, off + k * 4 + j, none⟩ = some u) ∧ OxM o := by
      intro k hk
      have hspot := hplain k hk
      obtain ⟨b, off, spot⟩ := a
      dsimp only at hspot
      subst hspot
      obtain ⟨cs', hc, ht⟩ := hi k (by omega)
      rw [hce] at hc
      obtain ⟨_, h5, hat⟩ := World.cells?_some hc
      obtain ⟨v0, v1, v2, v3, hcs⟩ := array4 (cs := cs'.toArray) (by rw [List.size_toArray]; exact h5)
      have hcs2 : cs' = [v0, v1, v2, v3] := by simpa using congrArg Array.toList hcs
      rw [hcs2] at ht
      obtain ⟨o, hr, hm⟩ := op_cells ht hsp
      have hc0 := hat 0 (by omega)
      rw [hcs2] at hc0
      rw [add_plain, add_plain] at hc0
      refine ⟨o, b, off, rfl, World.block_lt_of_cell? W _ hc0, fun j u hu => ?_, hm⟩
      rw [hr] at hu
      have hj : j < 4 := by
        have := (Array.getElem?_eq_some_iff.1 hu).1
        simpa using this
      have h1 := hat j hj
      rw [hcs2, add_plain, add_plain] at h1
      rw [h1]
      simpa using hu
    obtain ⟨l, hl1, hl2⟩ := choose_l nilO each
    exact ⟨some a, len, m, l, rfl, hl1, by omega, fun k hk => hl2 k (by omega)⟩
end Go.Proofs.Ytcecfageijkifaa.Po
