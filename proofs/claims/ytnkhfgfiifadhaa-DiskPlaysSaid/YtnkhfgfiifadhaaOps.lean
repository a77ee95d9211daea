/- The list of things to do, read: five cells each, the last a list of bools of its own. -/
import Derived.Test.YtnkhfgfiifadhaaBoth
import Derived.Deep.Slices
import Derived.Deep.Fields
import Derived.ChangeSame
namespace Go.Proofs.Ytnkhfgfiifadhaa
open Go.ChangeShapes Go.WideShapes Go.ChangeAt Go.RowKit
set_option linter.unusedVariables false
structure OpV where
  kind : Int
  n : Int
  b : ByteArray
  raw : Bool
  ka : Option Addr
  kc : Nat
  keep : List Bool
def op0 : OpV := ⟨0, 0, ByteArray.empty, false, none, 0, []⟩
/-- One thing, at this address. -/
def OpAt (W : World) (b off : Nat) (o : OpV) : Prop :=
  (W.cell? ⟨b, off, none⟩ = some (.int .i64 o.kind) ∧ W.cell? ⟨b, off + 1, none⟩ = some (.int .i64 o.n) ∧ W.cell? ⟨b, off + 2, none⟩ = some (.string o.b) ∧ W.cell? ⟨b, off + 3, none⟩ = some (.bool o.raw) ∧ W.cell? ⟨b, off + 4, none⟩ = some (.slice o.ka o.keep.length o.kc)) ∧
  (Bools W o.ka o.keep.length o.keep ∧ o.keep.length ≤ maxLen ∧ o.b.size ≤ maxLen ∧ (-9223372036854775808 ≤ o.n ∧ o.n ≤ 9223372036854775807) ∧ (-9223372036854775808 ≤ o.kind ∧ o.kind ≤ 9223372036854775807))
def Ops (W : World) (A : Option Addr) (len : Nat) (l : List OpV) : Prop :=
  l.length = len ∧ ∀ k, k < len → ∃ b off, A = some ⟨b, off, none⟩ ∧ b < W.heap.size ∧ OpAt W b (off + k * 5) (l.getD k op0)
theorem choose_ops {P : Nat → OpV → Prop} : ∀ {n : Nat}, (∀ k, k < n → ∃ o, P k o) → ∃ l : List OpV, l.length = n ∧ ∀ k, k < n → P k (l.getD k op0)
  | 0, _ => ⟨[], rfl, fun k hk => by omega⟩
  | n + 1, h => by
    obtain ⟨l, hl, hp⟩ := choose_ops (n := n) fun k hk => h k (by omega)
    obtain ⟨o, ho⟩ := h n (by omega)
    refine ⟨l ++ [o], by simp [hl], fun k hk => ?_⟩
    by_cases e : k < n
    · have : (l ++ [o]).getD k op0 = l.getD k op0 := by simp [List.getD, List.getElem?_append_left (show k < l.length by omega)]
      rw [this]
      exact hp k e
    · obtain rfl : k = n := by omega
      have : (l ++ [o]).getD k op0 = o := by simp [List.getD, hl]
      rw [this]
      exact ho
/-- A list of bools, whatever it is. -/
theorem bools_any {H : Type} {enc : TypeId × Value → H} {W : World} {v : Value} {base fuel : Nat} {sp : Nat → Bool} {hd : Bool} {x : DataW H × List MemPlace}
    (h : DataW.trod enc Try.prog W base sp hd fuel 38 [v] = some x) (hsp : ∀ b, sp b = true) : ∃ A n c l, v = .slice A n c ∧ Bools W A n l ∧ n ≤ maxLen := by
  have h' := h
  obtain rfl : sp = fun _ => true := funext hsp
  rcases Go.Deep.open_bools Try.underlying38 Try.underlying4 (by kernel_rfl) h with ⟨hcs, _⟩ | ⟨a, len, cap, B, hcs, _⟩
  · simp only [List.cons.injEq, and_true] at hcs
    subst hcs
    obtain ⟨l, h1, h2, h3⟩ := bools_read h' hsp
    exact ⟨_, _, _, l, rfl, h1, by omega⟩
  · simp only [List.cons.injEq, and_true] at hcs
    subst hcs
    obtain ⟨l, h1, h2, h3⟩ := bools_read h' hsp
    exact ⟨_, _, _, l, rfl, h1, by omega⟩
theorem ops_read {H : Type} {enc : TypeId × Value → H} {W : World} {A : Option Addr} {len cap base fuel : Nat} {sp : Nat → Bool} {hd : Bool} {x : DataW H × List MemPlace}
    (h : DataW.trod enc Try.prog W base sp hd fuel 22 [.slice A len cap] = some x) (hsp : ∀ b, sp b = true) : ∃ l, Ops W A len l ∧ len ≤ cap ∧ cap ≤ maxLen := by
  have hce : Try.prog.cellsOf 40 = 5 := by kernel_rfl
  rcases Go.Deep.open_slice Try.underlying22 h with ⟨hcs, _⟩ | ⟨a, len', cap', m, n, D, Pl, hcs, _, hl, hm, hmm, _, hi⟩
  · simp at hcs
    obtain ⟨rfl, rfl, rfl⟩ := hcs
    exact ⟨[], ⟨rfl, fun k hk => by omega⟩, by omega, by unfold maxLen; omega⟩
  · simp at hcs
    obtain ⟨rfl, rfl, rfl⟩ := hcs
    have hmm' : m = cap := by rw [hmm, hsp a.block]; simp
    subst hmm'
    have hplain : ∀ k, k < len → a.spot = none := fun k hk => by
      obtain ⟨cs', hc, _⟩ := hi 0 (by omega)
      rw [hce] at hc
      obtain ⟨_, h5, hat⟩ := World.cells?_some hc
      have h0 := hat 0 (by omega)
      rw [List.getElem?_eq_getElem (by omega)] at h0
      have := World.cell?_spot h0
      simpa [Addr.add] using this
    have each : ∀ k, k < len → ∃ o : OpV, ∃ b off, (some a : Option Addr) = some ⟨b, off, none⟩ ∧ b < W.heap.size ∧ OpAt W b (off + k * 5) o := by
      intro k hk
      have hspot := hplain k hk
      obtain ⟨b, off, spot⟩ := a
      dsimp only at hspot
      subst hspot
      obtain ⟨cs', hc, ht⟩ := hi k (by omega)
      rw [hce] at hc
      obtain ⟨_, h5, hat⟩ := World.cells?_some hc
      obtain ⟨xs, n', _, _, _, hxl, hf⟩ := DataW.trod_struct Try.underlying40 ht
      obtain ⟨v0, v1, v2, v3, v4, rfl⟩ : ∃ v0 v1 v2 v3 v4, cs' = [v0, v1, v2, v3, v4] := by
        rcases cs' with _ | ⟨v0, _ | ⟨v1, _ | ⟨v2, _ | ⟨v3, _ | ⟨v4, _ | ⟨v5, r⟩⟩⟩⟩⟩⟩ <;> simp at h5
        exact ⟨_, _, _, _, _, rfl⟩
      have c1 : Try.prog.cellsOf 3 = 1 := by kernel_rfl
      have c2 : Try.prog.cellsOf 9 = 1 := by kernel_rfl
      have c3 : Try.prog.cellsOf 4 = 1 := by kernel_rfl
      have c4 : Try.prog.cellsOf 38 = 1 := by kernel_rfl
      have t0 : DataW.trod enc Try.prog W base sp hd n' 3 (List.take (Try.prog.cellsOf 3) (List.drop 0 [v0, v1, v2, v3, v4])) = xs[0]? := hf 0 _ rfl
      have t1 : DataW.trod enc Try.prog W base sp hd n' 3 (List.take (Try.prog.cellsOf 3) (List.drop 1 [v0, v1, v2, v3, v4])) = xs[1]? := hf 1 _ rfl
      have t2 : DataW.trod enc Try.prog W base sp hd n' 9 (List.take (Try.prog.cellsOf 9) (List.drop 2 [v0, v1, v2, v3, v4])) = xs[2]? := hf 2 _ rfl
      have t3 : DataW.trod enc Try.prog W base sp hd n' 4 (List.take (Try.prog.cellsOf 4) (List.drop 3 [v0, v1, v2, v3, v4])) = xs[3]? := hf 3 _ rfl
      have t4 : DataW.trod enc Try.prog W base sp hd n' 38 (List.take (Try.prog.cellsOf 38) (List.drop 4 [v0, v1, v2, v3, v4])) = xs[4]? := hf 4 _ rfl
      rw [c1] at t0 t1
      rw [c2] at t2
      rw [c3] at t3
      rw [c4] at t4
      have hx : ∀ j, j < 5 → ∃ y, xs[j]? = some y := fun j hj => ⟨xs[j]'(by rw [hxl]; exact hj), List.getElem?_eq_getElem _⟩
      obtain ⟨y0, z0⟩ := hx 0 (by omega)
      obtain ⟨y1, z1⟩ := hx 1 (by omega)
      obtain ⟨y2, z2⟩ := hx 2 (by omega)
      obtain ⟨y3, z3⟩ := hx 3 (by omega)
      obtain ⟨y4, z4⟩ := hx 4 (by omega)
      rw [z0] at t0
      rw [z1] at t1
      rw [z2] at t2
      rw [z3] at t3
      rw [z4] at t4
      have u0 : DataW.trod enc Try.prog W base sp hd n' 3 [v0] = some y0 := t0
      have u1 : DataW.trod enc Try.prog W base sp hd n' 3 [v1] = some y1 := t1
      have u2 : DataW.trod enc Try.prog W base sp hd n' 9 [v2] = some y2 := t2
      have u3 : DataW.trod enc Try.prog W base sp hd n' 4 [v3] = some y3 := t3
      have u4 : DataW.trod enc Try.prog W base sp hd n' 38 [v4] = some y4 := t4
      obtain ⟨i0, e0, _, w0⟩ := DataW.trod_int (P := Try.prog) Try.underlying3 u0
      obtain ⟨i1, e1, _, w1⟩ := DataW.trod_int (P := Try.prog) Try.underlying3 u1
      obtain ⟨s2, e2, _, w2⟩ := DataW.trod_string (P := Try.prog) Try.underlying9 u2
      obtain ⟨b3, e3, _⟩ := DataW.trod_bool (P := Try.prog) Try.underlying4 u3
      obtain ⟨ka, kn, kc, keep, e4, hb, hkn⟩ := bools_any u4 hsp
      simp only [List.cons.injEq, and_true] at e0 e1 e2 e3
      subst e0 e1 e2 e3 e4
      have hl5 : keep.length = kn := hb.1
      subst hl5
      have hc0 := hat 0 (by omega)
      have hc1 := hat 1 (by omega)
      have hc2 := hat 2 (by omega)
      have hc3 := hat 3 (by omega)
      have hc4 := hat 4 (by omega)
      rw [add_plain, add_plain] at hc0 hc1 hc2 hc3 hc4
      refine ⟨⟨i0, i1, s2, b3, ka, kc, keep⟩, b, off, rfl, World.block_lt_of_cell? W _ hc0, ⟨hc0, hc1, hc2, hc3, hc4⟩, hb, hkn, w2, ?_, ?_⟩
      · have h : IntKind.i64.min ≤ i1 ∧ i1 ≤ 9223372036854775807 := by simpa [Lit.wf] using w1
        exact ⟨h.1, h.2⟩
      · have h : IntKind.i64.min ≤ i0 ∧ i0 ≤ 9223372036854775807 := by simpa [Lit.wf] using w0
        exact ⟨h.1, h.2⟩
    obtain ⟨l, hl1, hl2⟩ := choose_ops each
    exact ⟨l, ⟨hl1, hl2⟩, hl, hm⟩
end Go.Proofs.Ytnkhfgfiifadhaa
