/- Arguments read: lists of cells, cells, pages, lists of strings. -/
import Derived.Test.YtljegjcajlkgiaaGreatAlive
import Derived.Deep.Slices
import Derived.Lib.SmallJoins
import Derived.Deep.Fields
import Derived.SliceStrings
import Derived.OpenShut
import Derived.ChangeOld
import Derived.ChangeSame
import Derived.Below
import Derived.Carry
namespace Go.Proofs.YtljegjcajlkgiaaGreat
open Go.ChangeShapes Go.WideShapes Go.ChangeAt Go.RowKit Go.Joins
set_option linter.unusedVariables false
set_option linter.unusedSimpArgs false
set_option maxRecDepth 100000
def CesL (w : World) (A : Option Addr) (n : Nat) (l : List Ce) : Prop := l.length = n ∧ Ces w.heap.size w A l
theorem choose_ces {P : Nat → Ce → Prop} : ∀ {n : Nat}, (∀ k, k < n → ∃ o, P k o) → ∃ l : List Ce, l.length = n ∧ ∀ k, k < n → P k (l.getD k nilC)
  | 0, _ => ⟨[], rfl, fun k hk => by omega⟩
  | n + 1, h => by
    obtain ⟨l, hl, hp⟩ := choose_ces (n := n) fun k hk => h k (by omega)
    obtain ⟨o, ho⟩ := h n (by omega)
    refine ⟨l ++ [o], by simp [hl], fun k hk => ?_⟩
    by_cases e : k < n
    · have : (l ++ [o]).getD k nilC = l.getD k nilC := by simp [List.getD, List.getElem?_append_left (show k < l.length by omega)]
      rw [this]
      exact hp k e
    · obtain rfl : k = n := by omega
      have : (l ++ [o]).getD k nilC = o := by simp [List.getD, hl]
      rw [this]
      exact ho
theorem ces_read {H : Type} {enc : TypeId × Value → H} {W : World} {A : Option Addr} {len cap base fuel : Nat} {sp : Nat → Bool} {hd : Bool} {x : DataW H × List MemPlace}
    (h : DataW.trod enc Tryz.prog W base sp hd fuel 26 [.slice A len cap] = some x) (hsp : ∀ b, sp b = true) : ∃ l, CesL W A len l ∧ len ≤ cap ∧ cap ≤ maxLen := by
  have hce : Tryz.prog.cellsOf 42 = 4 := by kernel_rfl
  rcases Go.Deep.open_slice Tryz.underlying26 h with ⟨hcs, _⟩ | ⟨a, len', cap', m, n, D, Pl, hcs, _, hl, hm, hmm, _, hi⟩
  · simp at hcs
    obtain ⟨rfl, rfl, rfl⟩ := hcs
    exact ⟨[], ⟨rfl, Ces.nil _ _ _⟩, by omega, by unfold maxLen; omega⟩
  · simp at hcs
    obtain ⟨rfl, rfl, rfl⟩ := hcs
    have hmm' : m = cap := by rw [hmm, hsp a.block]; simp
    subst hmm'
    have hplain : ∀ k, k < len → a.spot = none := fun k hk => by
      obtain ⟨cs', hc, _⟩ := hi 0 (by omega)
      rw [hce] at hc
      obtain ⟨_, h5, hat⟩ := World.cells?_some hc
      have h0 := hat 0 (by omega)
      rw [List.getElem?_eq_getElem (by omega)] at h0
      have := World.cell?_spot h0
      simpa [Addr.add] using this
    have each : ∀ k, k < len → ∃ o : Ce, ∃ b off, (some a : Option Addr) = some ⟨b, off, none⟩ ∧ b < W.heap.size ∧ CeAt W b (off + k * 4) o ∧ o.key.size ≤ maxLen ∧ o.val.size ≤ maxLen := by
      intro k hk
      have hspot := hplain k hk
      obtain ⟨b, off, spot⟩ := a
      dsimp only at hspot
      subst hspot
      obtain ⟨cs', hc, ht⟩ := hi k (by omega)
      rw [hce] at hc
      obtain ⟨_, h5, hat⟩ := World.cells?_some hc
      obtain ⟨xs, n', _, _, _, hxl, hf⟩ := DataW.trod_struct Tryz.underlying42 ht
      obtain ⟨v0, v1, v2, v3, rfl⟩ : ∃ v0 v1 v2 v3, cs' = [v0, v1, v2, v3] := by
        rcases cs' with _ | ⟨v0, _ | ⟨v1, _ | ⟨v2, _ | ⟨v3, _ | ⟨v4, r⟩⟩⟩⟩⟩ <;> simp at h5
        exact ⟨_, _, _, _, rfl⟩
      have c1 : Tryz.prog.cellsOf 3 = 1 := by kernel_rfl
      have c2 : Tryz.prog.cellsOf 9 = 1 := by kernel_rfl
      have t0 : DataW.trod enc Tryz.prog W base sp hd n' 9 (List.take (Tryz.prog.cellsOf 9) (List.drop 0 [v0, v1, v2, v3])) = xs[0]? := hf 0 _ rfl
      have t1 : DataW.trod enc Tryz.prog W base sp hd n' 9 (List.take (Tryz.prog.cellsOf 9) (List.drop 1 [v0, v1, v2, v3])) = xs[1]? := hf 1 _ rfl
      have t2 : DataW.trod enc Tryz.prog W base sp hd n' 3 (List.take (Tryz.prog.cellsOf 3) (List.drop 2 [v0, v1, v2, v3])) = xs[2]? := hf 2 _ rfl
      have t3 : DataW.trod enc Tryz.prog W base sp hd n' 3 (List.take (Tryz.prog.cellsOf 3) (List.drop 3 [v0, v1, v2, v3])) = xs[3]? := hf 3 _ rfl
      rw [c2] at t0 t1
      rw [c1] at t2 t3
      have hx : ∀ j, j < 4 → ∃ y, xs[j]? = some y := fun j hj => ⟨xs[j]'(by rw [hxl]; exact hj), List.getElem?_eq_getElem _⟩
      obtain ⟨y0, z0⟩ := hx 0 (by omega)
      obtain ⟨y1, z1⟩ := hx 1 (by omega)
      obtain ⟨y2, z2⟩ := hx 2 (by omega)
      obtain ⟨y3, z3⟩ := hx 3 (by omega)
      rw [z0] at t0
      rw [z1] at t1
      rw [z2] at t2
      rw [z3] at t3
      have u0 : DataW.trod enc Tryz.prog W base sp hd n' 9 [v0] = some y0 := t0
      have u1 : DataW.trod enc Tryz.prog W base sp hd n' 9 [v1] = some y1 := t1
      have u2 : DataW.trod enc Tryz.prog W base sp hd n' 3 [v2] = some y2 := t2
      have u3 : DataW.trod enc Tryz.prog W base sp hd n' 3 [v3] = some y3 := t3
      obtain ⟨s0, e0, _, w0⟩ := DataW.trod_string (P := Tryz.prog) Tryz.underlying9 u0
      obtain ⟨s1, e1, _, w1⟩ := DataW.trod_string (P := Tryz.prog) Tryz.underlying9 u1
      obtain ⟨i2, e2, _, w2⟩ := DataW.trod_int (P := Tryz.prog) Tryz.underlying3 u2
      obtain ⟨i3, e3, _, w3⟩ := DataW.trod_int (P := Tryz.prog) Tryz.underlying3 u3
      simp only [List.cons.injEq, and_true] at e0 e1 e2 e3
      subst e0 e1 e2 e3
      have hc0 := hat 0 (by omega)
      have hc1 := hat 1 (by omega)
      have hc2 := hat 2 (by omega)
      have hc3 := hat 3 (by omega)
      rw [add_plain, add_plain] at hc0 hc1 hc2 hc3
      exact ⟨⟨s0, s1, i2, i3⟩, b, off, rfl, World.block_lt_of_cell? W _ hc0, ⟨hc0, hc1, hc2, hc3⟩, w0, w1⟩
    obtain ⟨l, hl1, hl2⟩ := choose_ces each
    refine ⟨l, ⟨hl1, fun k hk => ?_, fun p hp => ?_, by omega⟩, hl, hm⟩
    · obtain ⟨b, off, h1, h2, h3, _⟩ := hl2 k (by omega)
      exact ⟨b, off, h1, h2, h3⟩
    · obtain ⟨k, hk, rfl⟩ := List.getElem_of_mem hp
      obtain ⟨b, off, _, _, _, h4⟩ := hl2 k (by omega)
      rw [getD_at hk] at h4
      exact h4
theorem open_cell {H : Type} {enc : TypeId × Value → H} {W : World} {v : Value} {d : DataW H} {p : List MemPlace} {b0 : Nat} {sp : Nat → Bool} {hd : Bool}
    (hv : Value.okWide Tryz.prog W .any b0 42 v) (h : DataW.Trod enc Tryz.prog W 0 sp hd 42 v d p) :
    ∃ (k s : ByteArray) (b z : Int), v = cv k s b z ∧ k.size ≤ maxLen ∧ s.size ≤ maxLen ∧ (Lit.int .i64 b).wf = true ∧ (Lit.int .i64 z).wf = true ∧ ∀ (W' : World) (sp' : Nat → Bool), DataW.Trod enc Tryz.prog W' 0 sp' hd 42 v d p := by
  obtain ⟨v0, v1, v2, v3, y0, y1, y2, y3, n, rfl, rfl, rfl, h0, h1, h2, h3⟩ := open_agg4 Tryz.underlying42 (by kernel_rfl) (by kernel_rfl) hv h
  obtain ⟨s0, e0, x0, g0⟩ := DataW.trod_string Tryz.underlying9 h0
  obtain ⟨s1, e1, x1, g1⟩ := DataW.trod_string Tryz.underlying9 h1
  obtain ⟨k2, e2, x2, g2⟩ := DataW.trod_int Tryz.underlying3 h2
  obtain ⟨k3, e3, x3, g3⟩ := DataW.trod_int Tryz.underlying3 h3
  simp only [List.cons.injEq, and_true] at e0 e1 e2 e3
  subst e0 e1 e2 e3 x0 x1 x2 x3
  refine ⟨s0, s1, k2, k3, rfl, g0, g1, g2, g3, fun W' sp' => ?_⟩
  exact shut_agg4 Tryz.underlying42 (by kernel_rfl) (by kernel_rfl) (field_of_Trod (Go.ChangeMaps.shut_string Tryz.underlying9 g0) rfl) (field_of_Trod (Go.ChangeMaps.shut_string Tryz.underlying9 g1) rfl) (field_of_Trod (shut_int Tryz.underlying3 g2) rfl) (field_of_Trod (shut_int Tryz.underlying3 g3) rfl)
theorem open_page {H : Type} {enc : TypeId × Value → H} {W : World} {v : Value} {d : DataW H} {p : List MemPlace} {b0 : Nat} {sp : Nat → Bool} {hd : Bool}
    (hv : Value.okWide Tryz.prog W .any b0 23 v) (h : DataW.Trod enc Tryz.prog W 0 sp hd 23 v d p) :
    ∃ (k dp n : Int) (b : ByteArray), v = pv k dp n b ∧ (Lit.int .i64 k).wf = true ∧ (Lit.int .i64 dp).wf = true ∧ (Lit.int .i64 n).wf = true ∧ b.size ≤ maxLen ∧ ∀ (W' : World) (sp' : Nat → Bool), DataW.Trod enc Tryz.prog W' 0 sp' hd 23 v d p := by
  obtain ⟨v0, v1, v2, v3, y0, y1, y2, y3, n, rfl, rfl, rfl, h0, h1, h2, h3⟩ := open_agg4 Tryz.underlying23 (by kernel_rfl) (by kernel_rfl) hv h
  obtain ⟨k0, e0, x0, g0⟩ := DataW.trod_int Tryz.underlying3 h0
  obtain ⟨k1, e1, x1, g1⟩ := DataW.trod_int Tryz.underlying3 h1
  obtain ⟨k2, e2, x2, g2⟩ := DataW.trod_int Tryz.underlying3 h2
  obtain ⟨s, e3, x3, g3⟩ := DataW.trod_string Tryz.underlying9 h3
  simp only [List.cons.injEq, and_true] at e0 e1 e2 e3
  subst e0 e1 e2 e3 x0 x1 x2 x3
  refine ⟨k0, k1, k2, s, rfl, g0, g1, g2, g3, fun W' sp' => ?_⟩
  exact shut_agg4 Tryz.underlying23 (by kernel_rfl) (by kernel_rfl) (field_of_Trod (shut_int Tryz.underlying3 g0) rfl) (field_of_Trod (shut_int Tryz.underlying3 g1) rfl) (field_of_Trod (shut_int Tryz.underlying3 g2) rfl) (field_of_Trod (Go.ChangeMaps.shut_string Tryz.underlying9 g3) rfl)
/-- A slice of strings reads as l. -/
def Strs (W : World) (A : Option Addr) (n : Nat) (l : List ByteArray) : Prop := (l.length = n ∧ ∀ i, i < n → ∃ b off, A = some ⟨b, off, none⟩ ∧ b < W.heap.size ∧ W.cell? ⟨b, off + i, none⟩ = some (.string (l.getD i ByteArray.empty))) ∧ ∀ s ∈ l, s.size ≤ maxLen
theorem strs_read {H : Type} {enc : TypeId × Value → H} {W : World} {A : Option Addr} {len cap base fuel : Nat} {sp : Nat → Bool} {hd : Bool} {x : DataW H × List MemPlace}
    (h : DataW.trod enc Tryz.prog W base sp hd fuel 107 [.slice A len cap] = some x) (hsp : ∀ b, sp b = true) : ∃ l, Strs W A len l ∧ len ≤ cap ∧ cap ≤ maxLen := by
  rcases open_strings Tryz.underlying107 Tryz.underlying9 (by kernel_rfl) h with ⟨hcs, _⟩ | ⟨a, len', cap', ss, hcs, _, hl, hm, hz, _, hcell, hwz⟩
  · simp at hcs
    obtain ⟨rfl, rfl, rfl⟩ := hcs
    exact ⟨[], ⟨⟨rfl, fun i hi => by omega⟩, fun s hs => by simp at hs⟩, by omega, by unfold maxLen; omega⟩
  · simp at hcs
    obtain ⟨rfl, rfl, rfl⟩ := hcs
    rw [hsp] at hz
    simp only [if_true] at hz
    refine ⟨ss.take len, ⟨⟨by simp; omega, fun i hi => ?_⟩, fun s hs => hwz s (List.mem_of_mem_take hs)⟩, hl, hm⟩
    have hc := hcell i (by omega)
    have h0 := hcell 0 (by omega)
    obtain ⟨b, off, spot⟩ := a
    have hspot : spot = none := by simpa [Addr.add] using World.cell?_spot h0
    subst hspot
    rw [add_plain] at hc
    refine ⟨b, off, rfl, World.block_lt_of_cell? W _ hc, ?_⟩
    rw [hc, List.getD_eq_getElem?_getD, List.getD_eq_getElem?_getD, List.getElem?_take, if_pos hi]

theorem Strs.at {W : World} {A : Option Addr} {n : Nat} {l : List ByteArray} (h : Strs W A n l) {i : Nat} (hi : i < n) {w : World} (hb : Below W.heap.size W w) : ∃ b off, A = some ⟨b, off, none⟩ ∧ b < W.heap.size ∧ w.cell? ⟨b, off + i, none⟩ = some (.string (l.getD i ByteArray.empty)) := by
  obtain ⟨b, off, h1, h2, h3⟩ := h.1.2 i hi
  exact ⟨b, off, h1, h2, (hb.cell (p := ⟨b, off + i, none⟩) h2).trans h3⟩
theorem Strs.size {W : World} {A : Option Addr} {n : Nat} {l : List ByteArray} (h : Strs W A n l) {i : Nat} (hi : i < n) : (l.getD i ByteArray.empty).size ≤ maxLen := h.2 _ (by
  rw [List.getD_eq_getElem?_getD, List.getElem?_eq_getElem (by rw [h.1.1]; exact hi)]; exact List.getElem_mem _)
end Go.Proofs.YtljegjcajlkgiaaGreat
