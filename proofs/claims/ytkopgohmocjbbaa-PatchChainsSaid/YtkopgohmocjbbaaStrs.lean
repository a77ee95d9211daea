/- Lists of texts, read. -/
import Derived.Test.YtkopgohmocjbbaaRow
import Derived.SliceStrings
namespace Go.Proofs.Ytkopgohmocjbbaa
open Go.ChangeShapes Go.WideShapes Go.ChangeAt Go.RowKit
set_option linter.unusedVariables false
/-- A slice of strings reads as l. -/
def Strs (W : World) (A : Option Addr) (n : Nat) (l : List ByteArray) : Prop := (l.length = n ∧ ∀ i, i < n → ∃ b off, A = some ⟨b, off, none⟩ ∧ b < W.heap.size ∧ W.cell? ⟨b, off + i, none⟩ = some (.string (l.getD i ByteArray.empty))) ∧ ∀ s ∈ l, s.size ≤ maxLen
theorem strs_read {H : Type} {enc : TypeId × Value → H} {W : World} {A : Option Addr} {len cap base fuel : Nat} {sp : Nat → Bool} {hd : Bool} {x : DataW H × List MemPlace}
    (h : DataW.trod enc Try.prog W base sp hd fuel 42 [.slice A len cap] = some x) (hsp : ∀ b, sp b = true) : ∃ l, Strs W A len l ∧ len ≤ cap ∧ cap ≤ maxLen := by
  rcases open_strings Try.underlying42 Try.underlying9 (by kernel_rfl) h with ⟨hcs, _⟩ | ⟨a, len', cap', ss, hcs, _, hl, hm, hz, _, hcell, hwz⟩
  · simp at hcs
    obtain ⟨rfl, rfl, rfl⟩ := hcs
    exact ⟨[], ⟨⟨rfl, fun i hi => by omega⟩, fun s hs => by simp at hs⟩, by omega, by unfold maxLen; omega⟩
  · simp at hcs
    obtain ⟨rfl, rfl, rfl⟩ := hcs
    rw [hsp] at hz
    simp only [if_true] at hz
    refine ⟨ss.take len, ⟨⟨by simp; omega, fun i hi => ?_⟩, fun s hs => hwz s (List.mem_of_mem_take hs)⟩, hl, hm⟩
    have hc := hcell i (by omega)
    have h0 := hcell 0 (by omega)
    obtain ⟨b, off, spot⟩ := a
    have hspot : spot = none := by simpa [Addr.add] using World.cell?_spot h0
    subst hspot
    rw [add_plain] at hc
    refine ⟨b, off, rfl, World.block_lt_of_cell? W _ hc, ?_⟩
    rw [hc, List.getD_eq_getElem?_getD, List.getD_eq_getElem?_getD, List.getElem?_take, if_pos hi]

theorem Strs.at {W : World} {A : Option Addr} {n : Nat} {l : List ByteArray} (h : Strs W A n l) {i : Nat} (hi : i < n) {w : World} (hb : Below W.heap.size W w) : ∃ b off, A = some ⟨b, off, none⟩ ∧ b < W.heap.size ∧ w.cell? ⟨b, off + i, none⟩ = some (.string (l.getD i ByteArray.empty)) := by
  obtain ⟨b, off, h1, h2, h3⟩ := h.1.2 i hi
  exact ⟨b, off, h1, h2, (hb.cell (p := ⟨b, off + i, none⟩) h2).trans h3⟩
theorem Strs.size {W : World} {A : Option Addr} {n : Nat} {l : List ByteArray} (h : Strs W A n l) {i : Nat} (hi : i < n) : (l.getD i ByteArray.empty).size ≤ maxLen := h.2 _ (by
  rw [List.getD_eq_getElem?_getD, List.getElem?_eq_getElem (by rw [h.1.1]; exact hi)]; exact List.getElem_mem _)
end Go.Proofs.Ytkopgohmocjbbaa
