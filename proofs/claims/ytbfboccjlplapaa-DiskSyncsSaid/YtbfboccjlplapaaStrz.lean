/- Strings handed in, each within the reach. -/
import Derived.Test.YtbfboccjlplapaaTwo
import Derived.SizedLaws
namespace Go.Proofs.Ytbfboccjlplapaa
open Go.ChangeShapes Go.WideShapes Go.ChangeAt Go.RowKit
set_option linter.unusedVariables false
theorem weights_all {H : Type} {P : Program} {e : TypeId} : ∀ {l : List (DataW H)} {d : DataW H}, d ∈ l → ∀ n ∈ d.weights P e, n ∈ DataW.weightsAll P e l
  | x :: l, d, hd, n, hn => by
    simp only [DataW.weightsAll, List.mem_append]
    rcases List.mem_cons.1 hd with rfl | hd
    · exact .inl hn
    · exact .inr (weights_all hd n hn)
theorem strz_read {H : Type} {enc : TypeId × Value → H} {W : World} {A : Option Addr} {len cap base fuel : Nat} {sp : Nat → Bool} {hd : Bool} {d : DataW H} {ps : List MemPlace}
    (h : DataW.trod enc Try.prog W base sp hd fuel 42 [.slice A len cap] = some (d, ps)) (hsp : ∀ b, sp b = true) : ∃ l, Strs W A len l ∧ len ≤ cap ∧ cap ≤ maxLen ∧
      ∀ (ts : List TypeId) (ds : List (DataW H)) (i : Nat), (DataW.weightsEach Try.prog ts ds).all (· ≤ reachBytes) = true → ts[i]? = some 42 → ds[i]? = some d → ∀ s ∈ l, s.size ≤ reachBytes := by
  rcases open_strings Try.underlying42 Try.underlying9 (by kernel_rfl) h with ⟨hcs, _⟩ | ⟨a, len', cap', ss, hcs, _, hl, hm, hz, hx, hcell, hwz⟩
  · simp at hcs
    obtain ⟨rfl, rfl, rfl⟩ := hcs
    exact ⟨[], ⟨⟨rfl, fun i hi => by omega⟩, fun s hs => by simp at hs⟩, by omega, by unfold maxLen; omega, fun _ _ _ _ _ _ s hs => by simp at hs⟩
  · simp at hcs
    obtain ⟨rfl, rfl, rfl⟩ := hcs
    rw [hsp] at hz
    simp only [if_true] at hz
    refine ⟨ss.take len, ⟨⟨by simp; omega, fun i hi => ?_⟩, fun s hs => hwz s (List.mem_of_mem_take hs)⟩, hl, hm, fun ts ds i hall ht hd s hs => ?_⟩
    · have hc := hcell i (by omega)
      have h0 := hcell 0 (by omega)
      obtain ⟨b, off, spot⟩ := a
      have hspot : spot = none := by simpa [Addr.add] using World.cell?_spot h0
      subst hspot
      rw [add_plain] at hc
      refine ⟨b, off, rfl, World.block_lt_of_cell? W _ hc, ?_⟩
      rw [hc, List.getD_eq_getElem?_getD, List.getD_eq_getElem?_getD, List.getElem?_take, if_pos hi]
    · simp only [Prod.mk.injEq] at hx
      obtain ⟨rfl, _⟩ := hx
      have hmem : s.data.toList.length ∈ DataW.weights Try.prog 42 (DataW.slice (strs (ss.take len)) (strs (ss.drop len)) : DataW H) := by
        simp only [DataW.weights, Try.underlying42, List.mem_cons, List.mem_append]
        refine .inr (.inl (weights_all (d := .lit (.string s.data.toList)) ?_ _ (by simp [DataW.weights])))
        exact List.mem_map.2 ⟨s, hs, rfl⟩
      have := List.all_eq_true.1 hall _ (DataW.weights_mem_each ht hd _ hmem)
      have hs' : s.data.toList.length = s.size := by rw [Array.length_toList]; rfl
      rw [hs'] at this
      simpa using this
end Go.Proofs.Ytbfboccjlplapaa
