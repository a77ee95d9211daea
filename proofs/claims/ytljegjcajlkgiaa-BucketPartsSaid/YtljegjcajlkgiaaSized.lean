/- Lists of cells handed in, each string within the reach. -/
import Derived.Test.YtljegjcajlkgiaaLaws
import Derived.SizedLaws
namespace Go.Proofs.Ytljegjcajlkgiaa
open Go.ChangeShapes Go.WideShapes Go.ChangeAt Go.RowKit Go.Joins
set_option linter.unusedVariables false
set_option linter.unusedSimpArgs false
set_option maxRecDepth 100000
theorem weights_all {H : Type} {P : Program} {e : TypeId} : ∀ {l : List (DataW H)} {d : DataW H}, d ∈ l → ∀ n ∈ d.weights P e, n ∈ DataW.weightsAll P e l
  | x :: l, d, hd, n, hn => by
    simp only [DataW.weightsAll, List.mem_append]
    rcases List.mem_cons.1 hd with rfl | hd
    · exact .inl hn
    · exact .inr (weights_all hd n hn)
theorem cesz_read {H : Type} {enc : TypeId × Value → H} {W : World} {A : Option Addr} {len cap base fuel : Nat} {sp : Nat → Bool} {hd : Bool} {d : DataW H} {ps : List MemPlace}
    (h : DataW.trod enc Try.prog W base sp hd fuel 38 [.slice A len cap] = some (d, ps)) (hsp : ∀ b, sp b = true) : ∃ l, CesL W A len l ∧ len ≤ cap ∧ cap ≤ maxLen ∧
      ∀ (ts : List TypeId) (ds : List (DataW H)) (i : Nat), (DataW.weightsEach Try.prog ts ds).all (· ≤ reachBytes) = true → ts[i]? = some 38 → ds[i]? = some d → ∀ c ∈ l, c.key.size ≤ reachBytes ∧ c.val.size ≤ reachBytes := by
  have hce : Try.prog.cellsOf 31 = 4 := by kernel_rfl
  rcases Go.Deep.open_slice Try.underlying38 h with ⟨hcs, _⟩ | ⟨a, len', cap', m, n, D, Pl, hcs, _, hl, hm, hmm, hx, hi⟩
  · simp at hcs
    obtain ⟨rfl, rfl, rfl⟩ := hcs
    exact ⟨[], ⟨rfl, Ces.nil _ _ _⟩, by omega, by unfold maxLen; omega, fun _ _ _ _ _ _ c hc => by simp at hc⟩
  · simp at hcs
    obtain ⟨rfl, rfl, rfl⟩ := hcs
    have hmm' : m = cap := by rw [hmm, hsp a.block]; simp
    subst hmm'
    have hplain : ∀ k, k < len → a.spot = none := fun k hk => by
      obtain ⟨cs', hc, _⟩ := hi 0 (by omega)
      rw [hce] at hc
      obtain ⟨_, h5, hat⟩ := World.cells?_some hc
      have h0 := hat 0 (by omega)
      rw [List.getElem?_eq_getElem (by omega)] at h0
      have := World.cell?_spot h0
      simpa [Addr.add] using this
    have each : ∀ k, k < len → ∃ o : Ce, (∃ b off, (some a : Option Addr) = some ⟨b, off, none⟩ ∧ b < W.heap.size ∧ CeAt W b (off + k * 4) o ∧ o.key.size ≤ maxLen ∧ o.val.size ≤ maxLen) ∧ o.key.size ∈ DataW.weights Try.prog 31 (D k) ∧ o.val.size ∈ DataW.weights Try.prog 31 (D k) := by
      intro k hk
      have hspot := hplain k hk
      obtain ⟨b, off, spot⟩ := a
      dsimp only at hspot
      subst hspot
      obtain ⟨cs', hc, ht⟩ := hi k (by omega)
      rw [hce] at hc
      obtain ⟨_, h5, hat⟩ := World.cells?_some hc
      obtain ⟨xs, n', _, hxe, _, hxl, hf⟩ := DataW.trod_struct Try.underlying31 ht
      obtain ⟨v0, v1, v2, v3, rfl⟩ : ∃ v0 v1 v2 v3, cs' = [v0, v1, v2, v3] := by
        rcases cs' with _ | ⟨v0, _ | ⟨v1, _ | ⟨v2, _ | ⟨v3, _ | ⟨v4, r⟩⟩⟩⟩⟩ <;> simp at h5
        exact ⟨_, _, _, _, rfl⟩
      have c1 : Try.prog.cellsOf 3 = 1 := by kernel_rfl
      have c2 : Try.prog.cellsOf 9 = 1 := by kernel_rfl
      have t0 : DataW.trod enc Try.prog W base sp hd n' 9 (List.take (Try.prog.cellsOf 9) (List.drop 0 [v0, v1, v2, v3])) = xs[0]? := hf 0 _ rfl
      have t1 : DataW.trod enc Try.prog W base sp hd n' 9 (List.take (Try.prog.cellsOf 9) (List.drop 1 [v0, v1, v2, v3])) = xs[1]? := hf 1 _ rfl
      have t2 : DataW.trod enc Try.prog W base sp hd n' 3 (List.take (Try.prog.cellsOf 3) (List.drop 2 [v0, v1, v2, v3])) = xs[2]? := hf 2 _ rfl
      have t3 : DataW.trod enc Try.prog W base sp hd n' 3 (List.take (Try.prog.cellsOf 3) (List.drop 3 [v0, v1, v2, v3])) = xs[3]? := hf 3 _ rfl
      rw [c2] at t0 t1
      rw [c1] at t2 t3
      have hxl4 : xs.length = 4 := hxl
      obtain ⟨y0, y1, y2, y3, rfl⟩ : ∃ y0 y1 y2 y3, xs = [y0, y1, y2, y3] := by
        rcases xs with _ | ⟨v0, _ | ⟨v1, _ | ⟨v2, _ | ⟨v3, _ | ⟨v4, r⟩⟩⟩⟩⟩ <;> simp at hxl4
        exact ⟨_, _, _, _, rfl⟩
      have u0 : DataW.trod enc Try.prog W base sp hd n' 9 [v0] = some y0 := t0
      have u1 : DataW.trod enc Try.prog W base sp hd n' 9 [v1] = some y1 := t1
      have u2 : DataW.trod enc Try.prog W base sp hd n' 3 [v2] = some y2 := t2
      have u3 : DataW.trod enc Try.prog W base sp hd n' 3 [v3] = some y3 := t3
      obtain ⟨s0, e0, g0, w0⟩ := DataW.trod_string (P := Try.prog) Try.underlying9 u0
      obtain ⟨s1, e1, g1, w1⟩ := DataW.trod_string (P := Try.prog) Try.underlying9 u1
      obtain ⟨i2, e2, _, w2⟩ := DataW.trod_int (P := Try.prog) Try.underlying3 u2
      obtain ⟨i3, e3, _, w3⟩ := DataW.trod_int (P := Try.prog) Try.underlying3 u3
      simp only [List.cons.injEq, and_true] at e0 e1 e2 e3
      subst e0 e1 e2 e3 g0 g1
      have hc0 := hat 0 (by omega)
      have hc1 := hat 1 (by omega)
      have hc2 := hat 2 (by omega)
      have hc3 := hat 3 (by omega)
      rw [add_plain, add_plain] at hc0 hc1 hc2 hc3
      simp only [Prod.mk.injEq] at hxe
      refine ⟨⟨s0, s1, i2, i3⟩, ⟨b, off, rfl, World.block_lt_of_cell? W _ hc0, ⟨hc0, hc1, hc2, hc3⟩, w0, w1⟩, ?_, ?_⟩
      · rw [hxe.1]
        simp only [DataW.weights, Try.underlying31, List.map_cons, List.map_nil, DataW.weightsEach, List.mem_append]
        exact .inl (by simp [DataW.weights, size_data])
      · rw [hxe.1]
        simp only [DataW.weights, Try.underlying31, List.map_cons, List.map_nil, DataW.weightsEach, List.mem_append]
        exact .inr (.inl (by simp [DataW.weights, size_data]))
    obtain ⟨l, hl1, hl2⟩ := choose_ces each
    refine ⟨l, ⟨hl1, fun k hk => ?_, fun p hp => ?_, by omega⟩, hl, hm, fun ts ds i hall ht hdd c hc => ?_⟩
    · obtain ⟨⟨b, off, h1, h2, h3, _⟩, _⟩ := hl2 k (by omega)
      exact ⟨b, off, h1, h2, h3⟩
    · obtain ⟨k, hk, rfl⟩ := List.getElem_of_mem hp
      obtain ⟨⟨b, off, _, _, _, h4⟩, _⟩ := hl2 k (by omega)
      rw [getD_at hk] at h4
      exact h4
    · obtain ⟨k, hk, rfl⟩ := List.getElem_of_mem hc
      obtain ⟨_, h5, h6⟩ := hl2 k (by omega)
      rw [getD_at hk] at h5 h6
      simp only [Prod.mk.injEq] at hx
      have hmem : ∀ q, q ∈ DataW.weights Try.prog 31 (D k) → q ≤ reachBytes := fun q hq => by
        have hin : q ∈ DataW.weights Try.prog 38 d := by
          rw [hx.1]
          simp only [DataW.weights, Try.underlying38, List.mem_cons, List.mem_append]
          exact .inr (.inl (weights_all (d := D k) (List.mem_map.2 ⟨k, List.mem_range.2 (by omega), rfl⟩) q hq))
        have := List.all_eq_true.1 hall _ (DataW.weights_mem_each ht hdd _ hin)
        simpa using this
      exact ⟨hmem _ h5, hmem _ h6⟩
end Go.Proofs.Ytljegjcajlkgiaa
