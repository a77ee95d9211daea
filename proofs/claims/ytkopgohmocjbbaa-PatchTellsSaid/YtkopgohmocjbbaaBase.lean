/- Arguments read: lists of patches, lists of strings. -/
import Derived.Test.YtkopgohmocjbbaaAlive
import Derived.Deep.Slices
import Derived.Deep.Fields
import Derived.SliceStrings
import Derived.OpenShut
import Derived.ChangeOld
import Derived.ChangeSame
import Derived.Below
import Derived.Carry
namespace Go.Proofs.Ytkopgohmocjbbaa
open Go.ChangeShapes Go.WideShapes Go.ChangeAt Go.RowKit
set_option linter.unusedVariables false
set_option linter.unusedSimpArgs false
theorem add_plain (b o j : Nat) : (⟨b, o, none⟩ : Addr).add j = ⟨b, o + j, none⟩ := Addr.add_mid b o j
def PtsL (w : World) (A : Option Addr) (n : Nat) (l : List Pt) : Prop := l.length = n ∧ Pts w.heap.size w A l
theorem choose_pts {P : Nat → Pt → Prop} : ∀ {n : Nat}, (∀ k, k < n → ∃ o, P k o) → ∃ l : List Pt, l.length = n ∧ ∀ k, k < n → P k (l.getD k nilP)
  | 0, _ => ⟨[], rfl, fun k hk => by omega⟩
  | n + 1, h => by
    obtain ⟨l, hl, hp⟩ := choose_pts (n := n) fun k hk => h k (by omega)
    obtain ⟨o, ho⟩ := h n (by omega)
    refine ⟨l ++ [o], by simp [hl], fun k hk => ?_⟩
    by_cases e : k < n
    · have : (l ++ [o]).getD k nilP = l.getD k nilP := by simp [List.getD, List.getElem?_append_left (show k < l.length by omega)]
      rw [this]
      exact hp k e
    · obtain rfl : k = n := by omega
      have : (l ++ [o]).getD k nilP = o := by simp [List.getD, hl]
      rw [this]
      exact ho
theorem pts_read {H : Type} {enc : TypeId × Value → H} {W : World} {A : Option Addr} {len cap base fuel : Nat} {sp : Nat → Bool} {hd : Bool} {x : DataW H × List MemPlace}
    (h : DataW.trod enc Try.prog W base sp hd fuel 22 [.slice A len cap] = some x) (hsp : ∀ b, sp b = true) : ∃ l, PtsL W A len l ∧ len ≤ cap ∧ cap ≤ maxLen := by
  have hce : Try.prog.cellsOf 26 = 3 := by kernel_rfl
  rcases Go.Deep.open_slice Try.underlying22 h with ⟨hcs, _⟩ | ⟨a, len', cap', m, n, D, Pl, hcs, _, hl, hm, hmm, _, hi⟩
  · simp at hcs
    obtain ⟨rfl, rfl, rfl⟩ := hcs
    exact ⟨[], ⟨rfl, fun k hk => by simp at hk, fun p hp => by simp at hp, Nat.zero_le _⟩, by omega, by unfold maxLen; omega⟩
  · simp at hcs
    obtain ⟨rfl, rfl, rfl⟩ := hcs
    have hmm' : m = cap := by rw [hmm, hsp a.block]; simp
    subst hmm'
    have hplain : ∀ k, k < len → a.spot = none := fun k hk => by
      obtain ⟨cs', hc, _⟩ := hi 0 (by omega)
      rw [hce] at hc
      obtain ⟨_, h5, hat⟩ := World.cells?_some hc
      have h0 := hat 0 (by omega)
      rw [List.getElem?_eq_getElem (by omega)] at h0
      have := World.cell?_spot h0
      simpa [Addr.add] using this
    have each : ∀ k, k < len → ∃ o : Pt, ∃ b off, (some a : Option Addr) = some ⟨b, off, none⟩ ∧ b < W.heap.size ∧ PtAt W b (off + k * 3) o ∧ o.bs.size ≤ maxLen := by
      intro k hk
      have hspot := hplain k hk
      obtain ⟨b, off, spot⟩ := a
      dsimp only at hspot
      subst hspot
      obtain ⟨cs', hc, ht⟩ := hi k (by omega)
      rw [hce] at hc
      obtain ⟨_, h5, hat⟩ := World.cells?_some hc
      obtain ⟨xs, n', _, _, _, hxl, hf⟩ := DataW.trod_struct Try.underlying26 ht
      obtain ⟨v0, v1, v2, rfl⟩ : ∃ v0 v1 v2, cs' = [v0, v1, v2] := by
        rcases cs' with _ | ⟨v0, _ | ⟨v1, _ | ⟨v2, _ | ⟨v3, r⟩⟩⟩⟩ <;> simp at h5
        exact ⟨_, _, _, rfl⟩
      have c1 : Try.prog.cellsOf 3 = 1 := by kernel_rfl
      have c2 : Try.prog.cellsOf 9 = 1 := by kernel_rfl
      have t0 : DataW.trod enc Try.prog W base sp hd n' 3 (List.take (Try.prog.cellsOf 3) (List.drop 0 [v0, v1, v2])) = xs[0]? := hf 0 _ rfl
      have t1 : DataW.trod enc Try.prog W base sp hd n' 3 (List.take (Try.prog.cellsOf 3) (List.drop 1 [v0, v1, v2])) = xs[1]? := hf 1 _ rfl
      have t2 : DataW.trod enc Try.prog W base sp hd n' 9 (List.take (Try.prog.cellsOf 9) (List.drop 2 [v0, v1, v2])) = xs[2]? := hf 2 _ rfl
      rw [c1] at t0 t1
      rw [c2] at t2
      have hx : ∀ j, j < 3 → ∃ y, xs[j]? = some y := fun j hj => ⟨xs[j]'(by rw [hxl]; exact hj), List.getElem?_eq_getElem _⟩
      obtain ⟨y0, z0⟩ := hx 0 (by omega)
      obtain ⟨y1, z1⟩ := hx 1 (by omega)
      obtain ⟨y2, z2⟩ := hx 2 (by omega)
      rw [z0] at t0
      rw [z1] at t1
      rw [z2] at t2
      have u0 : DataW.trod enc Try.prog W base sp hd n' 3 [v0] = some y0 := t0
      have u1 : DataW.trod enc Try.prog W base sp hd n' 3 [v1] = some y1 := t1
      have u2 : DataW.trod enc Try.prog W base sp hd n' 9 [v2] = some y2 := t2
      obtain ⟨i0, e0, _, w0⟩ := DataW.trod_int (P := Try.prog) Try.underlying3 u0
      obtain ⟨i1, e1, _, w1⟩ := DataW.trod_int (P := Try.prog) Try.underlying3 u1
      obtain ⟨s2, e2, _, w2⟩ := DataW.trod_string (P := Try.prog) Try.underlying9 u2
      simp only [List.cons.injEq, and_true] at e0 e1 e2
      subst e0 e1 e2
      have hc0 := hat 0 (by omega)
      have hc1 := hat 1 (by omega)
      have hc2 := hat 2 (by omega)
      rw [add_plain, add_plain] at hc0 hc1 hc2
      exact ⟨⟨i0, i1, s2⟩, b, off, rfl, World.block_lt_of_cell? W _ hc0, ⟨hc0, hc1, hc2⟩, w2⟩
    obtain ⟨l, hl1, hl2⟩ := choose_pts each
    refine ⟨l, ⟨hl1, fun k hk => ?_, fun p hp => ?_, by omega⟩, hl, hm⟩
    · obtain ⟨b, off, h1, h2, h3, _⟩ := hl2 k (by omega)
      exact ⟨b, off, h1, h2, h3⟩
    · obtain ⟨k, hk, rfl⟩ := List.getElem_of_mem hp
      obtain ⟨b, off, _, _, _, h4⟩ := hl2 k (by omega)
      rw [List.getD_eq_getElem?_getD, List.getElem?_eq_getElem hk] at h4
      exact h4
end Go.Proofs.Ytkopgohmocjbbaa
