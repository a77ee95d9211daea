/- PoolSince, plainly: one page. -/
import Derived.Test.YtcecfageijkifaaAr
namespace Go.Proofs.Ytcecfageijkifaa.Po
open Go.ChangeShapes Go.WideShapes Go.ChangeAt Go.RowKit
set_option linter.unusedVariables false
set_option linter.unusedSimpArgs false
set_option maxRecDepth 100000
theorem Ints.at {W : World} {A : Option Addr} {n : Nat} {l : List Int} (h : Ints W A n l) {i : Nat} (hi : i < n) {w : World} (hb : Below W.heap.size W w) : ∃ b off, A = some ⟨b, off, none⟩ ∧ b < W.heap.size ∧ w.cell? ⟨b, off + i, none⟩ = some (.int .i64 (l.getD i 0)) ∧ -9223372036854775808 ≤ l.getD i 0 ∧ l.getD i 0 ≤ 9223372036854775807 := by
  obtain ⟨b, off, h1, h2, h3, h4⟩ := h.2 i hi
  exact ⟨b, off, h1, h2, (hb.cell (p := ⟨b, off + i, none⟩) h2).trans h3, h4⟩
/-- At most page 3 is there; since when it is dirty. -/
def Sd (A : Pl) (x : Option Int) : Prop := A.most = 4 ∧ match x with
  | none => A.ks = [] ∨ (A.ks = [3] ∧ (A.fr 3).d = false)
  | some s => A.ks = [3] ∧ (A.fr 3).d = true ∧ (A.fr 3).since = s
section
variable {gr gw gl : Nat} {b : BA} {A : Pl}
theorem sd_flush {x : Option Int} (h : Sd A x) : ∃ A', flushP (hostC gr gw gl b) A () 3 = (0, A', ()) ∧ Sd A' none ∧ A'.acc = A.acc := by
  unfold flushP
  by_cases hc : 3 ∈ A.ks ∧ (A.fr 3).d = true
  · rw [if_pos hc]
    refine ⟨cleanP A 3, by simp [hostC], ⟨h.1, .inr ⟨?_, by simp [cleanP, upd]⟩⟩, rfl⟩
    show A.ks = [3]
    cases x with
    | none => rcases h.2 with h1 | h1
              · rw [h1] at hc; simp at hc
              · exact h1.1
    | some s => exact h.2.1
  · rw [if_neg hc]
    refine ⟨A, rfl, ⟨h.1, ?_⟩, rfl⟩
    cases x with
    | none => exact h.2
    | some s => exact absurd ⟨by rw [h.2.1]; simp, h.2.2.1⟩ hc
theorem sd_set {x : Option Int} (h : Sd A x) (c : BA) (lsn : Int) : ∃ A', setP (hostC gr gw gl b) A () 3 c lsn = (0, A', ()) ∧ Sd A' (some (x.getD lsn)) ∧ A'.acc = A.acc + 1 := by
  by_cases hk : 3 ∈ A.ks
  · have hks : A.ks = [3] := by
      cases x with
      | none => rcases h.2 with h1 | h1
                · rw [h1] at hk; simp at hk
                · exact h1.1
      | some s => exact h.2.1
    have hp : provP (hostC gr gw gl b) A () 3 [] = (0, A, ()) := by unfold provP; rw [if_pos hk]
    unfold setP
    rw [hp]
    refine ⟨accP (dirtP A 3 c lsn) 3, by simp, ⟨h.1, hks, by simp [accP, dirtP, upd], ?_⟩, rfl⟩
    cases x with
    | none => rcases h.2 with h1 | h1
              · rw [h1] at hk; simp at hk
              · simp [accP, dirtP, upd, h1.2]
    | some s => simp [accP, dirtP, upd, h.2.2.1, h.2.2.2]
  · have hks : A.ks = [] := by
      cases x with
      | none => rcases h.2 with h1 | h1
                · exact h1
                · rw [h1.1] at hk; simp at hk
      | some s => rw [h.2.1] at hk; simp at hk
    obtain rfl : x = none := by
      cases x with
      | none => rfl
      | some s => have := h.2.1; rw [hks] at this; cases this
    have hp : provP (hostC gr gw gl b) A () 3 [] = (0, insP A 3 [], ()) := by
      unfold provP
      rw [if_neg hk, if_pos (by rw [hks, h.1]; decide)]
    unfold setP
    rw [hp]
    refine ⟨accP (dirtP (insP A 3 []) 3 c lsn) 3, by simp, ⟨h.1, ?_, by simp [accP, dirtP, upd], by simp [accP, dirtP, insP, upd]⟩, rfl⟩
    show insK 3 A.ks = [3]
    rw [hks]; rfl
theorem sd_clean (h : Sd A none) : isClean A 3 = true ∧ dirtyL A = [] := by
  rcases h.2 with h1 | h1
  · exact ⟨by simp [isClean, h1], by simp [dirtyL, dirtyK, h1]⟩
  · exact ⟨by simp [isClean, h1.2], by simp [dirtyL, dirtyK, h1.1, h1.2]⟩
theorem sd_dirty {s : Int} (h : Sd A (some s)) : isClean A 3 = false ∧ dirtyL A = [(3, s)] :=
  ⟨clean_false (by rw [h.2.1]; simp) h.2.2.1, by simp [dirtyL, dirtyK, h.2.1, h.2.2.1, h.2.2.2]⟩
end
theorem sd_new : Sd (newP 4) none := ⟨rfl, .inl rfl⟩
/-- Which of the numbers it is. -/
theorem since_k (a n : Int) (hn : 1 ≤ n) (hn2 : n ≤ 30) : ∃ K : Nat, ((a.tmod n + n).tmod n = (K : Int)) ∧ (K : Int) < n ∧ -30 < a.tmod n ∧ a.tmod n < 30 := by
  have h1 := Int.tmod_lt_of_pos a (show 0 < n by omega)
  have h2 : -n < a.tmod n := by
    have := Int.lt_tmod_of_pos a (show 0 < n by omega)
    omega
  have h3 : 0 ≤ (a.tmod n + n).tmod n := Int.tmod_nonneg n (by omega)
  have h4 := Int.tmod_lt_of_pos (a.tmod n + n) (show 0 < n by omega)
  exact ⟨((a.tmod n + n).tmod n).toNat, by omega, by omega, by omega, by omega⟩
end Go.Proofs.Ytcecfageijkifaa.Po
