/- PoolKeeps, plainly: what was set is told. -/
import Derived.Test.YtcecfageijkifaaTw
import Derived.Maps.RangeWalk
namespace Go.Proofs.Ytcecfageijkifaa.Po
open Go.ChangeShapes Go.WideShapes Go.ChangeAt Go.RowKit
set_option linter.unusedVariables false
set_option linter.unusedSimpArgs false
set_option maxRecDepth 100000
/-- A disk: what was written, and how often. -/
abbrev Dk := (Int → Option BA) × Nat
def gD (f : Int → Option BA) (k : Int) : BA := (f k).getD []
structure KInv (A : Pl) (D N : Int → Option BA) : Prop where
  b : ∀ k ∈ A.ks, (A.fr k).b = gD N k
  c : ∀ k ∈ A.ks, (A.fr k).d = false → gD D k = gD N k
  o : ∀ k, k ∉ A.ks → gD D k = gD N k
/-- The same, but for one page that is not there. -/
structure KInx (x : Int) (A : Pl) (D N : Int → Option BA) : Prop where
  b : ∀ k ∈ A.ks, k ≠ x → (A.fr k).b = gD N k
  c : ∀ k ∈ A.ks, k ≠ x → (A.fr k).d = false → gD D k = gD N k
  o : ∀ k, k ∉ A.ks → k ≠ x → gD D k = gD N k
structure Good2 (h : Host Dk) : Prop where
  rd : ∀ o k, h.rdF o k = ((gD o.1 k, 0), o)
  wr : ∀ o k b, h.wrF o k b = (0, (updI o.1 k (some b), o.2 + 1))
  lg : ∀ o k, h.lgF o k = (0, o)
section
variable {h : Host Dk} {A : Pl} {o : Dk} {N : Int → Option BA}
theorem gD_same (f : Int → Option BA) (k : Int) (b : BA) : gD (updI f k (some b)) k = b := by simp [gD, updI]
theorem gD_other (f : Int → Option BA) {k j : Int} (b : BA) (hne : j ≠ k) : gD (updI f k (some b)) j = gD f j := by simp [gD, updI, hne]
theorem k_flush (h2 : Good2 h) (hi : KInv A o.1 N) (k : Int) : ∃ A' o', flushP h A o k = (0, A', o') ∧ KInv A' o'.1 N ∧ A'.ks = A.ks ∧ gD o'.1 k = gD N k ∧ ((A'.fr k).d = false ∨ k ∉ A.ks) ∧ (∀ j, j ≠ k → A'.fr j = A.fr j) ∧ (∀ j, j ≠ k → gD o'.1 j = gD o.1 j) := by
  unfold flushP
  by_cases hc : k ∈ A.ks ∧ (A.fr k).d = true
  · rw [if_pos hc, h2.lg, h2.wr]
    have hb := hi.b k hc.1
    refine ⟨cleanP A k, (updI o.1 k (some (A.fr k).b), o.2 + 1), by simp, ⟨fun j hj => ?_, fun j hj hd => ?_, fun j hj => ?_⟩, rfl, ?_, .inl (by simp [cleanP, upd]), fun j hj => by simp [cleanP, upd, hj], fun j hj => gD_other _ _ hj⟩
    · by_cases he : j = k
      · subst he; simp [cleanP, upd]; exact hb
      · simp [cleanP, upd, he]; exact hi.b j hj
    · by_cases he : j = k
      · subst he; show gD (updI o.1 j _) j = _; rw [gD_same, hb]
      · show gD (updI o.1 k _) j = _
        rw [gD_other _ _ he]
        exact hi.c j hj (by simpa [cleanP, upd, he] using hd)
    · have hj : j ∉ A.ks := hj
      by_cases he : j = k
      · subst he; exact absurd hc.1 hj
      · show gD (updI o.1 k _) j = _
        rw [gD_other _ _ he]
        exact hi.o j hj
    · show gD (updI o.1 k _) k = _
      rw [gD_same, hb]
  · rw [if_neg hc]
    refine ⟨A, o, rfl, hi, rfl, ?_, ?_, fun _ _ => rfl, fun _ _ => rfl⟩
    · by_cases hk : k ∈ A.ks
      · exact hi.c k hk (by cases hd : (A.fr k).d with
          | true => exact absurd ⟨hk, hd⟩ hc
          | false => rfl)
      · exact hi.o k hk
    · by_cases hk : k ∈ A.ks
      · exact .inl (by cases hd : (A.fr k).d with
          | true => exact absurd ⟨hk, hd⟩ hc
          | false => rfl)
      · exact .inr hk
theorem k_prov (h2 : Good2 h) (hA : Ok A) (hi : KInv A o.1 N) {k : Int} (hk : k ∉ A.ks) (b : BA) : ∃ A' o', provP h A o k b = (0, A', o') ∧ KInx k A' o'.1 N ∧ k ∈ A'.ks ∧ (A'.fr k).b = b ∧ (A'.fr k).d = false ∧ gD o'.1 k = gD N k := by
  have hins : ∀ (A1 : Pl) (D1 : Int → Option BA), KInv A1 D1 N → k ∉ A1.ks → KInx k (insP A1 k b) D1 N ∧ k ∈ (insP A1 k b).ks ∧ ((insP A1 k b).fr k).b = b ∧ ((insP A1 k b).fr k).d = false ∧ gD D1 k = gD N k := fun A1 D1 h1 hk1 => by
    refine ⟨⟨fun j hj hne => ?_, fun j hj hne hd => ?_, fun j hj hne => ?_⟩, mem_insK.2 (.inl rfl), by simp [insP, upd], by simp [insP, upd], h1.o k hk1⟩
    · rcases mem_insK.1 hj with rfl | hj
      · exact absurd rfl hne
      · simp [insP, upd, hne]; exact h1.b j hj
    · rcases mem_insK.1 hj with rfl | hj
      · exact absurd rfl hne
      · exact h1.c j hj (by simpa [insP, upd, hne] using hd)
    · exact h1.o j (fun h' => hj (mem_insK.2 (.inr h')))
  unfold provP
  rw [if_neg hk]
  by_cases hl : A.ks.length < A.most
  · rw [if_pos hl]
    exact ⟨_, _, rfl, hins A o.1 hi hk⟩
  · rw [if_neg hl]
    have hne : A.ks ≠ [] := fun h0 => hl (by rw [h0]; exact hA.m1)
    obtain ⟨A1, o1, f1, f2, f3, f4, f5, f6, f7⟩ := k_flush h2 hi (victim A)
    have hem : emptyP h A o (victim A) = (0, delP A1 (victim A), o1) := by
      unfold emptyP
      rw [f1]
      simp
    rw [hem]
    have hdel : KInv (delP A1 (victim A)) o1.1 N := by
      refine ⟨fun j hj => f2.b j (mem_delK.1 hj).1, fun j hj hd => f2.c j (mem_delK.1 hj).1 hd, fun j hj => ?_⟩
      by_cases he : j = victim A
      · rw [he]; exact f4
      · exact f2.o j (fun h' => hj (mem_delK.2 ⟨h', he⟩))
    have hkn : k ∉ (delP A1 (victim A)).ks := fun h' => hk (by have := (mem_delK.1 h').1; rwa [f3] at this)
    exact ⟨_, _, by simp, hins _ _ hdel hkn⟩
theorem k_get (h2 : Good2 h) (hA : Ok A) (hi : KInv A o.1 N) (k : Int) : ∃ A' o', getP h A o k = ((gD N k, 0), A', o') ∧ KInv A' o'.1 N := by
  unfold getP
  by_cases hk : k ∈ A.ks
  · rw [if_pos hk, hi.b k hk]
    exact ⟨_, _, rfl, ⟨hi.b, hi.c, hi.o⟩⟩
  · rw [if_neg hk, h2.rd]
    obtain ⟨A1, o1, p1, p2, p3, p4, p5, p6⟩ := k_prov h2 hA hi hk (gD o.1 k)
    simp only [p1]
    have hb : (A1.fr k).b = gD N k := by rw [p4]; exact hi.o k hk
    refine ⟨accP A1 k, o1, by simp [hb], ⟨fun j hj => ?_, fun j hj hd => ?_, fun j hj => ?_⟩⟩
    · by_cases he : j = k
      · rw [he]; exact hb
      · exact p2.b j hj he
    · by_cases he : j = k
      · rw [he]; exact p6
      · exact p2.c j hj he hd
    · by_cases he : j = k
      · rw [he]; exact p6
      · exact p2.o j hj he
theorem k_set (h2 : Good2 h) (hA : Ok A) (hi : KInv A o.1 N) (k : Int) (c : BA) (lsn : Int) : ∃ A' o', setP h A o k c lsn = (0, A', o') ∧ KInv A' o'.1 (updI N k (some c)) := by
  have hset : ∀ (A1 : Pl) (D1 : Int → Option BA), KInx k A1 D1 N → k ∈ A1.ks → KInv (accP (dirtP A1 k c lsn) k) D1 (updI N k (some c)) := fun A1 D1 h1 hk1 => by
    refine ⟨fun j hj => ?_, fun j hj hd => ?_, fun j hj => ?_⟩
    · by_cases he : j = k
      · subst he; rw [gD_same]; simp [accP, dirtP, upd]
      · rw [gD_other _ _ he]; simp [accP, dirtP, upd, he]; exact h1.b j hj he
    · by_cases he : j = k
      · subst he; simp [accP, dirtP, upd] at hd
      · rw [gD_other _ _ he]
        exact h1.c j hj he (by simpa [accP, dirtP, upd, he] using hd)
    · by_cases he : j = k
      · subst he; exact absurd hk1 hj
      · rw [gD_other _ _ he]
        exact h1.o j hj he
  unfold setP
  by_cases hk : k ∈ A.ks
  · have hp : provP h A o k [] = (0, A, o) := by unfold provP; rw [if_pos hk]
    rw [hp]
    exact ⟨_, _, by simp, hset A o.1 ⟨fun j hj _ => hi.b j hj, fun j hj _ hd => hi.c j hj hd, fun j hj _ => hi.o j hj⟩ hk⟩
  · obtain ⟨A1, o1, p1, p2, p3, p4, p5, p6⟩ := k_prov h2 hA hi hk []
    rw [p1]
    exact ⟨_, _, by simp, hset A1 o1.1 p2 p3⟩
theorem k_all (h2 : Good2 h) : ∀ (l : List Int) (A : Pl) (o : Dk), KInv A o.1 N → (∀ k, (A.fr k).d = true → k ∈ A.ks → k ∈ l) → ∃ A' o', allL h A o l = (0, A', o') ∧ KInv A' o'.1 N ∧ A'.ks = A.ks ∧ ∀ k ∈ A'.ks, (A'.fr k).d = false
  | [], A, o, hi, hl => ⟨A, o, rfl, hi, rfl, fun k hk => by cases hd : (A.fr k).d with
      | true => have := hl k hd hk; simp at this
      | false => rfl⟩
  | x :: r, A, o, hi, hl => by
    obtain ⟨A1, o1, f1, f2, f3, f4, f5, f6, f7⟩ := k_flush h2 hi x
    obtain ⟨A2, o2, g1, g2, g3, g4⟩ := k_all h2 r A1 o1 f2 (fun k hd hk => by
      by_cases he : k = x
      · subst he
        rcases f5 with f5 | f5
        · rw [f5] at hd; cases hd
        · exact absurd (f3 ▸ hk) f5
      · rw [f6 k he] at hd
        rw [f3] at hk
        rcases List.mem_cons.1 (hl k hd hk) with h' | h'
        · exact absurd h' he
        · exact h')
    refine ⟨A2, o2, ?_, g2, by rw [g3, f3], g4⟩
    unfold allL
    rw [f1]
    simp only [ne_eq, not_true_eq_false, if_false]
    exact g1
theorem k_allP (h2 : Good2 h) (hi : KInv A o.1 N) : ∃ A' o', allP h A o = (0, A', o') ∧ KInv A' o'.1 N ∧ dirtyL A' = [] ∧ ∀ k, gD o'.1 k = gD N k := by
  obtain ⟨A', o', h1, h3, h4, h5⟩ := k_all (N := N) h2 (dirtyK A) A o hi (fun k hd hk => by simp [dirtyK, hk, hd])
  refine ⟨A', o', h1, h3, ?_, fun k => ?_⟩
  · unfold dirtyL dirtyK
    rw [List.filter_eq_nil_iff.2 (fun k hk => by rw [h5 k hk]; simp)]
    rfl
  · by_cases hk : k ∈ A'.ks
    · exact h3.c k hk (h5 k hk)
    · exact h3.o k hk
theorem k_new (n : Nat) : KInv (newP n) (fun _ => none) (fun _ => none) := ⟨fun k hk => by simp [newP] at hk, fun k hk => by simp [newP] at hk, fun k _ => rfl⟩
end
end Go.Proofs.Ytcecfageijkifaa.Po
