/- PoolOrder, plainly: no page is written ahead of the log. -/
import Derived.Test.YtcecfageijkifaaKh
namespace Go.Proofs.Ytcecfageijkifaa.Po
open Go.ChangeShapes Go.WideShapes Go.ChangeAt Go.RowKit
set_option linter.unusedVariables false
set_option linter.unusedSimpArgs false
set_option maxRecDepth 100000
/-- How far the log is durable behind these steps. -/
def dur : Int → St → Int
  | d, [] => d
  | d, (kd, n, b) :: r => dur (if kd = 108 then max d n else d) r
/-- Each page is written behind the record that made it so. -/
def vS (mk : BA → Nat) : Int → St → Prop
  | _, [] => True
  | d, (kd, n, b) :: r => (kd = 119 → 0 < mk b ∧ (mk b : Int) ≤ d) ∧ vS mk (if kd = 108 then max d n else d) r
theorem vS_append {mk : BA → Nat} : ∀ (l m : St) (d : Int), vS mk d (l ++ m) ↔ vS mk d l ∧ vS mk (dur d l) m
  | [], m, d => by simp [vS, dur]
  | (kd, n, b) :: r, m, d => by
    show (_ ∧ vS mk _ (r ++ m)) ↔ _
    rw [vS_append r m]
    simp only [vS, dur]
    exact and_assoc.symm
theorem dur_append : ∀ (l m : St) (d : Int), dur d (l ++ m) = dur (dur d l) m
  | [], m, d => rfl
  | (kd, n, b) :: r, m, d => dur_append r m _
theorem vS_more {mk : BA → Nat} {c : BA} {v : Nat} (hc : mk c = 0) : ∀ (l : St) (d : Int), vS mk d l → vS (fun b => if b = c then v else mk b) d l
  | [], d, h => trivial
  | (kd, n, b) :: r, d, h => by
    refine ⟨fun h1 => ?_, vS_more hc r _ h.2⟩
    have := h.1 h1
    have hne : b ≠ c := fun e => by rw [e, hc] at this; omega
    simp only [hne, if_false]
    exact this
structure OInv (A : Pl) (o : St) (mk : BA → Nat) : Prop where
  dd : ∀ k ∈ A.ks, (A.fr k).d = true → 0 < mk (A.fr k).b ∧ (mk (A.fr k).b : Int) ≤ (A.fr k).lsn
  vs : vS mk 0 o
structure Good3 (h : Host St) : Prop where
  rd : ∀ o k, 0 ≤ k → k < 40 → h.rdF o k = (([], 0), o ++ [(114, k, [])])
  wr : ∀ o k b, h.wrF o k b = (0, o ++ [(119, k, b)])
  lg : ∀ o k, h.lgF o k = (0, o ++ [(108, k, [])])
section
variable {h : Host St} {A : Pl} {o : St} {mk : BA → Nat}
theorem o_more (hi : OInv A o mk) {c : BA} {v : Nat} (hc : mk c = 0) : OInv A o (fun b => if b = c then v else mk b) := by
  refine ⟨fun k hk hd => ?_, vS_more hc o 0 hi.vs⟩
  have := hi.dd k hk hd
  have hne : (A.fr k).b ≠ c := fun e => by rw [e, hc] at this; omega
  simp only [hne, if_false]
  exact this
theorem o_flush (h3 : Good3 h) (hi : OInv A o mk) (k : Int) : ∃ A' o', flushP h A o k = (0, A', o') ∧ OInv A' o' mk ∧ A'.ks = A.ks ∧ ((A'.fr k).d = false ∨ k ∉ A.ks) ∧ (∀ j, j ≠ k → A'.fr j = A.fr j) := by
  unfold flushP
  by_cases hc : k ∈ A.ks ∧ (A.fr k).d = true
  · rw [if_pos hc, h3.lg, h3.wr]
    obtain ⟨hb1, hb2⟩ := hi.dd k hc.1 hc.2
    refine ⟨cleanP A k, o ++ [(108, (A.fr k).lsn, [])] ++ [(119, k, (A.fr k).b)], by simp, ⟨fun j hj hd => ?_, ?_⟩, rfl, .inl (by simp [cleanP, upd]), fun j hj => by simp [cleanP, upd, hj]⟩
    · by_cases he : j = k
      · subst he; simp [cleanP, upd] at hd
      · have e1 : (cleanP A k).fr j = A.fr j := by simp [cleanP, upd, he]
        rw [e1] at hd ⊢
        exact hi.dd j hj hd
    · rw [vS_append, vS_append, dur_append]
      refine ⟨⟨hi.vs, ?_⟩, ?_⟩
      · simp [vS]
      · simp only [vS, dur, if_true, and_true]
        intro _
        exact ⟨hb1, by omega⟩
  · rw [if_neg hc]
    refine ⟨A, o, rfl, hi, rfl, ?_, fun _ _ => rfl⟩
    by_cases hk : k ∈ A.ks
    · exact .inl (by cases hd : (A.fr k).d with
        | true => exact absurd ⟨hk, hd⟩ hc
        | false => rfl)
    · exact .inr hk
theorem o_prov (h3 : Good3 h) (hA : Ok A) (hi : OInv A o mk) {k : Int} (hk : k ∉ A.ks) (b : BA) : ∃ A' o', provP h A o k b = (0, A', o') ∧ OInv A' o' mk ∧ k ∈ A'.ks := by
  have hins : ∀ (A1 : Pl) (o1 : St), OInv A1 o1 mk → OInv (insP A1 k b) o1 mk ∧ k ∈ (insP A1 k b).ks := fun A1 o1 h1 => by
    refine ⟨⟨fun j hj hd => ?_, h1.vs⟩, mem_insK.2 (.inl rfl)⟩
    by_cases he : j = k
    · subst he; simp [insP, upd] at hd
    · rcases mem_insK.1 hj with rfl | hj
      · exact absurd rfl he
      · have e1 : (insP A1 k b).fr j = A1.fr j := by simp [insP, upd, he]
        rw [e1] at hd ⊢
        exact h1.dd j hj hd
  unfold provP
  rw [if_neg hk]
  by_cases hl : A.ks.length < A.most
  · rw [if_pos hl]
    exact ⟨_, _, rfl, hins A o hi⟩
  · rw [if_neg hl]
    obtain ⟨A1, o1, f1, f2, f3, f4, f5⟩ := o_flush h3 hi (victim A)
    have hem : emptyP h A o (victim A) = (0, delP A1 (victim A), o1) := by
      unfold emptyP
      rw [f1]
      simp
    rw [hem]
    have hdel : OInv (delP A1 (victim A)) o1 mk := ⟨fun j hj hd => f2.dd j (mem_delK.1 hj).1 hd, f2.vs⟩
    exact ⟨_, _, by simp, hins _ _ hdel⟩
theorem o_get (h3 : Good3 h) (hA : Ok A) (hi : OInv A o mk) {k : Int} (k0 : 0 ≤ k) (k1 : k < 40) : ∃ x A' o', getP h A o k = (x, A', o') ∧ OInv A' o' mk := by
  unfold getP
  by_cases hk : k ∈ A.ks
  · rw [if_pos hk]
    exact ⟨_, _, _, rfl, ⟨hi.dd, hi.vs⟩⟩
  · rw [if_neg hk, h3.rd o k k0 k1]
    have hi1 : OInv A (o ++ [(114, k, [])]) mk := ⟨hi.dd, by rw [vS_append]; exact ⟨hi.vs, by simp [vS]⟩⟩
    obtain ⟨A1, o1, p1, p2, p3⟩ := o_prov h3 hA hi1 hk []
    simp only [p1]
    exact ⟨((A1.fr k).b, 0), accP A1 k, o1, by simp, ⟨p2.dd, p2.vs⟩⟩
theorem o_set (h3 : Good3 h) (hA : Ok A) (hi : OInv A o mk) (k : Int) {c : BA} {lsn : Int} (hc : 0 < mk c ∧ (mk c : Int) ≤ lsn) : ∃ A' o', setP h A o k c lsn = (0, A', o') ∧ OInv A' o' mk := by
  have hset : ∀ (A1 : Pl) (o1 : St), OInv A1 o1 mk → OInv (accP (dirtP A1 k c lsn) k) o1 mk := fun A1 o1 h1 => by
    refine ⟨fun j hj hd => ?_, h1.vs⟩
    by_cases he : j = k
    · subst he
      have e1 : ((accP (dirtP A1 j c lsn) j).fr j).b = c ∧ ((accP (dirtP A1 j c lsn) j).fr j).lsn = lsn := by simp [accP, dirtP, upd]
      rw [e1.1, e1.2]; exact hc
    · have e1 : (accP (dirtP A1 k c lsn) k).fr j = A1.fr j := by simp [accP, dirtP, upd, he]
      rw [e1] at hd ⊢
      exact h1.dd j hj hd
  unfold setP
  by_cases hk : k ∈ A.ks
  · have hp : provP h A o k [] = (0, A, o) := by unfold provP; rw [if_pos hk]
    rw [hp]
    exact ⟨_, _, by simp, hset A o hi⟩
  · obtain ⟨A1, o1, p1, p2, p3⟩ := o_prov h3 hA hi hk []
    rw [p1]
    exact ⟨_, _, by simp, hset A1 o1 p2⟩
theorem o_all (h3 : Good3 h) : ∀ (l : List Int) (A : Pl) (o : St), OInv A o mk → (∀ k, (A.fr k).d = true → k ∈ A.ks → k ∈ l) → ∃ A' o', allL h A o l = (0, A', o') ∧ OInv A' o' mk ∧ A'.ks = A.ks ∧ ∀ k ∈ A'.ks, (A'.fr k).d = false
  | [], A, o, hi, hl => ⟨A, o, rfl, hi, rfl, fun k hk => by cases hd : (A.fr k).d with
      | true => have := hl k hd hk; simp at this
      | false => rfl⟩
  | x :: r, A, o, hi, hl => by
    obtain ⟨A1, o1, f1, f2, f3, f5, f6⟩ := o_flush h3 hi x
    obtain ⟨A2, o2, g1, g2, g3, g4⟩ := o_all h3 r A1 o1 f2 (fun k hd hk => by
      by_cases he : k = x
      · subst he
        rcases f5 with f5 | f5
        · rw [f5] at hd; cases hd
        · exact absurd (f3 ▸ hk) f5
      · rw [f6 k he] at hd
        rw [f3] at hk
        rcases List.mem_cons.1 (hl k hd hk) with h' | h'
        · exact absurd h' he
        · exact h')
    refine ⟨A2, o2, ?_, g2, by rw [g3, f3], g4⟩
    unfold allL
    rw [f1]
    simp only [ne_eq, not_true_eq_false, if_false]
    exact g1
theorem o_allP (h3 : Good3 h) (hi : OInv A o mk) : ∃ A' o', allP h A o = (0, A', o') ∧ OInv A' o' mk ∧ dirtyL A' = [] := by
  obtain ⟨A', o', h1, h3, h4, h5⟩ := o_all (mk := mk) h3 (dirtyK A) A o hi (fun k hd hk => by simp [dirtyK, hk, hd])
  refine ⟨A', o', h1, h3, ?_⟩
  unfold dirtyL dirtyK
  rw [List.filter_eq_nil_iff.2 (fun k hk => by rw [h5 k hk]; simp)]
  rfl
theorem o_new (n : Nat) : OInv (newP n) [] (fun _ => 0) := ⟨fun k hk => by simp [newP] at hk, trivial⟩
end
/-- The bytes that the i-th Set writes. -/
def mkB (i pg : Nat) : BA := [UInt8.ofNat i, 0, UInt8.ofNat pg, 98]
/-- What was made so far: the first byte tells which it was. -/
def Seen (i : Nat) (mk : BA → Nat) : Prop := ∀ b, 0 < mk b → b.length = 4 ∧ ∃ j, j < i ∧ b.getD 0 0 = UInt8.ofNat j
theorem seen_zero : Seen 0 (fun _ => 0) := fun b hb => by simp at hb
theorem seen_up {i : Nat} {mk : BA → Nat} (h : Seen i mk) : Seen (i + 1) mk := fun b hb => by
  obtain ⟨h0, j, h1, h2⟩ := h b hb
  exact ⟨h0, j, by omega, h2⟩
theorem seen_new {i pg : Nat} (hi : i < 256) {mk : BA → Nat} (h : Seen i mk) : mk (mkB i pg) = 0 := by
  cases hm : mk (mkB i pg) with
  | zero => rfl
  | succ m =>
    obtain ⟨_, j, h1, h2⟩ := h (mkB i pg) (by omega)
    have h3 : UInt8.ofNat i = UInt8.ofNat j := h2
    have h4 := congrArg UInt8.toNat h3
    simp at h4
    omega
theorem seen_add {i pg v : Nat} {mk : BA → Nat} (h : Seen i mk) : Seen (i + 1) (fun b => if b = mkB i pg then v else mk b) := fun b hb => by
  by_cases he : b = mkB i pg
  · exact ⟨by rw [he]; rfl, i, by omega, by rw [he]; rfl⟩
  · simp only [he, if_false] at hb
    exact seen_up h b hb
end Go.Proofs.Ytcecfageijkifaa.Po
