/- Two disks side by side. -/
import Derived.Test.YtnkhfgfiifadhaaCopy
import Derived.Test.YtnkhfgfiifadhaaBase
namespace Go.Proofs.Ytnkhfgfiifadhaa
open Go.ChangeShapes Go.WideShapes Go.ChangeAt Go.RowKit
set_option linter.unusedVariables false
def Has (p s : Nat) (pv : Value) (k : Nat) : Prop := k = p ∨ k = s ∨ pv.ownBlock = some k
/-- Two disks that share no block. -/
def Two (C p : Nat) (A : St) (p' : Nat) (A' : St) (w : World) : Prop := ∃ s c pv s' c' pv', Own C p s c pv A w ∧ Own C p' s' c' pv' A' w ∧ ∀ k, Has p s pv k → ¬ Has p' s' pv' k
theorem Own.has {C p s c : Nat} {pv : Value} {A : St} {w : World} (h : Own C p s c pv A w) {k : Nat} (hk : Has p s pv k) : k < w.heap.size := by
  rcases hk with rfl | rfl | hk
  · exact h.lt
  · exact h.lts
  · exact (h.ltv k hk).2
theorem Own.weaken {C C' p s c : Nat} {pv : Value} {A : St} {w : World} (h : Own C p s c pv A w) (hC : C' ≤ C) : Own C' p s c pv A w := by
  refine ⟨Nat.le_trans hC h.hp, Nat.le_trans hC h.hs, h.ps, h.vp, h.vs, h.head, h.secs, ⟨h.row.1, ?_⟩, h.whole, h.fits, h.n1, h.n2, h.c1, h.c2, h.l1, h.l2⟩
  rcases h.row.2 with h1 | ⟨g, cap, cur, h1, h2, h3⟩
  · exact .inl h1
  · exact .inr ⟨g, cap, cur, h1, Nat.le_trans hC h2, h3⟩
section
variable {C p p' : Nat} {A A' : St} {w w' : World}
theorem Two.symm (h : Two C p A p' A' w) : Two C p' A' p A w := by
  obtain ⟨s, c, pv, s', c', pv', h1, h2, h3⟩ := h
  exact ⟨s', c', pv', s, c, pv, h2, h1, fun k hk hk' => h3 k hk' hk⟩
theorem Two.one (h : Two C p A p' A' w) : Disk C p A w := by
  obtain ⟨s, c, pv, s', c', pv', h1, h2, h3⟩ := h; exact ⟨s, c, pv, h1⟩
theorem Two.other (h : Two C p A p' A' w) : Disk C p' A' w := h.symm.one
theorem Two.below {D : Nat} (h : Two C p A p' A' w) (hb : Below D w w') (hD : w.heap.size ≤ D) : Two C p A p' A' w' := by
  obtain ⟨s, c, pv, s', c', pv', h1, h2, h3⟩ := h
  exact ⟨s, c, pv, s', c', pv', h1.below hb hD, h2.below hb hD, h3⟩
theorem Two.turn {s c s' c' : Nat} {pv pv' pv2 : Value} {A2 : St} (h1 : Own C p s c pv A w) (h2 : Own C p' s' c' pv' A' w) (h3 : ∀ k, Has p s pv k → ¬ Has p' s' pv' k) (h4 : Own C p s c pv2 A2 w') (ht : Turned p s pv w w') (hm : Moved pv pv2 w) : Two C p A2 p' A' w' := by
  refine ⟨s, c, pv2, s', c', pv', h4, h2.same fun k hk => ht.block k (h2.has hk) (fun e => h3 k (.inl e) hk) (fun e => h3 k (.inr (.inl e)) hk) (fun e => h3 k (.inr (.inr e)) hk), fun k hk hk' => ?_⟩
  rcases hk with e | e | e
  · exact h3 k (.inl e) hk'
  · exact h3 k (.inr (.inl e)) hk'
  · rcases hm k e with e' | e'
    · exact h3 k (.inr (.inr e')) hk'
    · have := h2.has hk'; omega
/-- A call on the one of them. -/
def AfterTwo (C p : Nat) (A : St) (p' : Nat) (A' : St) (w w' : World) : Prop := Two C p A p' A' w' ∧ Below C w w'
theorem write_two (h : Two C p A p' A' w) (k : Nat) (b : BA) (hr : A.runs = true) (hk : k < A.last.length) (hb : b.length = 64) (hl : A.left ≠ 0) (hm : A.pend.length ≤ 1000000) :
    Calls Try.prog 17 #[ptr p, .int .i64 k, .string (str b)] w fun e w' => e = .returned (.int .i64 0) ∧ AfterTwo C p (wrote A k b) p' A' w w' := by
  obtain ⟨s, c, pv, s', c', pv', h1, h2, h3⟩ := h
  exact (write_ok h1 k b hr hk hb hl hm).mono fun e w' ⟨he, pv2, g1, g2, g3⟩ => ⟨he, Two.turn h1 h2 h3 g1 g2 g3, (h1.left g2).below⟩
theorem sync_two (h : Two C p A p' A' w) (hr : A.runs = true) : Calls Try.prog 19 #[ptr p] w fun e w' => e = .returned (.int .i64 0) ∧ AfterTwo C p (synced A) p' A' w w' := by
  obtain ⟨s, c, pv, s', c', pv', h1, h2, h3⟩ := h
  exact (sync_o h1 hr).mono fun e w' ⟨he, g1, g2⟩ => ⟨he, Two.turn h1 h2 h3 g1 g2 (fun k e => by simp [Value.ownBlock] at e), (h1.left g2).below⟩
theorem crash_two (h : Two C p A p' A' w) (ka : Option Addr) (kc : Nat) (hm : A.pend.length ≤ 1000000) : Calls Try.prog 21 #[ptr p, .slice ka 0 kc] w fun e w' => e = .returned (.int .i64 0) ∧ AfterTwo C p ⟨A.last, [], true, -1⟩ p' A' w w' := by
  obtain ⟨s, c, pv, s', c', pv', h1, h2, h3⟩ := h
  have hk : kept A.pend [] = [] := by simp [kept]
  have := crash_o h1 [] ka kc hm (by simp) (fun i hi => by simp at hi)
  refine this.mono fun e w' ⟨he, g1, g2⟩ => ⟨by rw [he, hk]; rfl, ?_, (h1.left g2).below⟩
  rw [crashed, hk] at g1
  exact Two.turn h1 h2 h3 g1 g2 (fun k e => by simp [Value.ownBlock] at e)
theorem copy_two (h : Disk C p A w) (hm : A.pend.length ≤ 1000000) : Calls Try.prog 24 #[ptr p] w fun e w' => ∃ p', e = .returned (ptr p') ∧ AfterTwo C p A p' A w w' := by
  obtain ⟨s, c, pv, h1⟩ := h
  have hp := h1.hp
  have hlt := h1.lt
  refine (copy_o h1 hm).mono fun e w' ⟨p', s', c', pv', he, g1, g2⟩ => ⟨p', he, ⟨s, c, pv, s', c', pv', h1.below g2 (Nat.le_refl _), g1.weaken (by omega), fun k hk hk' => ?_⟩, g2.mono (by omega)⟩
  have := h1.has hk
  rcases hk' with e | e | e
  · have := g1.hp; omega
  · have := g1.hs; omega
  · have := (g1.ltv k e).1; omega
theorem AfterTwo.more {D : Nat} {w1 w2 : World} (h : AfterTwo C p A p' A' w w1) (hb : Below D w1 w2) (hD : w1.heap.size ≤ D) : AfterTwo C p A p' A' w w2 :=
  ⟨h.1.below hb hD, h.2.trans (hb.mono (by have := h.1.one.base; omega))⟩
theorem AfterTwo.then {p2 p3 : Nat} {A2 A3 : St} {w1 w2 : World} (h : AfterTwo C p A p' A' w w1) (k : AfterTwo C p2 A2 p3 A3 w1 w2) : AfterTwo C p2 A2 p3 A3 w w2 := ⟨k.1, h.2.trans k.2⟩
end
end Go.Proofs.Ytnkhfgfiifadhaa
