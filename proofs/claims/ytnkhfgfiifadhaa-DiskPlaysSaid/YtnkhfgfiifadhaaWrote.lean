/- What Write leaves, out of the memory's steps: its box, the sector, the pending row, the head. -/
import Derived.Test.YtnkhfgfiifadhaaBuild
namespace Go.Proofs.Ytnkhfgfiifadhaa
open Go.RowKit
set_option linter.unusedVariables false
variable {C p s c : Nat} {pv : Value} {A : St} {w : World}
def wrote (A : St) (k : Nat) (b : BA) : St := { A with pend := A.pend ++ [(k, b)], left := if 0 < A.left then A.left - 1 else A.left }

theorem setCells_block (g : Nat) : ∀ (vs : List Value) (o : Nat) (w : World) (k : Nat), k ≠ g → (w.setCells g o vs).heap[k]? = w.heap[k]?
  | [], _, _, _, _ => rfl
  | v :: vs, o, w, k, h => by rw [World.setCells, setCells_block g vs (o + 1) _ k h, heap_setCell_other _ _ _ _ h]
theorem setCells_size (g : Nat) : ∀ (vs : List Value) (o : Nat) (w : World), (w.setCells g o vs).heap.size = w.heap.size
  | [], _, _ => rfl
  | v :: vs, o, w => by rw [World.setCells, setCells_size g vs]; simp [World.setCell]
theorem setCells_os (g : Nat) : ∀ (vs : List Value) (o : Nat) (w : World), (w.setCells g o vs).os = w.os ∧ (w.setCells g o vs).tape = w.tape ∧ (w.setCells g o vs).output = w.output
  | [], _, _ => ⟨rfl, rfl, rfl⟩
  | v :: vs, o, w => by rw [World.setCells]; exact setCells_os g vs (o + 1) _
theorem Below.setCells {B : Nat} {a w : World} (h : Below B a w) {g : Nat} (hg : B ≤ g) (o : Nat) (vs : List Value) : Below B a (w.setCells g o vs) :=
  h.trans ⟨(setCells_os g vs o w).1, (setCells_os g vs o w).2.1, (setCells_os g vs o w).2.2, by rw [setCells_size]; exact Nat.le_refl _, fun k hk => setCells_block g vs o w k (by omega)⟩
/-- Cells stored into a block: what it holds then. -/
theorem setCells_heap (g : Nat) (t : TypeId) : ∀ (vs : List Value) (o : Nat) (w : World) (cur : Array Value), w.heap[g]? = some (.cells cur t (0, 0)) → o + vs.length ≤ cur.size →
    ∃ cur', (w.setCells g o vs).heap[g]? = some (.cells cur' t (0, 0)) ∧ cur'.size = cur.size ∧ ∀ i, cur'[i]? = if o ≤ i ∧ i < o + vs.length then vs[i - o]? else cur[i]?
  | [], o, w, cur, h, hs => ⟨cur, h, rfl, fun i => by rw [if_neg]; simp⟩
  | v :: vs, o, w, cur, h, hs => by
    simp only [List.length_cons] at hs
    obtain ⟨cur', h1, h2, h3⟩ := setCells_heap g t vs (o + 1) _ _ (heap_setCell_same w g o cur t v h) (by simp; omega)
    refine ⟨cur', h1, by rw [h2]; simp, fun i => ?_⟩
    rw [h3 i]
    by_cases e1 : o + 1 ≤ i ∧ i < o + 1 + vs.length
    · rw [if_pos e1, if_pos (by simp only [List.length_cons]; omega), show i - o = i - (o + 1) + 1 by omega, List.getElem?_cons_succ]
    · rw [if_neg e1, Array.getElem?_setIfInBounds]
      by_cases e2 : o = i
      · rw [if_pos e2, if_pos (by omega), if_pos (by simp only [List.length_cons]; omega), show i - o = 0 by omega]; rfl
      · rw [if_neg e2, if_neg (by simp only [List.length_cons]; omega)]
/-- A sector is stored. -/
theorem secs_stored {n : Nat} {L : List BA} {w W : World} {k : Nat} {b : BA} (hL : L.length = n) (hW : Whole L) (hk : k < n) (hb : b.length = 64)
    (h : ∃ cur, w.heap[s]? = some (.cells cur 61 (0, 0)) ∧ n * 64 ≤ cur.size ∧ ∀ i, i < n → ∀ j v, (cb (L.getD i []))[j]? = some v → cur[i * 64 + j]? = some v)
    (hw : W.heap[s]? = (w.setCells s (k * 64) (cb b)).heap[s]?) :
    ∃ cur, W.heap[s]? = some (.cells cur 61 (0, 0)) ∧ n * 64 ≤ cur.size ∧ ∀ i, i < n → ∀ j v, (cb ((L.set k b).getD i []))[j]? = some v → cur[i * 64 + j]? = some v := by
  obtain ⟨cur, h1, h2, h3⟩ := h
  obtain ⟨cur', g1, g2, g3⟩ := setCells_heap s 61 (cb b) (k * 64) w cur h1 (by rw [cb_length, hb]; omega)
  refine ⟨cur', hw.trans g1, by omega, fun i hi j v hv => ?_⟩
  have hj := (List.getElem?_eq_some_iff.1 hv).1
  rw [g3, cb_length, hb]
  by_cases e : k = i
  · subst e
    rw [List.getD_eq_getElem?_getD, List.getElem?_set_self (by omega)] at hv hj
    simp only [Option.getD_some, cb_length, hb] at hv hj
    rw [if_pos (by omega), show k * 64 + j - k * 64 = j by omega]
    exact hv
  · rw [List.getD_eq_getElem?_getD, List.getElem?_set_ne e, ← List.getD_eq_getElem?_getD] at hv hj
    rw [cb_length, hW.getD (by omega)] at hj
    rw [if_neg (by
      rcases Nat.lt_or_gt_of_ne e with h' | h'
      · have : k * 64 + 64 ≤ i * 64 := by omega
        omega
      · have : i * 64 + 64 ≤ k * 64 := by omega
        omega)]
    exact h3 i hi j v hv
theorem Own.wroteRow (h : Own C p s c pv A w) {k : Nat} {b : BA} (hk : k < A.last.length) (hb : b.length = 64) {wx W W' : World} {pv' : Value} {o : Obj} (hx : Below w.heap.size w wx)
    (hg : ((wx.drew.setCells s (k * 64) (cb b)).drew.alloc o).grownBy W pv.ownBlock) (hC : ∀ q, pv'.ownBlock = some q → pv.ownBlock = some q ∨ w.heap.size ≤ q)
    (hrow : W.ownsRow C 63 129 pv' (A.pend.length + 1) (pcells A.last A.pend ++ wcs k ((appl A.last A.pend).getD k []) b)) (hW : W' = W.setCell ⟨p, 1, none⟩ pv') :
    Own C p s c pv' { A with pend := A.pend ++ [(k, b)] } W' ∧ Turned p s pv w W' := by
  subst hW
  have hps := h.ps
  have hp := h.lt
  have hs := h.lts
  have hsx := hx.size
  have hb1 : ∀ q, q < w.heap.size → q ≠ s → pv.ownBlock ≠ some q → W.heap[q]? = w.heap[q]? := fun q h1 h2 h3 => by
    rw [hg.block q (by simp [setCells_size]; omega) (fun e => h3 e.symm), Below.heap_alloc _ _ _ (by simp [setCells_size]; omega)]
    rw [show (wx.drew.setCells s (k * 64) (cb b)).drew.heap = (wx.drew.setCells s (k * 64) (cb b)).heap from rfl, setCells_block _ _ _ _ _ h2]
    exact hx.block q h1
  have hbs : W.heap[s]? = (wx.drew.setCells s (k * 64) (cb b)).heap[s]? := by
    rw [hg.block s (by simp [setCells_size]; omega) (fun e => h.vs e.symm), Below.heap_alloc _ _ _ (by simp [setCells_size]; omega)]
    rfl
  have hvp : pv'.ownBlock ≠ some p := fun e => by
    rcases hC p e with h1 | h1
    · exact h.vp h1
    · omega
  have hvs : pv'.ownBlock ≠ some s := fun e => by
    rcases hC s e with h1 | h1
    · exact h.vs h1
    · omega
  have hhead : W.heap[p]? = _ := (hb1 p hp hps h.vp).trans h.head
  refine ⟨⟨h.hp, h.hs, h.ps, hvp, hvs, ?_, ?_, ?_, h.whole, h.fits.snoc hk hb, h.n1, h.n2, h.c1, h.c2, h.l1, h.l2⟩, ?_⟩
  · rw [heap_setCell_same _ _ _ _ _ _ hhead]; rfl
  · rw [heap_setCell_other _ _ _ _ (by show s ≠ p; omega)]
    simp only [appl_snoc]
    refine secs_stored (w := wx.drew) (appl_length _ _) h.wholeNow hk hb ?_ hbs
    obtain ⟨cur, h1, h2⟩ := h.secs
    exact ⟨cur, (hx.block s hs).trans h1, h2⟩
  · refine ⟨by rw [pcells_snoc]; have := hrow.1; simp only [List.length_append, List.length_singleton] at this ⊢; exact this, ?_⟩
    rcases hrow.2 with ⟨h1, h2⟩ | ⟨g, cap, cur, h1, h2, h3, h4⟩
    · omega
    · refine .inr ⟨g, cap, cur, by simpa using h1, h2, ?_, by simpa [pcells_snoc] using h4⟩
      rw [heap_setCell_other _ _ _ _ (by show g ≠ p; rintro rfl; exact hvp (by rw [h1]; rfl))]
      exact h3
  · refine ⟨?_, ?_, ?_, ?_, fun q h1 h2 h3 h4 => ?_⟩
    · exact hg.os.trans (((setCells_os s (cb b) (k * 64) wx.drew).1).trans hx.os)
    · exact hg.tape.trans (((setCells_os s (cb b) (k * 64) wx.drew).2.1).trans hx.tape)
    · exact hg.output.trans (((setCells_os s (cb b) (k * 64) wx.drew).2.2).trans hx.output)
    · have := hg.size
      simp [setCells_size] at this
      simp [World.setCell]; omega
    · rw [heap_setCell_other _ _ _ _ h2]
      exact hb1 q h1 h3 h4
end Go.Proofs.Ytnkhfgfiifadhaa
