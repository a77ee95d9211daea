/- The contract of Crash. -/
import Derived.Test.YtnkhfgfiifadhaaBack
namespace Go.Proofs.Ytnkhfgfiifadhaa
open Go.RowKit Go.Shelf
attribute [local go_sem] Oper.semAt_some
set_option linter.unusedVariables false
set_option linter.unusedSimpArgs false
variable {C p s c : Nat} {pv : Value} {A : St} {w : World}

/-- Block s holds these sectors. -/
def SecsAt (s n : Nat) (L : List BA) (W : World) : Prop := ∃ cur, W.heap[s]? = some (.cells cur 61 (0, 0)) ∧ n * 64 ≤ cur.size ∧ ∀ k, k < n → ∀ j v, (cb (L.getD k []))[j]? = some v → cur[k * 64 + j]? = some v
theorem SecsAt.same {s n : Nat} {L : List BA} {W W' : World} (h : SecsAt s n L W) (hb : W'.heap[s]? = W.heap[s]?) : SecsAt s n L W' := by
  obtain ⟨cur, h1, h2⟩ := h; exact ⟨cur, hb.trans h1, h2⟩
theorem SecsAt.there {s n : Nat} {L : List BA} {W : World} (h : SecsAt s n L W) {k : Nat} (hk : k < n) : W.there s (k * 64) 64 := fun j hj => by
  obtain ⟨cur, h1, h2, _⟩ := h
  refine ⟨?_, frozen_of_row W s _ _ _ h1⟩
  rw [cell_of_row W s _ _ _ _ h1, Array.getElem?_eq_getElem (by omega)]
  rfl
/-- Below n₀ nothing has turned but block s. -/
structure ButS (n₀ s : Nat) (w W : World) : Prop where
  os : W.os = w.os
  tape : W.tape = w.tape
  output : W.output = w.output
  size : w.heap.size ≤ W.heap.size
  block : ∀ k, k < n₀ → k ≠ s → W.heap[k]? = w.heap[k]?
theorem ButS.refl (n₀ s : Nat) (w : World) : ButS n₀ s w w := ⟨rfl, rfl, rfl, Nat.le_refl _, fun _ _ _ => rfl⟩
theorem ButS.trans {n₀ s : Nat} {a b c : World} (h : ButS n₀ s a b) (k : ButS n₀ s b c) : ButS n₀ s a c := ⟨k.os.trans h.os, k.tape.trans h.tape, k.output.trans h.output, Nat.le_trans h.size k.size, fun i h1 h2 => (k.block i h1 h2).trans (h.block i h1 h2)⟩
theorem ButS.cell {n₀ s : Nat} {a b : World} (h : ButS n₀ s a b) {x : Addr} (hx : x.block < n₀) (hs : x.block ≠ s) : b.cell? x = a.cell? x := World.cell?_of_block (w := a) (h.block _ hx hs)
theorem ButS.keep {n₀ s : Nat} {a b : World} (h : ButS n₀ s a b) : KeepBut n₀ s a b := ⟨h.size, h.block⟩
theorem ButS.below {n₀ s : Nat} {a b : World} (h : Below n₀ a b) : ButS n₀ s a b := ⟨h.os, h.tape, h.output, h.size, fun k hk _ => h.block k hk⟩
theorem ButS.mono {n₀ n₁ s : Nat} {a b : World} (h : ButS n₀ s a b) (hn : n₁ ≤ n₀) : ButS n₁ s a b := ⟨h.os, h.tape, h.output, h.size, fun k hk => h.block k (by omega)⟩
theorem ButS.setCells {n₀ s : Nat} (W : World) (o : Nat) (vs : List Value) : ButS n₀ s W (W.setCells s o vs) :=
  ⟨(setCells_os s vs o W).1, (setCells_os s vs o W).2.1, (setCells_os s vs o W).2.2, by rw [setCells_size]; exact Nat.le_refl _, fun k _ h => setCells_block s vs o W k h⟩
theorem secsAt_ownFrom {β : Type} {s n B : Nat} (f : β → List BA) (hs : s < B) : OwnFrom B (fun pre W => SecsAt s n (f pre) W) := fun pre W W' row h hg hr => by
  obtain ⟨cur, h1, h2⟩ := h
  exact ⟨cur, (hg.block s (Array.getElem?_eq_some_iff.1 h1).1 (fun e => by have := (hr s e.symm).1; omega)).trans h1, h2⟩
theorem butS_ownFrom {β : Type} {n₀ s B : Nat} {w : World} (hn : n₀ ≤ w.heap.size) (hB : n₀ ≤ B) : OwnFrom B (fun (_ : β) W => ButS n₀ s w W) := fun _ W W' row h hg hr =>
  h.trans ⟨hg.os, hg.tape, hg.output, hg.size, fun k hk _ => hg.block k (by have := h.size; omega) (fun e => by have := (hr k e.symm).1; omega)⟩
theorem keepsOthers_setCells (g : Nat) : ∀ (vs : List Value) (o : Nat) (w : World), KeepsOthers w (w.setCells g o vs)
  | [], _, w => KeepsOthers.refl w
  | v :: vs, o, w => by rw [World.setCells]; exact (KeepsOthers.setCell w _ v).trans (keepsOthers_setCells g vs (o + 1) _)

theorem wpListIn_store_mid {F : Fence} {n : Nat} {P : Program} {ops : Array Oper} {rest : List Oper} {op : Oper} {a : Act} {w : World} {Q : Exit → Act → World → Prop} (hgd : op.guard = none) (ty : TypeId) (x y : Operand) (ho : op.op = .store ty x y)
    (b o : Nat) (cells : Array Value) (hx : a.eval x = .pointer (some ⟨b, o, none⟩)) (hy : a.eval y = .agg cells)
    (ht : w.there b o cells.size) (hi : (P.info? ty).map (·.size) = some cells.size) (h1 : cells.all (·.oneCell') = true)
    (h : wpListIn F n P ops Q rest (a.put op.dst undef) (w.setCells b o cells.toList)) : wpListIn F n P ops Q (op :: rest) a w := by
  refine wpListIn_plain hgd fun K hK => ?_
  unfold Oper.wpIn
  refine ⟨?_, ?_⟩
  · simp [Oper.about, ho]
  · rw [Oper.semAt_eq _ _ _ (by rw [ho]; intro c hc'; cases hc')]
    unfold execOp
    simp only [ho, hx, hy, Instr.storeAt, Instr.sureAddr, Sem.run_bind, Sem.run_pure, Result.andThen_ok, run_storeVar_mid w b o ty cells ht hi h1]
    exact hK _ _ h

/-! The writes taken back. -/
abbrev Ix (A : St) := { i : Nat // i < A.pend.length }
def atOf (A : St) (i : Nat) : Nat := (A.pend.getD i (0, [])).1
def oldOf (A : St) (i : Nat) : BA := (appl A.last (A.pend.take i)).getD (A.pend.getD i (0, [])).1 []
def newOf (A : St) (i : Nat) : BA := (A.pend.getD i (0, [])).2
def undo (A : St) (l : List Nat) : List BA := l.foldl (fun S i => S.set (atOf A i) (oldOf A i)) (appl A.last A.pend)
theorem undo_snoc (A : St) (l : List Nat) (i : Nat) : undo A (l ++ [i]) = (undo A l).set (atOf A i) (oldOf A i) := by simp [undo]
theorem undo_length (A : St) (l : List Nat) : (undo A l).length = A.last.length := by
  have : ∀ (l : List Nat) (S : List BA), (l.foldl (fun S i => S.set (atOf A i) (oldOf A i)) S).length = S.length := by
    intro l
    induction l with
    | nil => intro S; rfl
    | cons i l ih => intro S; rw [List.foldl_cons, ih]; simp
  rw [undo, this, appl_length]
theorem undo_whole (h : Own C p s c pv A w) (l : List Nat) (hl : ∀ i ∈ l, i < A.pend.length) : Whole (undo A l) := by
  have : ∀ (l : List Nat) (S : List BA), (∀ i ∈ l, i < A.pend.length) → Whole S → Whole (l.foldl (fun S i => S.set (atOf A i) (oldOf A i)) S) := by
    intro l
    induction l with
    | nil => intro S _ h; exact h
    | cons i l ih => intro S hl hS; exact ih _ (fun j hj => hl j (by simp [hj])) (hS.set _ (h.oldLen (hl i (by simp))))
  exact this l _ hl h.wholeNow
theorem undo_down (A : St) : ∀ k, k ≤ A.pend.length → undo A (down A.pend.length k) = appl A.last (A.pend.take (A.pend.length - k))
  | 0, _ => by simp [down, undo]
  | k + 1, h => by
    have hi : A.pend.length - 1 - k < A.pend.length := by omega
    rw [down_succ, undo_snoc, undo_down A k (by omega), show A.pend.length - k = (A.pend.length - 1 - k) + 1 by omega, take_snoc' _ _ hi]
    rw [show A.pend.length - (k + 1) = A.pend.length - 1 - k by omega]
    unfold atOf oldOf
    rw [getD_lt hi]
    exact appl_back _ _ _
theorem undo_all (A : St) : undo A (down A.pend.length A.pend.length) = A.last := by rw [undo_down A _ (Nat.le_refl _)]; simp [appl]

theorem cellOf_eq (A : St) (i : Nat) : cellOf A i = .int .i64 (atOf A i : Int) :: (cb (oldOf A i) ++ cb (newOf A i)) := rfl
theorem range_first {w : World} {g : Nat} {k : Int} {co cn : List Value} {t : TypeId} (h : w.heap[g]? = some (.cells (.int .i64 k :: (co ++ cn)).toArray t (0, 0))) (hl : co.length = 64) : w.rangeAt g 1 co := fun j v hv => by
  have hj := (List.getElem?_eq_some_iff.1 hv).1
  rw [cell_of_row w g _ _ _ _ h, List.getElem?_toArray, Nat.add_comm 1 j, List.getElem?_cons_succ, List.getElem?_append_left hj]
  exact hv
/-- The list of what is kept lies outside the disk. -/
def KeepAt (p s : Nat) (ka : Option Addr) (keep : List Bool) (w : World) : Prop := ∀ i, i < keep.length → ∃ g o, ka = some ⟨g, o, none⟩ ∧ g ≠ p ∧ g ≠ s ∧ w.cell? ⟨g, o + i, none⟩ = some (.bool (keep.getD i false))
def crashed (A : St) (keep : List Bool) : St := ⟨appl A.last (kept A.pend keep), [], true, -1⟩
def Crashed (C p s c : Nat) (pv : Value) (A : St) (keep : List Bool) (w w' : World) : Prop := Own C p s c (.slice none 0 0) (crashed A keep) w' ∧ Turned p s pv w w'
theorem kept_le (p : List PW) (keep : List Bool) : (kept p keep).length ≤ p.length := by
  unfold kept
  rw [List.length_map]
  exact Nat.le_trans (List.length_filter_le _ _) (by simp)
/-- Between two rounds of the second loop. -/
def Mid (C p s : Nat) (A : St) (keep : List Bool) (w1 : World) (D i : Nat) (W : World) : Prop :=
  SecsAt s A.last.length (appl A.last (kept (A.pend.take i) keep)) W ∧ ButS w1.heap.size s w1 W ∧ W.heap[D]? = some (.deferred (some []))
theorem Own.pvBlock (h : Own C p s c pv A w) {va : Option Addr} {vc : Nat} (hv : pv = .slice va A.pend.length vc) (h0 : 0 < A.pend.length) : ∃ g, va = some ⟨g, 0, none⟩ ∧ g ≠ s ∧ g < w.heap.size := by
  rcases h.row.2 with ⟨h1, h2⟩ | ⟨g, cap, cur, h1, h2, h3, _⟩
  · omega
  · rw [hv] at h1
    simp only [Value.slice.injEq] at h1
    exact ⟨g, h1.1, fun e => h.vs (by rw [hv, h1.1, ← e]; rfl), (Array.getElem?_eq_some_iff.1 h3).1⟩
theorem kept_take (A : St) (keep : List Bool) {i : Nat} (hi : i < A.pend.length) : kept (A.pend.take (i + 1)) keep = kept (A.pend.take i) keep ++ (if keep.getD i false then [(atOf A i, newOf A i)] else []) := by
  rw [take_snoc' _ _ hi, kept_snoc, List.length_take, Nat.min_eq_left (by omega)]
  unfold atOf newOf
  rw [getD_lt hi]
theorem mid_no {keep : List Bool} {w1 wr X : World} {D i : Nat} (hM : Mid C p s A keep w1 D i wr) (hX : Below wr.heap.size wr X) (hs : s < w1.heap.size) (hi : i < A.pend.length) (hk : keep.getD i false = false) : Mid C p s A keep w1 D (i + 1) X := by
  obtain ⟨h1, h2, h3⟩ := hM
  have hsz := h2.size
  refine ⟨?_, h2.trans (ButS.below (hX.mono hsz)), (hX.block D (Array.getElem?_eq_some_iff.1 h3).1).trans h3⟩
  rw [kept_take A keep hi, hk]
  simpa using h1.same (hX.block s (by omega))
theorem mid_yes (h : Own C p s c pv A w) {keep : List Bool} {w1 wr X : World} {D i k : Nat} {cn : List Value} (hM : Mid C p s A keep w1 D i wr) (hX : Below wr.heap.size wr X) (hs : s < w1.heap.size) (hD : w1.heap.size ≤ D) (hi : i < A.pend.length) (hk : keep.getD i false = true) (hkk : k = atOf A i) (hcn : cn = cb (newOf A i)) :
    Mid C p s A keep w1 D (i + 1) (X.drew.setCells s (k * 64) cn) := by
  subst hkk hcn
  obtain ⟨h1, h2, h3⟩ := hM
  have hsz := h2.size
  have hl : (appl A.last (kept (A.pend.take i) keep)).length = A.last.length := appl_length _ _
  refine ⟨?_, h2.trans ((ButS.below (hX.mono hsz)).trans (ButS.trans (b := X.drew) ⟨rfl, rfl, rfl, Nat.le_refl _, fun _ _ _ => rfl⟩ (ButS.setCells X.drew _ _))), ?_⟩
  · rw [kept_take A keep hi, hk, if_pos rfl, appl_snoc]
    exact secs_stored (w := X.drew) hl (((h.fits.take i).kept keep).whole h.whole) (h.atLt hi) (h.newLen hi) (h1.same (hX.block s (by omega))) rfl
  · rw [setCells_block _ _ _ _ _ (by omega)]
    exact (hX.block D (Array.getElem?_eq_some_iff.1 h3).1).trans h3
theorem crash_end (h : Own C p s c pv A w) {w1 wr : World} {D : Nat} {keep : List Bool} (hB : Below w.heap.size w w1) (hM : Mid C p s A keep w1 D A.pend.length wr) (hD : w1.heap.size ≤ D) :
    Crashed C p s c pv A keep w ((((wr.setCell ⟨p, 1, none⟩ (.slice none 0 0)).setCell ⟨p, 2, none⟩ (.bool true)).setCell ⟨p, 3, none⟩ (.int .i64 (-1))).drew.putObj D (.deferred none)) := by
  obtain ⟨h1, h2, h3⟩ := hM
  have hlt := h.lt
  have hlts := h.lts
  have hps := h.ps
  have hs1 := hB.size
  have hs2 := h2.size
  have hp : wr.heap[p]? = some (.cells #[.slice (some ⟨s, 0, none⟩) A.last.length c, pv, .bool A.runs, .int .i64 A.left] 57 (0, 0)) := (h2.block p (by omega) hps).trans ((hB.block p hlt).trans h.head)
  have e1 := heap_setCell_same _ _ 1 _ _ (.slice none 0 0) hp
  have e2 := heap_setCell_same _ _ 2 _ _ (.bool true) e1
  have e3 := heap_setCell_same _ _ 3 _ _ (.int .i64 (-1)) e2
  have old : ∀ q, q ≠ p → q ≠ D → ((((wr.setCell ⟨p, 1, none⟩ (.slice none 0 0)).setCell ⟨p, 2, none⟩ (.bool true)).setCell ⟨p, 3, none⟩ (.int .i64 (-1))).drew.putObj D (.deferred none)).heap[q]? = wr.heap[q]? := fun q hq hqD => by
    rw [World.putObj_heap_other (fun e => hqD e)]
    show (((wr.setCell ⟨p, 1, none⟩ (.slice none 0 0)).setCell ⟨p, 2, none⟩ (.bool true)).setCell ⟨p, 3, none⟩ (.int .i64 (-1))).heap[q]? = _
    rw [heap_setCell_other _ _ _ _ hq, heap_setCell_other _ _ _ _ hq, heap_setCell_other _ _ _ _ hq]
  have hlen : (appl A.last (kept (A.pend.take A.pend.length) keep)).length = A.last.length := appl_length _ _
  rw [List.take_length] at h1 hlen
  refine ⟨⟨h.hp, h.hs, h.ps, by simp [Value.ownBlock], by simp [Value.ownBlock], ?_, ?_, World.ownsRow_nil _ _ _ _, (h.fits.kept keep).whole h.whole, Fits.nil _, ?_, ?_, ?_, h.c2, by simp [crashed], by simp [crashed]⟩, ?_⟩
  · rw [World.putObj_heap_other (by omega)]
    refine e3.trans ?_
    simp [crashed, hlen]
  · refine SecsAt.same (W := wr) ?_ (old s (by omega) (by omega))
    show SecsAt s (appl A.last (kept A.pend keep)).length (appl (appl A.last (kept A.pend keep)) []) wr
    rw [hlen]
    exact h1
  · simp only [crashed, hlen]; exact h.n1
  · simp only [crashed, hlen]; exact h.n2
  · simp only [crashed, hlen]; exact h.c1
  · refine ⟨h2.os.trans hB.os, h2.tape.trans hB.tape, h2.output.trans hB.output, ?_, fun q hq hqp hqs _ => ?_⟩
    · simp [World.setCell]; omega
    · rw [old q hqp (by omega)]
      exact (h2.block q (by omega) hqs).trans (hB.block q hq)
/-- What a round of the first loop leaves. -/
theorem back_round (h : Own C p s c pv A w) {w1 W : World} {n₀ B : Nat} {pre : List (Ix A)} (hI1 : SecsAt s A.last.length (undo A (pre.map (·.1))) W) (hI2 : ButS n₀ s w1 W) (hs : s < n₀) (x : Ix A) {k : Nat} {co : List Value} (hk : k = atOf A x.1) (hco : co = cb (oldOf A x.1)) :
    KeepsFrom B W (W.drew.setCells s (k * 64) co) ∧ KeepBut n₀ s W (W.drew.setCells s (k * 64) co) ∧ SecsAt s A.last.length (undo A ((pre ++ [x]).map (·.1))) (W.drew.setCells s (k * 64) co) ∧ ButS n₀ s w1 (W.drew.setCells s (k * 64) co) := by
  subst hk hco
  have hb : ButS n₀ s W (W.drew.setCells s (atOf A x.1 * 64) (cb (oldOf A x.1))) := ButS.trans (b := W.drew) ⟨rfl, rfl, rfl, Nat.le_refl _, fun _ _ _ => rfl⟩ (ButS.setCells W.drew _ _)
  refine ⟨((KeepsOthers.drew W).trans (keepsOthers_setCells _ _ _ _)).from _, hb.keep, ?_, hI2.trans hb⟩
  rw [List.map_append, List.map_singleton, undo_snoc]
  refine secs_stored (w := W.drew) (undo_length _ _) (undo_whole h _ (fun i hi => ?_)) (h.atLt x.2) (h.oldLen x.2) hI1 rfl
  obtain ⟨y, _, rfl⟩ := List.mem_map.1 hi
  exact y.2

set_option maxRecDepth 100000 in
set_option maxHeartbeats 4000000 in
theorem crash_o (h : Own C p s c pv A w) (keep : List Bool) (ka : Option Addr) (kc : Nat) (hm : A.pend.length ≤ 1000000) (hkl : keep.length ≤ maxLen) (hk : KeepAt p s ka keep w) :
    Calls Try.prog 21 #[ptr p, .slice ka keep.length kc] w fun e w' => e = .returned (.int .i64 (kept A.pend keep).length) ∧ Crashed C p s c pv A keep w w' := by
  have hc1 := h.cell1
  have hn1 := h.n1
  have HO := Lib.hid h
  obtain ⟨va, vc, hpv⟩ := h.len
  have HPV := Lib.hid hpv
  have hlt := h.lt
  have hlts := h.lts
  have hps := h.ps
  clear h
  refine (callsIn_wide (n := 5)).1 ?_
  refine callsIn_of_wp_marks Try.func21 rfl trivial ?_ rfl
  simp only [Try.ntmps21, List.size_toArray, List.length_cons, List.length_nil, Nat.reduceAdd, Nat.reduceSub, Array.replicate_succ, Array.replicate_zero, List.push_toArray, List.append_toArray, List.nil_append, List.cons_append]
  have n0 : ((A.last.length : Int) == 0) = false := by rw [beq_eq_false_iff_ne]; omega
  have hb : (w.alloc (.cells #[.pointer (some ⟨p, 0, none⟩)] 24)).cell? ⟨w.heap.size, 0, none⟩ = some (.pointer (some ⟨p, 0, none⟩)) := cell_of_row _ _ 0 _ _ _ (heap_alloc_new w _)
  have hc1' : (w.alloc (.cells #[.pointer (some ⟨p, 0, none⟩)] 24)).cell? ⟨p, 1, none⟩ = some pv := cell_alloc_keep hc1 _
  gi_wp2_with (first
    | (refine ⟨trivial, ?_⟩; gi_at_call 23; refine (callsIn_wide.2 (sectors_o (HO.out.below ((Below.refl _ _).alloc (Nat.le_refl _) _) (Nat.le_refl _)))).mono ?_; rintro e w' ⟨rfl, rfl⟩)
    | (refine ⟨trivial, ?_⟩; gi_at_call 32; refine (back_in _ _ ⟨_, _, _, rfl⟩ _).mono ?_; rintro e w' ⟨rfl, rfl⟩))
  obtain ⟨w1, hw1⟩ : ∃ w1, w1 = (w.alloc (.cells #[ptr p] 24)).alloc (.cells #[.slice va A.pend.length vc] 55) := ⟨_, rfl⟩
  rw [← hw1]
  have hz1 : w1.heap.size = w.heap.size + 2 := by rw [hw1]; simp
  have hB1 : Below w.heap.size w w1 := by rw [hw1]; exact ((Below.refl _ w).alloc (Nat.le_refl _) _).alloc (by simp) _
  have hbox : w1.heap[w.heap.size]? = some (.cells #[ptr p] 24 (0, 0)) := by rw [hw1, Below.heap_alloc _ _ _ (by simp)]; exact heap_alloc_new w _
  have hbox2 : w1.heap[w.heap.size + 1]? = some (.cells #[.slice va A.pend.length vc] 55 (0, 0)) := by
    rw [hw1]
    have := heap_alloc_new (w.alloc (.cells #[ptr p] 24)) (.cells #[.slice va A.pend.length vc] 55)
    rw [World.size_alloc] at this
    exact this
  have HW1 := Lib.hid hw1
  have HZ1 := Lib.hid hz1
  have HB1 := Lib.hid hB1
  have HX := Lib.hid hbox
  have HX2 := Lib.hid hbox2
  have hO1 := HO.out.below hB1 (Nat.le_refl _)
  have HO1 := Lib.hid hO1
  rename_i Q0 K0 hK0
  refine wpIn_rangeFunc_ownH (gf := 35) (lb := #[.pointer (some ⟨w.heap.size + 1, 0, none⟩)]) (encs := wargs (cellOf A) A.pend.length) (Kp := KeepBut w1.heap.size s) (w0 := w1) rfl (by omega) rfl trivial (enters_of Try.func35 (by kernel_rfl) rfl)
    (back_stops HO.out hm (5 - 1) (by omega) (w.heap.size + 1) w1.heap.size w1 (by omega) (by omega) (Nat.le_refl _) (by omega) (fun k hk => hB1.block k hk) (by rw [hpv]; exact cell_of_row _ _ 0 _ _ _ hbox2))
    KeepBut.trans (keepBut_b (Nat.le_refl _)) (Below.refl _ _) (fun _ => rfl)
    (fun pre W => SecsAt s A.last.length (undo A (pre.map (·.1))) W ∧ ButS w1.heap.size s w1 W)
    (fun _ _ _ => False)
    (OwnFrom.and (secsAt_ownFrom (fun pre : List (Ix A) => undo A (pre.map (·.1))) (by omega)) (butS_ownFrom (Nat.le_refl _) (Nat.le_refl _)))
    (fun _ _ _ _ _ hs _ _ => hs)
    ⟨hO1.secs, ButS.refl _ _ _⟩
    (fun x a' W => ∃ Bx, w1.heap.size ≤ Bx ∧ W.heap[Bx]? = some (.cells (cellOf A x.1).toArray 63 (0, 0)) ∧ a' = { tmps := #[ptr p, .slice ka keep.length kc, .pointer (some ⟨w.heap.size, 0, none⟩), undef, .int .i64 0, undef, .pointer (some ⟨Bx, 0, none⟩), undef, undef, undef, .pointer (some ⟨p, 0, none⟩), .int .i64 (A.last.length : Int), .bool false, .pointer (some ⟨p, 0, none⟩), .pointer (some ⟨p, 0, none⟩), .pointer (some ⟨p, 1, none⟩), .slice va A.pend.length vc, .func (.func 35) #[] #[.pointer (some ⟨w.heap.size + 1, 0, none⟩)], .int .i64 (x.1 : Int), .agg (cellOf A x.1).toArray, undef, undef, undef, undef, undef, undef, undef, undef, undef, undef, undef, undef, undef, undef, undef, undef, undef, undef, undef, undef, undef, undef, undef, undef, undef, undef, undef, undef, undef, undef, undef, undef, undef, undef, undef, undef, undef, undef, undef, undef, undef, undef, undef, undef, undef, undef, undef, undef, undef, undef, undef], defers := [] })
    (fun x a' => fun _ W W' row hs hg hr => by
      obtain ⟨Bx, h1, h2, h3⟩ := hs
      refine ⟨Bx, h1, (hg.block Bx (Array.getElem?_eq_some_iff.1 h2).1 (fun e => ?_)).trans h2, h3⟩
      obtain ⟨_, o, ho, hoc⟩ := hr Bx e.symm
      rw [h2] at ho; cases ho; cases hoc) ?assign ?body ?done ?stop
  case assign =>
    clear hO1 hbox hbox2 hB1 hz1 hw1 hb hc1' n0 hpv hc1
    intro l pre x W K hI hK
    have hcl := HO.out.cellLen x.2
    have hcs : (cellOf A x.1).toArray.size = 129 := by rw [List.size_toArray, hcl]
    have hone : ∀ v ∈ cellOf A x.1, v.oneCell' = true := wcs_one _ _ _
    have hH := heap_alloc_new W boxW
    have hth : (W.alloc boxW).there W.heap.size 0 129 := by rw [← zeroW_size]; exact there_row hH
    have HF := Lib.hid (hK { tmps := #[ptr p, .slice ka keep.length kc, .pointer (some ⟨w.heap.size, 0, none⟩), undef, .int .i64 0, undef, .pointer (some ⟨W.heap.size, 0, none⟩), undef, undef, undef, .pointer (some ⟨p, 0, none⟩), .int .i64 (A.last.length : Int), .bool false, .pointer (some ⟨p, 0, none⟩), .pointer (some ⟨p, 0, none⟩), .pointer (some ⟨p, 1, none⟩), .slice va A.pend.length vc, .func (.func 35) #[] #[.pointer (some ⟨w.heap.size + 1, 0, none⟩)], .int .i64 (x.1 : Int), .agg (cellOf A x.1).toArray, undef, undef, undef, undef, undef, undef, undef, undef, undef, undef, undef, undef, undef, undef, undef, undef, undef, undef, undef, undef, undef, undef, undef, undef, undef, undef, undef, undef, undef, undef, undef, undef, undef, undef, undef, undef, undef, undef, undef, undef, undef, undef, undef, undef, undef, undef, undef, undef, undef, undef, undef], defers := [] } ((W.alloc boxW).setCells W.heap.size 0 (cellOf A x.1)))
    have hz := zero_wr
    unfold wargs
    gi_wp2_with (refine wpListIn_store_mid rfl 63 (.tmp 6) (.tmp 19) rfl W.heap.size 0 (cellOf A x.1).toArray rfl rfl (by rw [hcs]; exact hth) (by rw [hcs]; exact size_wr) (all_oneCell_toArray hone) ?_)
    refine HF.out (((KeepsOthers.alloc W _).trans (keepsOthers_setCells _ _ _ _)).from _) ?_ ?_ ?_
    · exact (KeepBut.below ((Below.refl _ _).alloc (Nat.le_trans hI.2.size (Nat.le_refl _)) _)).trans (KeepBut.below (Below.setCells (Below.refl _ _) hI.2.size _ _))
    · have hs : s ≠ W.heap.size := by have := hI.2.size; have := HZ1.out; omega
      refine ⟨hI.1.same ?_, hI.2.trans (ButS.below (Below.setCells ((Below.refl _ W).alloc hI.2.size _) hI.2.size _ _))⟩
      rw [setCells_block _ _ _ _ _ hs, Below.heap_alloc _ _ _ (by have := hI.2.size; have := HZ1.out; omega)]
    · exact ⟨W.heap.size, hI.2.size, box_out hH hcl zeroW_size, rfl⟩
  case body =>
    clear hO1 hbox hbox2 hB1 hw1 hb hc1' n0 hpv hc1
    intro l pre x a' W hl hloop hI hAx hlen
    obtain ⟨Bx, hBx, hbx, rfl⟩ := hAx
    obtain ⟨k, hk⟩ : ∃ k, k = atOf A x.1 := ⟨_, rfl⟩
    obtain ⟨co, hco⟩ : ∃ co, co = cb (oldOf A x.1) := ⟨_, rfl⟩
    have hkn : k < A.last.length := by rw [hk]; exact HO.out.atLt x.2
    have hcl : co.length = 64 := by rw [hco, cb_length]; exact HO.out.oldLen x.2
    have hcs : co.toArray.size = 64 := by rw [List.size_toArray, hcl]
    have hco1 : ∀ v ∈ co, v.oneCell' = true := by rw [hco]; exact cb_one _
    have hlt2 : s < w1.heap.size := by omega
    have hsz := hI.2.size
    have hbx' : W.heap[Bx]? = some (.cells (.int .i64 (k : Int) :: (co ++ cb (newOf A x.1))).toArray 63 (0, 0)) := by rw [hbx, cellOf_eq, hk, hco]
    have hn2 := HO.out.n2
    have z1 : W.cell? ⟨w.heap.size, 0, none⟩ = some (.pointer (some ⟨p, 0, none⟩)) := (hI.2.cell (x := ⟨w.heap.size, 0, none⟩) (show w.heap.size < w1.heap.size by omega) (show w.heap.size ≠ s by omega)).trans (cell_of_row _ _ 0 _ _ _ HX.out)
    have z2 : W.cell? ⟨p, 0, none⟩ = some (.slice (some ⟨s, 0, none⟩) A.last.length c) := (hI.2.cell (x := ⟨p, 0, none⟩) (show p < w1.heap.size by omega) hps).trans HO1.out.cell0
    have z3 : W.cell? ⟨Bx, 0, none⟩ = some (.int .i64 (k : Int)) := cell_of_row _ _ 0 _ _ _ hbx'
    have z4 : W.rangeAt Bx 1 co := range_first hbx' hcl
    have z5 : W.there s (k * 64) 64 := hI.1.there hkn
    have hi : (Try.prog.info? 61).map (·.size) = some co.length := by rw [hcl]; exact size_sec
    have hu := Try.underlying61
    have HKX := Lib.hid hk
    have HCO := Lib.hid hco
    have hsB : s ≠ Bx := by omega
    have hsW : s ≠ w.heap.size := by omega
    obtain ⟨n, hn⟩ : ∃ n, n = A.last.length := ⟨_, rfl⟩
    have HNN := Lib.hid hn
    rw [← hn] at z2 hkn hn2
    have k0 : (0 : Int) ≤ (k : Int) := by omega
    have k1 : (k : Int) < (n : Int) := by omega
    clear hk hco hbx hbx' hl hlen hn
    refine wpIn_block ?_
    refine round_held (S := (fun w' => w'.cell? ⟨w.heap.size, 0, none⟩ = some (.pointer (some ⟨p, 0, none⟩)) ∧ w'.cell? ⟨p, 0, none⟩ = some (.slice (some ⟨s, 0, none⟩) n c) ∧ w'.cell? ⟨Bx, 0, none⟩ = some (.int .i64 (k : Int)) ∧ w'.rangeAt Bx 1 co ∧ w'.there s (k * 64) 64)) (fun h => by obtain ⟨_, _, h⟩ := h; exact h) (by kernel_rfl) (by kernel_rfl) ?_ (fun hHeld => ?_)
    · ((try dsimp only); (try simp only [World.rangeAt_drew, World.there_drew, World.cell?_drew]); refine ⟨?_, ?_, ?_, ?_, ?_⟩ <;> (repeat' first | assumption | (refine cell_setCells_keep ?_ _ _ _ (by simp; omega)) | (refine World.there_setCells ?_ _ _ _) | (refine World.rangeAt_setCells_apart ?_ _ _ _ (by omega))))
    refine wpAnyH_take (i := 0) (oi := { dst := some 20, op := Op.load 24 (Operand.tmp 2), type := 24, pos := "disk.go:93", after := #[], guard := none }) (v := ptr p) rfl (by kernel_rfl) (by kernel_rfl) (by kernel_rfl) (fun _ _ _ h => h) (Or.inl ⟨by rfl, fun w' hSw => by ((try dsimp only at hSw); go_split_ands; go_simp)⟩) (by assumption) ?_
    (try simp only [Act.put, List.setIfInBounds_toArray, List.set_cons_zero, List.set_cons_succ])
    refine wpAnyH_take (i := 1) (oi := { dst := some 21, op := Op.nilCheck (Operand.tmp 20), type := 0, pos := "disk.go:93", after := #[{ on := 0, ground := Ground.data }], guard := none }) (v := ptr p) rfl (by kernel_rfl) (by kernel_rfl) (by kernel_rfl) (fun _ _ _ h => h) (Or.inl ⟨by rfl, fun w' hSw => by ((try dsimp only at hSw); go_split_ands; go_simp)⟩) (by assumption) ?_
    (try simp only [Act.put, List.setIfInBounds_toArray, List.set_cons_zero, List.set_cons_succ])
    refine wpAnyH_take (i := 2) (oi := { dst := some 22, op := Op.fieldAddr 57 (Operand.tmp 21) 0, type := 0, pos := "disk.go:93", after := #[{ on := 1, ground := Ground.data }], guard := none }) (v := .pointer (some ⟨p, 0, none⟩)) rfl (by kernel_rfl) (by kernel_rfl) (by kernel_rfl) (fun _ _ _ h => h) (Or.inl ⟨by rfl, fun w' hSw => by ((try dsimp only at hSw); go_split_ands; go_simp)⟩) (by assumption) ?_
    (try simp only [Act.put, List.setIfInBounds_toArray, List.set_cons_zero, List.set_cons_succ])
    refine wpAnyH_take (i := 3) (oi := { dst := some 23, op := Op.load 54 (Operand.tmp 22), type := 54, pos := "disk.go:93", after := #[{ on := 2, ground := Ground.data }], guard := none }) (v := .slice (some ⟨s, 0, none⟩) n c) rfl (by kernel_rfl) (by kernel_rfl) (by kernel_rfl) (fun _ _ _ h => h) (Or.inl ⟨by rfl, fun w' hSw => by ((try dsimp only at hSw); go_split_ands; go_simp)⟩) (by assumption) ?_
    (try simp only [Act.put, List.setIfInBounds_toArray, List.set_cons_zero, List.set_cons_succ])
    refine wpAnyH_take (i := 4) (oi := { dst := some 24, op := Op.fieldAddr 63 (Operand.tmp 6) 0, type := 0, pos := "disk.go:93", after := #[], guard := none }) (v := .pointer (some ⟨Bx, 0, none⟩)) rfl (by kernel_rfl) (by kernel_rfl) (by kernel_rfl) (fun _ _ _ h => h) (Or.inl ⟨by rfl, fun w' hSw => by ((try dsimp only at hSw); go_split_ands; go_simp)⟩) (by assumption) ?_
    (try simp only [Act.put, List.setIfInBounds_toArray, List.set_cons_zero, List.set_cons_succ])
    refine wpAnyH_take (i := 5) (oi := { dst := some 25, op := Op.load 3 (Operand.tmp 24), type := 3, pos := "disk.go:93", after := #[{ on := 4, ground := Ground.data }], guard := none }) (v := .int .i64 (k : Int)) rfl (by kernel_rfl) (by kernel_rfl) (by kernel_rfl) (fun _ _ _ h => h) (Or.inl ⟨by rfl, fun w' hSw => by ((try dsimp only at hSw); go_split_ands; go_simp)⟩) (by assumption) ?_
    (try simp only [Act.put, List.setIfInBounds_toArray, List.set_cons_zero, List.set_cons_succ])
    refine wpAnyH_take (i := 6) (oi := { dst := some 26, op := Op.fieldAddr 63 (Operand.tmp 6) 1, type := 0, pos := "disk.go:93", after := #[], guard := none }) (v := .pointer (some ⟨Bx, 1, none⟩)) rfl (by kernel_rfl) (by kernel_rfl) (by kernel_rfl) (fun _ _ _ h => h) (Or.inl ⟨by rfl, fun w' hSw => by ((try dsimp only at hSw); go_split_ands; go_simp)⟩) (by assumption) ?_
    (try simp only [Act.put, List.setIfInBounds_toArray, List.set_cons_zero, List.set_cons_succ])
    refine wpAnyH_take (i := 7) (oi := { dst := some 27, op := Op.load 61 (Operand.tmp 26), type := 61, pos := "disk.go:93", after := #[{ on := 6, ground := Ground.data }], guard := none }) (v := .agg (co).toArray) rfl (by kernel_rfl) (by kernel_rfl) (by kernel_rfl) (fun _ _ _ h => h) (yieldsIf_load_mid (by rfl) _ _ rfl _ _ rfl _ _ (fun w' hSw => by ((try dsimp only at hSw); go_split_ands; assumption)) hu rfl hi) (by assumption) ?_
    (try simp only [Act.put, List.setIfInBounds_toArray, List.set_cons_zero, List.set_cons_succ])
    refine wpAnyH_take (i := 8) (oi := { dst := some 28, op := Op.indexAddr 54 (Operand.tmp 23) (Operand.tmp 25), type := 0, pos := "disk.go:93", after := #[{ on := 3, ground := Ground.data }, { on := 5, ground := Ground.data }, { on := 0, ground := Ground.phase }, { on := 1, ground := Ground.phase }, { on := 2, ground := Ground.phase }, { on := 3, ground := Ground.phase }, { on := 4, ground := Ground.phase }, { on := 5, ground := Ground.phase }, { on := 6, ground := Ground.phase }, { on := 7, ground := Ground.phase }], guard := none }) (v := .pointer (some ⟨s, k * 64, none⟩)) rfl (by kernel_rfl) (by kernel_rfl) (by kernel_rfl) (fun _ _ _ h => h) (Or.inl ⟨by rfl, fun w' hSw => by ((try dsimp only at hSw); go_split_ands; go_simp)⟩) (by assumption) ?_
    (try simp only [Act.put, List.setIfInBounds_toArray, List.set_cons_zero, List.set_cons_succ])
    refine wpAnyH_ready (rs := [9]) (by kernel_rfl) (by simp) ?_
    refine AllReadyH.cons (o := { dst := none, op := Op.store 61 (Operand.tmp 28) (Operand.tmp 27), type := 0, pos := "disk.go:93", after := #[{ on := 8, ground := Ground.data }, { on := 7, ground := Ground.data }, { on := 0, ground := Ground.phase }, { on := 1, ground := Ground.phase }, { on := 2, ground := Ground.phase }, { on := 3, ground := Ground.phase }, { on := 4, ground := Ground.phase }, { on := 5, ground := Ground.phase }, { on := 6, ground := Ground.phase }, { on := 7, ground := Ground.phase }], guard := none }) rfl (fun K hK => ?_) ?_
    · rw [if_pos (by rfl)]
      refine wp_store_mid _ _ _ rfl s (k * 64) (List.toArray co) rfl rfl (by rw [hcs]; exact z5) (by rw [hcs]; exact size_sec) (all_oneCell_toArray hco1) ?_
      simp only [Act.put, List.toList_toArray]
      refine hK.out _ _ ?_ (fun hHeld => ?_)
      · ((try dsimp only); (try simp only [World.rangeAt_drew, World.there_drew, World.cell?_drew]); refine ⟨?_, ?_, ?_, ?_, ?_⟩ <;> (repeat' first | assumption | (refine cell_setCells_keep ?_ _ _ _ (by simp; omega)) | (refine World.there_setCells ?_ _ _ _) | (refine World.rangeAt_setCells_apart ?_ _ _ _ (by omega))))
      clear hK K
      (try simp only [Act.put, List.setIfInBounds_toArray, List.set_cons_zero, List.set_cons_succ])
      refine wpAnyH_done (by kernel_rfl) ?_ _
      exact back_round HO.out hI.1 hI.2 hlt2 x HKX.out HCO.out
    exact AllReadyH.nil
  case done =>
    clear hO1 hbox hbox2 hB1 hw1 hb hc1' n0 hc1
    intro D xs W hD hS hI hKD
    have hI1 := hI.1
    have hI2 := Lib.hid hI.2
    have hKD' := Lib.hid hKD
    have hDW : D < W.heap.size := (Array.getElem?_eq_some_iff.1 hKD).1
    rw [hS, undo_all] at hI1
    have hI1' := Lib.hid hI1
    have z1 : W.cell? ⟨w.heap.size, 0, none⟩ = some (.pointer (some ⟨p, 0, none⟩)) := (hI.2.cell (x := ⟨w.heap.size, 0, none⟩) (show w.heap.size < w1.heap.size by omega) (show w.heap.size ≠ s by omega)).trans (cell_of_row _ _ 0 _ _ _ HX.out)
    have z2 : W.cell? ⟨p, 1, none⟩ = some (.slice va A.pend.length vc) := (hI.2.cell (x := ⟨p, 1, none⟩) (show p < w1.heap.size by omega) hps).trans (by rw [← hpv]; exact HO1.out.cell1)
    clear hS hI hI1 hKD hpv
    refine hK0 _ _ (wpIn_wide.2 ?_)
    clear hK0
    obtain ⟨m, hmm⟩ : ∃ m, m = A.pend.length := ⟨_, rfl⟩
    have HM := Lib.hid hmm
    rw [← hmm] at z2 hm ⊢
    clear hmm
    go_wp2_with fail
    go_loopw [7, 34] (fun kv iv wr => ∃ i : Nat, i ≤ m ∧ iv = .int .i64 i ∧ kv = .int .i64 ((kept (A.pend.take i) keep).length : Int) ∧ Mid C p s A keep w1 D i wr) (fun _ iv _ => m - (intOf iv).toNat)
    case atStart => exact ⟨0, Nat.zero_le _, rfl, by simp [kept_nil], hI1'.out, hI2.out, hKD'.out⟩
    case round =>
      clear hI1' hI2 hKD' z1 z2 hDW
      obtain ⟨i, hi, rfl, rfl, hmid⟩ := hrel
      have HMD := Lib.hid hmid
      have hsz := hmid.2.1.size
      have z1 : wr.cell? ⟨w.heap.size, 0, none⟩ = some (.pointer (some ⟨p, 0, none⟩)) := (hmid.2.1.cell (x := ⟨w.heap.size, 0, none⟩) (show w.heap.size < w1.heap.size by omega) (show w.heap.size ≠ s by omega)).trans (cell_of_row _ _ 0 _ _ _ HX.out)
      have z2 : wr.cell? ⟨p, 0, none⟩ = some (.slice (some ⟨s, 0, none⟩) A.last.length c) := (hmid.2.1.cell (x := ⟨p, 0, none⟩) (show p < w1.heap.size by omega) hps).trans HO1.out.cell0
      have hkle : (kept (A.pend.take i) keep).length ≤ i := by have := kept_le (A.pend.take i) keep; have := List.length_take_le i A.pend; omega
      clear hmid
      by_cases hlt0 : i < m
      · have hi0 : (0 : Int) ≤ (i : Int) := by omega
        have hi1 : (i : Int) < (m : Int) := by omega
        have hip : i < A.pend.length := by rw [← HM.out]; exact hlt0
        obtain ⟨vb, hvb, hvbs, hvlt⟩ := HO.out.pvBlock HPV.out (by omega)
        subst hvb
        have HR := Lib.hid (HO.out.write (W := wr) HPV.out ((HMD.out.2.1.block vb (by omega) hvbs).trans (HB1.out.block vb hvlt)) hip)
        have hcl := HO.out.cellLen hip
        have HI := Lib.hid (show (Try.prog.info? 63).map (·.size) = some (cellOf A i).length by rw [hcl]; exact size_wr)
        have HU := Lib.hid Try.underlying63
        have hcs : (cellOf A i).toArray.size = 129 := by rw [List.size_toArray, hcl]
        have hone : ∀ v ∈ cellOf A i, v.oneCell' = true := wcs_one _ _ _
        have hH := heap_alloc_new wr boxW
        have hth : (wr.alloc boxW).there wr.heap.size 0 129 := by rw [← zeroW_size]; exact there_row hH
        have hz := zero_wr
        have HH := Lib.hid hH
        have HCL := Lib.hid hcl
        clear hH hcl
        go_upto_region 10 with (first
          | (refine wpList_load_mid rfl 63 (.tmp 37) rfl vb (i * 129) rfl (cellOf A i) _ HR.out HU.out rfl HI.out ?_)
          | (refine wpList_store_mid rfl 63 (.tmp 9) (.tmp 38) rfl wr.heap.size 0 (cellOf A i).toArray rfl rfl (by rw [hcs]; exact hth) (by rw [hcs]; exact size_wr) (all_oneCell_toArray hone) ?_))
        obtain ⟨X, hX⟩ : ∃ X, X = (wr.alloc boxW).setCells wr.heap.size 0 (cellOf A i) := ⟨_, rfl⟩
        rw [← hX]
        have hBX : Below wr.heap.size wr X := by rw [hX]; exact Below.setCells ((Below.refl _ _).alloc (Nat.le_refl _) _) (Nat.le_refl _) _ _
        have hbx : X.heap[wr.heap.size]? = some (.cells (.int .i64 (atOf A i : Int) :: (cb (oldOf A i) ++ cb (newOf A i))).toArray 63 (0, 0)) := by rw [hX, ← cellOf_eq]; exact box_out HH.out HCL.out zeroW_size
        have HBX := Lib.hid hBX
        clear hX hBX hth hcs hone hz
        by_cases hkb : keep.getD i false = true
        · have hki : i < keep.length := by
            rcases Nat.lt_or_ge i keep.length with h' | h'
            · exact h'
            · rw [List.getD_eq_getElem?_getD, List.getElem?_eq_none h'] at hkb; simp at hkb
          obtain ⟨kg, ko, hka, hkg1, hkg2, hkc⟩ := hk i hki
          subst hka
          have hkX : X.cell? ⟨kg, ko + i, none⟩ = some (.bool true) := by
            have hgl := World.block_lt_of_cell? w _ hkc
            rw [World.cell?_of_block (w := w) (a := ⟨kg, ko + i, none⟩) ?_, hkc, hkb]
            exact (HBX.out.block kg (by show kg < wr.heap.size; have : kg < w.heap.size := hgl; omega)).trans ((HMD.out.2.1.block kg (by have : kg < w.heap.size := hgl; omega) hkg2).trans (HB1.out.block kg hgl))
          obtain ⟨k, hkk⟩ : ∃ k, k = atOf A i := ⟨_, rfl⟩
          obtain ⟨cn, hcn⟩ : ∃ cn, cn = cb (newOf A i) := ⟨_, rfl⟩
          have hkn : k < A.last.length := by rw [hkk]; exact HO.out.atLt hip
          have hcl : cn.length = 64 := by rw [hcn, cb_length]; exact HO.out.newLen hip
          have hcs : cn.toArray.size = 64 := by rw [List.size_toArray, hcl]
          have hcn1 : ∀ v ∈ cn, v.oneCell' = true := by rw [hcn]; exact cb_one _
          have hol : (cb (oldOf A i)).length = 64 := by rw [cb_length]; exact HO.out.oldLen hip
          rw [← hkk, ← hcn] at hbx
          have y0 : X.cell? ⟨w.heap.size, 0, none⟩ = some (.pointer (some ⟨p, 0, none⟩)) := (HBX.out.cell (p := ⟨w.heap.size, 0, none⟩) (show w.heap.size < wr.heap.size by omega)).trans z1
          have y1 : X.cell? ⟨p, 0, none⟩ = some (.slice (some ⟨s, 0, none⟩) A.last.length c) := (HBX.out.cell (p := ⟨p, 0, none⟩) (show p < wr.heap.size by omega)).trans z2
          have y2 : X.cell? ⟨wr.heap.size, 0, none⟩ = some (.int .i64 (k : Int)) := cell_of_row _ _ 0 _ _ _ hbx
          have y3 : X.rangeAt wr.heap.size 65 cn := range_mid hbx hol
          have y4 : X.there s (k * 64) 64 := there_below (HMD.out.1.there hkn) HBX.out (by omega)
          have hu := Try.underlying61
          have hix : (Try.prog.info? 61).map (·.size) = some cn.length := by rw [hcl]; exact size_sec
          have HKK := Lib.hid hkk
          have HCN := Lib.hid hcn
          have HKB := Lib.hid hkb
          have hkI : (i : Int) < (keep.length : Int) := by omega
          have hn2 := HO.out.n2
          obtain ⟨n, hn⟩ : ∃ n, n = A.last.length := ⟨_, rfl⟩
          rw [← hn] at y1 z2 hkn hn2
          have HNN := Lib.hid hn
          have k0 : (0 : Int) ≤ (k : Int) := by omega
          have k1 : (k : Int) < (n : Int) := by omega
          have hws : IntKind.i64.wrap ((kept (A.pend.take i) keep).length + 1 : Int) = (kept (A.pend.take i) keep).length + 1 := IntWalk.i64_in _ (by omega)
          have hke : ((kept (A.pend.take (i + 1)) keep).length : Int) = (kept (A.pend.take i) keep).length + 1 := by rw [kept_take A keep hip, hkb]; simp
          have HKE := Lib.hid hke
          clear hkk hcn hkb hbx hkc hn hke
          unfold maxLen at hkl
          go_wp2_with fail
          go_region_held3 (fun w' => w'.cell? ⟨w.heap.size, 0, none⟩ = some (.pointer (some ⟨p, 0, none⟩)) ∧ w'.cell? ⟨p, 0, none⟩ = some (.slice (some ⟨s, 0, none⟩) n c) ∧ w'.cell? ⟨wr.heap.size, 0, none⟩ = some (.int .i64 (k : Int)) ∧ w'.rangeAt wr.heap.size 65 cn ∧ w'.there s (k * 64) 64)
            (((try dsimp only); (try simp only [World.rangeAt_drew, World.there_drew, World.cell?_drew]); refine ⟨?_, ?_, ?_, ?_, ?_⟩ <;> (repeat' first | assumption | (refine cell_setCells_keep ?_ _ _ _ (by simp; omega)) | (refine World.there_setCells ?_ _ _ _) | (refine World.rangeAt_setCells_apart ?_ _ _ _ (by omega))))) (fail)
          go_wp2_with fail
          go_roundw
          case rel => exact ⟨i + 1, by omega, by go_num, by rw [HKE.out], mid_yes HO.out HMD.out HBX.out (by omega) hD hip HKB.out HKK.out HCN.out⟩
          case measure => simp [intOf]; omega
        · have hkb' : keep.getD i false = false := by simpa using hkb
          have hke : ((kept (A.pend.take (i + 1)) keep).length : Int) = (kept (A.pend.take i) keep).length := by rw [kept_take A keep hip, hkb']; simp
          have HKE := Lib.hid hke
          have HKB := Lib.hid hkb'
          unfold maxLen at hkl
          by_cases hki : i < keep.length
          · obtain ⟨kg, ko, hka, hkg1, hkg2, hkc⟩ := hk i hki
            subst hka
            have hkX : X.cell? ⟨kg, ko + i, none⟩ = some (.bool false) := by
              have hgl := World.block_lt_of_cell? w _ hkc
              rw [World.cell?_of_block (w := w) (a := ⟨kg, ko + i, none⟩) ?_, hkc, hkb']
              exact (HBX.out.block kg (by show kg < wr.heap.size; have : kg < w.heap.size := hgl; omega)).trans ((HMD.out.2.1.block kg (by have : kg < w.heap.size := hgl; omega) hkg2).trans (HB1.out.block kg hgl))
            have hkI : (i : Int) < (keep.length : Int) := by omega
            clear hkb hkb' hbx hkc hke
            go_wp2_with fail
            go_roundw
            case rel => exact ⟨i + 1, by omega, by go_num, by rw [HKE.out], mid_no HMD.out HBX.out (by omega) hip HKB.out⟩
            case measure => simp [intOf]; omega
          · have hkI : decide ((i : Int) < (keep.length : Int)) = false := by simp; omega
            have hkI2 : (keep.length : Int) ≤ (i : Int) := by omega
            clear hkb hkb' hbx hke hki
            go_wp2_with fail
            go_roundw
            case rel => exact ⟨i + 1, by omega, by go_num, by rw [HKE.out], mid_no HMD.out HBX.out (by omega) hip HKB.out⟩
            case measure => simp [intOf]; omega
      · obtain rfl : i = m := by omega
        clear hlt0
        have z3 : wr.cell? ⟨p, 1, none⟩ = some (.slice va i vc) := by
          rw [HMD.out.2.1.cell (x := ⟨p, 1, none⟩) (show p < w1.heap.size by omega) hps, HO1.out.cell1, HPV.out, HM.out]
        have z4 : wr.cell? ⟨p, 2, none⟩ = some (.bool A.runs) := (HMD.out.2.1.cell (x := ⟨p, 2, none⟩) (show p < w1.heap.size by omega) hps).trans HO1.out.cell2
        have z5 : wr.cell? ⟨p, 3, none⟩ = some (.int .i64 A.left) := (HMD.out.2.1.cell (x := ⟨p, 3, none⟩) (show p < w1.heap.size by omega) hps).trans HO1.out.cell3
        have hbp : wr.heap[p]? = some (.cells #[.slice (some ⟨s, 0, none⟩) A.last.length c, pv, .bool A.runs, .int .i64 A.left] 57 (0, 0)) := (HMD.out.2.1.block p (by omega) hps).trans HO1.out.head
        have f1 : wr.frozen? ⟨p, 1, none⟩ = false := frozen_of_row _ _ _ _ _ hbp
        have f2 : wr.frozen? ⟨p, 2, none⟩ = false := frozen_of_row _ _ _ _ _ hbp
        have f3 : wr.frozen? ⟨p, 3, none⟩ = false := frozen_of_row _ _ _ _ _ hbp
        have HBP := Lib.hid hbp
        have hpB : p ≠ w.heap.size := by omega
        clear hbp
        go_wp2_with fail
        go_region_held3 (fun w' => w'.cell? ⟨w.heap.size, 0, none⟩ = some (.pointer (some ⟨p, 0, none⟩))) (((try dsimp only); (try simp only [World.cell?_drew]); (repeat' first | assumption | (rw [World.cell?_setCell_other _ _ _ _ (by first | (simp; done) | (simp; omega))])))) (fail)
        go_wp2_with fail
        have hkt : kept (A.pend.take i) keep = kept A.pend keep := by rw [HM.out, List.take_length]
        have hMM : Mid C p s A keep w1 D A.pend.length wr := by rw [← HM.out]; exact HMD.out
        have hDp : D ≠ p := by omega
        have hKK : ((((wr.setCell ⟨p, 1, none⟩ (.slice none 0 0)).setCell ⟨p, 2, none⟩ (.bool true)).setCell ⟨p, 3, none⟩ (.int .i64 (-1))).drew).heap[D]? = some (.deferred (some [])) := by
          show (((wr.setCell ⟨p, 1, none⟩ (.slice none 0 0)).setCell ⟨p, 2, none⟩ (.bool true)).setCell ⟨p, 3, none⟩ (.int .i64 (-1))).heap[D]? = _
          rw [heap_setCell_other _ _ _ _ hDp, heap_setCell_other _ _ _ _ hDp, heap_setCell_other _ _ _ _ hDp]
          exact HMD.out.2.2
        rw [hkt]
        refine ⟨by simp, .inl ⟨_, _, rfl, run_takeDeferred hKK, ?_⟩⟩
        exact ⟨_, results_tmp rfl _ _ _, rfl, crash_end HO.out HB1.out hMM hD⟩
  case stop =>
    intro D cc pre W _ _ h _
    exact h.elim
theorem crash_nil (a : Option Addr) (n k : Nat) (w : World) : Calls Try.prog 21 #[.pointer none, .slice a n k] w fun e w' => e = .returned (.int .i64 0) ∧ Below w.heap.size w w' := by
  go_enter Try.func21, Try.ntmps21
  go_wp2_with fail
  refine (sectors_nil _).mono ?_; rintro e w' ⟨rfl, rfl⟩
  go_wp2_with fail
  go_ret
  exact ⟨rfl, (Below.refl _ _).alloc (Nat.le_refl _) _⟩
end Go.Proofs.Ytnkhfgfiifadhaa
