/- The reference's disk: Stop, Sync, Crash. -/
import Derived.Test.YtnkhfgfiifadhaaRef
namespace Go.Proofs.Ytnkhfgfiifadhaa
open Go.ChangeShapes Go.WideShapes Go.ChangeAt Go.RowKit
set_option linter.unusedVariables false
/-- What a call on the reference's disk leaves. -/
structure RLeaves (C : Nat) (w w' : World) : Prop where
  below : Below C w w'
  other : ∀ (k : Nat) (cs : Array Value) (t : TypeId) (fr : Nat × Nat), w.heap[k]? = some (.cells cs t fr) → t ≠ 45 → t ≠ 9 → t ≠ 70 → w'.heap[k]? = w.heap[k]?
theorem RLeaves.refl (C : Nat) (w : World) : RLeaves C w w := ⟨Below.refl _ _, fun _ _ _ _ _ _ _ _ => rfl⟩
theorem RLeaves.trans {C : Nat} {a b c : World} (h : RLeaves C a b) (k : RLeaves C b c) : RLeaves C a c :=
  ⟨h.below.trans k.below, fun i cs t fr hi h1 h2 h3 => (k.other i cs t fr ((h.other i cs t fr hi h1 h2 h3).trans hi) h1 h2 h3).trans (h.other i cs t fr hi h1 h2 h3)⟩
theorem RLeaves.of_below {C D : Nat} {a b : World} (h : Below D a b) (hD : a.heap.size ≤ D) (hC : C ≤ D) : RLeaves C a b :=
  ⟨h.mono hC, fun k cs t fr hk _ _ _ => h.block k (by have := (Array.getElem?_eq_some_iff.1 hk).1; omega)⟩
theorem RLeaves.setCell {C : Nat} (w : World) (g o : Nat) (u : Value) (hg : C ≤ g) {cs : Array Value} {t : TypeId} {fr : Nat × Nat} (hb : w.heap[g]? = some (.cells cs t fr)) (ht : t = 45 ∨ t = 9 ∨ t = 70) : RLeaves C w (w.setCell ⟨g, o, none⟩ u) := by
  refine ⟨⟨rfl, rfl, rfl, by simp [World.setCell], fun k hk => heap_setCell_other _ _ _ _ (by show k ≠ g; omega)⟩, fun k cs' t' fr' hk h1 h2 h3 => heap_setCell_other _ _ _ _ ?_⟩
  rintro rfl
  rw [hb] at hk
  simp only [Option.some.injEq, Obj.cells.injEq] at hk
  obtain ⟨_, rfl, _⟩ := hk
  rcases ht with e | e | e
  · exact h1 e
  · exact h2 e
  · exact h3 e
def RDisk (C q : Nat) (A : St) (w : World) : Prop := ∃ lv pv, Ref C q lv pv A w
def RAfter (C q : Nat) (A : St) (w w' : World) : Prop := RDisk C q A w' ∧ RLeaves C w w'
section
variable {C q : Nat} {lv pv : Value} {A : St} {w w' wr : World} {P : List PW}
theorem Ref.blockL (h : Ref C q lv pv A w) {g : Nat} (hg : lv.ownBlock = some g) : C ≤ g ∧ ∃ cur, w.heap[g]? = some (.cells cur 9 (0, 0)) := by
  rcases h.rowL.2 with ⟨h1, h2⟩ | ⟨g', cap, cur, h1, h2, h3, h4, h5, h6, h7⟩
  · rw [h1] at hg; simp [Value.ownBlock] at hg
  · rw [h1] at hg
    simp only [Value.ownBlock, Option.some.injEq] at hg
    subst hg
    exact ⟨h2, cur, h3⟩
theorem Ref.blockP (h : Ref C q lv pv A w) {g : Nat} (hg : pv.ownBlock = some g) : C ≤ g ∧ ∃ cur, w.heap[g]? = some (.cells cur 70 (0, 0)) := by
  rcases h.rowP.2 with ⟨h1, h2⟩ | ⟨g', cap, cur, h1, h2, h3, h4, h5, h6, h7⟩
  · rw [h1] at hg; simp [Value.ownBlock] at hg
  · rw [h1] at hg
    simp only [Value.ownBlock, Option.some.injEq] at hg
    subst hg
    exact ⟨h2, cur, h3⟩
theorem Ref.setLast (h : Ref C q lv pv A w) {k : Nat} (hk : k < A.last.length) (b : BA) {g c : Nat} (hl : lv = .slice (some ⟨g, 0, none⟩) A.last.length c) :
    Ref C q lv pv { A with last := A.last.set k b } (w.setCell ⟨g, k, none⟩ (.string (str b))) := by
  have hg : lv.ownBlock = some g := by rw [hl]; rfl
  obtain ⟨-, cur0, hc0⟩ := h.blockL hg
  have hgq : q ≠ g := by rintro rfl; rw [h.head] at hc0; simp at hc0
  refine ⟨h.hq, (heap_setCell_other _ _ _ _ hgq).trans h.head, ⟨by simp [lcells], ?_⟩, ⟨h.rowP.1, ?_⟩, by simpa using h.fits, by simpa using h.n2, h.l1, h.l2⟩
  · rcases h.rowL.2 with ⟨_, h2⟩ | ⟨g', cap, cur, h1, h2, h3, h4, h5, h6, h7⟩
    · omega
    · have e : g' = g := by rw [h1] at hg; simpa [Value.ownBlock] using hg
      subst e
      refine .inr ⟨g', cap, cur.setIfInBounds k (.string (str b)), by simpa using h1, h2, heap_setCell_same _ _ _ _ _ _ h3, by simpa using h4, h5, by simpa using h6, ?_⟩
      have e1 : List.take (A.last.length * 1) cur.toList = lcells A.last := h7
      simp only [List.length_set, Array.toList_setIfInBounds]
      rw [List.take_set, e1, lcells, lcells, List.map_set]
  · rcases h.rowP.2 with h1 | ⟨g', cap, cur, h1, h2, h3, h4⟩
    · exact .inl h1
    · refine .inr ⟨g', cap, cur, h1, h2, (heap_setCell_other _ _ _ _ ?_).trans h3, h4⟩
      show g' ≠ g
      rintro rfl
      rw [hc0] at h3; simp at h3
theorem Ref.setHead {pv' : Value} {A' : St} (h : Ref C q lv pv A w) (hl : A'.last = A.last) (hq : w'.heap[q]? = some (.cells #[lv, pv', .bool (!A'.runs), .int .i64 (clamp A'.left)] 45 (0, 0)))
    (ho : ∀ k, k ≠ q → w'.heap[k]? = w.heap[k]?) (hP : (pv' = pv ∧ A'.pend = A.pend) ∨ (pv' = .slice none 0 0 ∧ A'.pend = [])) (l1 : -9223372036854775808 ≤ A'.left) (l2 : A'.left ≤ 9223372036854775807) : Ref C q lv pv' A' w' := by
  refine ⟨h.hq, hq, ?_, ?_, ?_, by rw [hl]; exact h.n2, l1, l2⟩
  · rw [hl]
    refine ⟨h.rowL.1, ?_⟩
    rcases h.rowL.2 with h1 | ⟨g', cap, cur, h1, h2, h3, h4⟩
    · exact .inl h1
    · refine .inr ⟨g', cap, cur, h1, h2, (ho g' ?_).trans h3, h4⟩
      rintro rfl
      rw [h.head] at h3; simp at h3
  · rcases hP with ⟨rfl, e⟩ | ⟨rfl, e⟩
    · rw [e]
      refine ⟨h.rowP.1, ?_⟩
      rcases h.rowP.2 with h1 | ⟨g', cap, cur, h1, h2, h3, h4⟩
      · exact .inl h1
      · refine .inr ⟨g', cap, cur, h1, h2, (ho g' ?_).trans h3, h4⟩
        rintro rfl
        rw [h.head] at h3; simp at h3
    · rw [e]; exact World.ownsRow_nil _ _ _ _
  · rw [hl]
    rcases hP with ⟨_, e⟩ | ⟨_, e⟩
    · rw [e]; exact h.fits
    · rw [e]; exact Fits.nil _

/-! Stop. -/
set_option maxHeartbeats 1000000 in
theorem rstop_dead (h : Ref C q lv pv A w) (n : Int) (hr : A.runs = false) : Calls Try.prog 28 #[ptr q, .int .i64 n] w fun e w' => e = .returned (.tuple #[]) ∧ w = w' := by
  have h2 := h.cell.2.2.1
  rw [hr] at h2
  go_enter Try.func28, Try.ntmps28
  go_wp2_with fail
  go_end0
  exact ⟨rfl, rfl⟩
set_option maxHeartbeats 1000000 in
theorem rstop_ok (h : Ref C q lv pv A w) (n : Int) (n1 : -9223372036854775808 ≤ n) (n2 : n ≤ 9223372036854775807) (hr : A.runs = true) : Calls Try.prog 28 #[ptr q, .int .i64 n] w fun e w' => e = .returned (.tuple #[]) ∧ Ref C q lv pv { A with left := n } w' ∧ RLeaves C w w' := by
  obtain ⟨-, -, h2, h3⟩ := h.cell
  have hf := h.free 3
  rw [hr] at h2
  have HO := Lib.hid h
  have HR := Lib.hid hr
  clear h hr
  by_cases hc : n < -1
  all_goals
    go_enter Try.func28, Try.ntmps28
    go_wp2_with fail
    go_end0
    have h := HO.out
    refine ⟨rfl, h.setHead rfl ((heap_setCell_same _ _ _ _ _ _ h.head).trans ?_) (fun k hk => heap_setCell_other _ _ _ _ hk) (.inl ⟨rfl, rfl⟩) n1 n2, RLeaves.setCell _ _ _ _ h.hq h.head (.inl rfl)⟩
    first
      | (rw [show clamp n = -1 by unfold clamp; rw [if_pos hc]]; rfl)
      | (rw [show clamp n = n by unfold clamp; rw [if_neg (by omega)]]; rfl)

/-! What a list of writes leaves. -/
def RMid (C q : Nat) (lv pv : Value) (A : St) (P : List PW) (w wr : World) : Prop := Ref C q lv pv { A with last := appl A.last P } wr ∧ RLeaves C w wr
theorem RMid.step (h : RMid C q lv pv A P w wr) (x : PW) (hx : x.1 < A.last.length) {g c : Nat} (hl : lv = .slice (some ⟨g, 0, none⟩) A.last.length c) :
    RMid C q lv pv A (P ++ [x]) w (wr.setCell ⟨g, x.1, none⟩ (.string (str x.2))) := by
  have h1 := h.1.setLast (k := x.1) (by show _ < (appl A.last P).length; rw [appl_length]; exact hx) x.2 (g := g) (c := c) (by show lv = .slice _ (appl A.last P).length c; rw [appl_length]; exact hl)
  obtain ⟨hC, cur, hc⟩ := h.1.blockL (g := g) (by rw [hl]; rfl)
  refine ⟨?_, h.2.trans (RLeaves.setCell _ _ _ _ hC hc (.inr (.inl rfl)))⟩
  rw [appl_snoc]
  exact h1
theorem RMid.below {wx : World} (h : RMid C q lv pv A P w wr) (hb : Below wr.heap.size wr wx) : RMid C q lv pv A P w wx :=
  ⟨h.1.below hb (Nat.le_refl _), h.2.trans (RLeaves.of_below hb (Nat.le_refl _) (by have := h.1.hq; have := h.1.lt; omega))⟩
theorem take_getD (P : List PW) {i : Nat} (h : i < P.length) : P.take (i + 1) = P.take i ++ [P.getD i (0, [])] := by
  rw [take_snoc' P i h, List.getD_eq_getElem?_getD, List.getElem?_eq_getElem h]; rfl

/-! Sync. -/
set_option maxHeartbeats 1000000 in
theorem rsync_dead (h : Ref C q lv pv A w) (hr : A.runs = false) : Calls Try.prog 27 #[ptr q] w fun e w' => e = .returned (.int .i64 10) ∧ w = w' := by
  have h2 := h.cell.2.2.1
  rw [hr] at h2
  go_enter Try.func27, Try.ntmps27
  go_wp2_with fail
  go_ret
  exact ⟨rfl, rfl⟩
theorem RMid.at (h : RMid C q lv pv A P w wr) {i : Nat} (hi : i < A.pend.length) : ∃ g c gp cp, lv = .slice (some ⟨g, 0, none⟩) A.last.length c ∧ pv = .slice (some ⟨gp, 0, none⟩) A.pend.length cp ∧ (A.pend.getD i (0, [])).1 < A.last.length ∧
    wr.cell? ⟨gp, i * 2, none⟩ = some (.int .i64 ((A.pend.getD i (0, [])).1 : Int)) ∧ wr.cell? ⟨gp, i * 2 + 1, none⟩ = some (.string (str (A.pend.getD i (0, [])).2)) ∧
    (∃ v, wr.cell? ⟨g, (A.pend.getD i (0, [])).1, none⟩ = some v) ∧ wr.frozen? ⟨g, (A.pend.getD i (0, [])).1, none⟩ = false := by
  have hlt : (A.pend.getD i (0, [])).1 < A.last.length := by
    have := h.1.fits (A.pend.getD i (0, [])) (by rw [List.getD_eq_getElem?_getD, List.getElem?_eq_getElem hi]; exact List.getElem_mem hi)
    simpa [appl_length] using this.1
  obtain ⟨g, c, e1, e2, e3, -⟩ := h.1.lastAt (k := (A.pend.getD i (0, [])).1) (by simpa [appl_length] using hlt)
  obtain ⟨gp, cp, e4, e5, e6, -⟩ := h.1.pendAt (k := i) hi
  exact ⟨g, c, gp, cp, by simpa [appl_length] using e1, e4, hlt, e5, e6, ⟨_, e2⟩, e3⟩
set_option maxHeartbeats 4000000 in
theorem rsync_ok (h : Ref C q lv pv A w) (hr : A.runs = true) : Calls Try.prog 27 #[ptr q] w fun e w' => e = .returned (.int .i64 0) ∧ RAfter C q (synced A) w w' := by
  have h2 := h.cell.2.2.1
  rw [hr] at h2
  have hx := h.pendLe
  have hm := h.n2
  obtain ⟨la, lc, hlv⟩ := h.shapeL
  obtain ⟨pa, pc, hpv⟩ := h.shapeP
  have H0 := Lib.hid (show RMid C q lv pv A (A.pend.take 0) w w from ⟨h, RLeaves.refl _ _⟩)
  clear h
  unfold maxLen at hx
  obtain ⟨m, hM⟩ : ∃ m, m = A.pend.length := ⟨_, rfl⟩
  obtain ⟨n, hN⟩ : ∃ n, n = A.last.length := ⟨_, rfl⟩
  have HM := Lib.hid hM
  have HN := Lib.hid hN
  rw [← hM] at hx
  rw [← hN] at hm
  rw [hlv, hpv, ← hM, ← hN] at H0
  have HRR := Lib.hid hr
  clear hM hN hlv hpv hr
  go_enter Try.func27, Try.ntmps27
  go_wp2_with fail
  go_loopw [3] (fun kv wr => ∃ k : Nat, k ≤ m ∧ kv = .int .i64 k ∧ RMid C q (.slice la n lc) (.slice pa m pc) A (A.pend.take k) w wr) (fun kv _ => m - (intOf kv).toNat)
  case atStart => exact ⟨0, Nat.zero_le _, rfl, H0.out⟩
  case round =>
    clear H0
    obtain ⟨k, hk, rfl, hq⟩ := hrel
    have HQ := Lib.hid hq
    clear hq
    obtain ⟨h0, h1, -, -⟩ := HQ.out.1.cell
    by_cases hlt : k < m
    · have hlk : (k : Int) < m := by omega
      obtain ⟨g, c, gp, cp, e1, e2, e3, e4, e5, ⟨v, e6⟩, e7⟩ := HQ.out.at (i := k) (by rw [← HM.out]; exact hlt)
      have HST := Lib.hid (HQ.out.step (A.pend.getD k (0, [])) e3 e1)
      have HTK := Lib.hid (take_getD A.pend (i := k) (by rw [← HM.out]; exact hlt))
      rw [← HTK.out] at HST
      rw [← HN.out] at e3
      simp only [Value.slice.injEq] at e1 e2
      obtain ⟨rfl, -, -⟩ := e1
      obtain ⟨rfl, -, -⟩ := e2
      generalize A.pend.getD k (0, []) = x at *
      obtain ⟨x1, x2⟩ := x
      dsimp only at *
      have z1 : (0 : Int) ≤ (x1 : Int) := by omega
      have z2 : (x1 : Int) < n := by omega
      generalize str x2 = Y at *
      go_wp2_with fail
      go_region
      all_goals go_wp2_with fail
      all_goals go_roundw
      case rel => exact ⟨k + 1, by omega, by go_num, HST.out.below (Below.refl _ _).drew⟩
      case measure => simp [intOf]; omega
    · obtain rfl : m = k := by omega
      have hf := HQ.out.1.free 1
      go_wp2_with fail
      go_ret
      have h := HQ.out.1
      have e : A.pend.take m = A.pend := by rw [HM.out, List.take_length]
      rw [e] at h
      refine ⟨rfl, ⟨_, _, h.setHead (pv' := .slice none 0 0) (A' := synced A) rfl ((heap_setCell_same _ _ _ _ _ _ h.head).trans rfl) (fun k hk => heap_setCell_other _ _ _ _ hk) (.inr ⟨rfl, rfl⟩) h.l1 h.l2⟩, HQ.out.2.trans (RLeaves.setCell _ _ _ _ h.hq h.head (.inl rfl))⟩
end
end Go.Proofs.Ytnkhfgfiifadhaa
