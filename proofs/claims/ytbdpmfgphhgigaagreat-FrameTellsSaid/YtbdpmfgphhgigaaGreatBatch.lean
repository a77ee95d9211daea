/- The contract of Batch. -/
import Derived.Test.YtbdpmfgphhgigaaGreatChunk
import Derived.Test.YtbdpmfgphhgigaaGreatList
import Derived.RangeFuncWrites
namespace Go.Proofs.YtbdpmfgphhgigaaGreat
open Go.ChangeShapes Go.WideShapes Go.ChangeAt Go.RowKit Go.Shelf
attribute [local go_sem] Oper.semAt_some
set_option linter.unusedVariables false
set_option linter.unusedSimpArgs false
set_option maxRecDepth 100000
theorem cnt_pos {l : List BA} (h : strmOk l = true) : 1 ≤ cntB l := by
  have := strm_pos h
  unfold cntB
  rw [if_pos h]; omega
theorem cnt_np {l : List BA} (h : strmOk l = true) : cntB l = npX (strmB l) := by
  unfold cntB npX
  rw [if_pos h]
/-- A batch has its place if its first and its last sector have. -/
theorem bat_place {e i : Int} {l : List BA} (h : strmOk l = true) : batOk e i l = (placeB e i && placeB e (i + (cntB l : Nat) - 1)) := by
  have hn := cnt_pos h
  have hnp := cnt_np h
  cases hb : batOk e i l with
  | true =>
    obtain ⟨_, hk⟩ := batOk_iff.1 hb
    have h0 := okX_iff.1 (hk 0 (by omega))
    have h1 := okX_iff.1 (hk (cntB l - 1) (by omega))
    unfold secX at h0 h1
    dsimp only at h0 h1
    unfold placeB
    rw [decide_eq_true (by omega), decide_eq_true (by omega)]; rfl
  | false =>
    cases hp : (placeB e i && placeB e (i + (cntB l : Nat) - 1)) with
    | false => rfl
    | true =>
      exfalso
      unfold placeB at hp
      simp only [Bool.and_eq_true, decide_eq_true_eq] at hp
      have := bat_in (e := e) (i := i) h ⟨by omega, by omega⟩ (by omega) (by omega)
      rw [this] at hb; cases hb
def BatP (e i : Int) (l : List BA) (w : World) (r : Ending) (w' : World) : Prop := ∃ v, r = .returned (.tuple #[v, .bool (batOk e i l)]) ∧ OwnT w.heap.size w' v (batB e i l) ∧ Below w.heap.size w w'
theorem BatP.no {e i : Int} {l : List BA} {w w' : World} (h : batOk e i l = false) (hb : Below w.heap.size w w') : BatP e i l w (.returned (.tuple #[.slice none 0 0, .bool false])) w' := by
  unfold BatP
  rw [h, show batB e i l = [] by unfold batB; rw [if_neg (by rw [h]; simp)]]
  exact ⟨_, rfl, OwnT.nil _ _, hb⟩
set_option maxHeartbeats 2000000 in
/-- The place asked for is no place. -/
theorem bat_none {C n c : Nat} {A : Option Addr} {l : List BA} {w : World} (e i : Int) (he : rng e) (hi : rng i) (h : Txt C w A n l) (hC : C ≤ w.heap.size) (hn : n ≤ 1000000) (hc : cntB l ≤ 1000000) (hno : batOk e i l = false) : Calls Tryz.prog 11 #[.int .i64 e, .int .i64 i, .slice A n c] w fun r w' => BatP e i l w r w' := by
  have HN := Lib.hid (fun w' (hb : Below w.heap.size w w') => BatP.no hno hb)
  have HB := Lib.hid (fun q => below_drewN (((Below.refl w.heap.size w).alloc (Nat.le_refl _) (.cells #[.int .i64 e] 3)).alloc (by simp) (.cells #[.int .i64 i] 3)) q)
  have CO := Lib.hid (count_any (c := c) ((w.alloc (.cells #[.int .i64 e] 3)).alloc (.cells #[.int .i64 i] 3)) (h.kept (((Below.refl w.heap.size w).alloc (Nat.le_refl _) (.cells #[.int .i64 e] 3)).alloc (by simp) (.cells #[.int .i64 i] 3) |>.mono hC)) hn)
  have P1 := Lib.hid (place_any e i he)
  have P2 := Lib.hid (place_any e (i + (cntB l : Nat) - 1) he)
  have h3 : strmOk l = false ∨ (strmOk l = true ∧ placeB e i = false) ∨ (strmOk l = true ∧ placeB e i = true ∧ placeB e (i + (cntB l : Nat) - 1) = false) := by
    cases hs : strmOk l with
    | false => exact .inl rfl
    | true =>
      rw [bat_place hs] at hno
      cases hp : placeB e i with
      | false => exact .inr (.inl ⟨rfl, rfl⟩)
      | true => rw [hp, Bool.true_and] at hno; exact .inr (.inr ⟨rfl, rfl, hno⟩)
  generalize BatP e i l w = PP at *
  clear h hno he
  rcases h3 with hs | ⟨hs, hp⟩ | ⟨hs, hp, hp2⟩
  · have hc0 : cntB l = 0 := by unfold cntB; rw [hs]; rfl
    rw [hc0] at CO
    clear hc0 hs hc P1 P2
    go_enter Tryz.func11, Tryz.ntmps11
    go_wp2_with fail
    refine CO.out.mono ?_; rintro r w1 ⟨rfl, q, rfl⟩
    go_wp2_with fail
    exact HN.out _ (HB.out q)
  · have hc1 := cnt_pos hs
    rw [hp] at P1
    generalize cntB l = N at *
    have hN0 : ((N : Int) == 0) = false := by rw [beq_eq_false_iff_ne]; omega
    clear hs hp P2
    go_enter Tryz.func11, Tryz.ntmps11
    go_wp2_with fail
    refine CO.out.mono ?_; rintro r w1 ⟨rfl, q, rfl⟩
    go_wp2_with fail
    refine (P1.out _).mono ?_; rintro r w1 ⟨rfl, rfl⟩
    go_wp2_with fail
    exact HN.out _ (HB.out q)
  · have hc1 := cnt_pos hs
    rw [hp] at P1
    rw [hp2] at P2
    unfold placeB at hp
    simp only [decide_eq_true_eq] at hp
    generalize cntB l = N at *
    have hN0 : ((N : Int) == 0) = false := by rw [beq_eq_false_iff_ne]; omega
    have e1 : IntKind.i64.wrap (i + (N : Int)) = i + (N : Int) := IntWalk.i64_in _ (by omega)
    have e2 : IntKind.i64.wrap (i + (N : Int) - 1) = i + (N : Int) - 1 := IntWalk.i64_in _ (by omega)
    clear hs hp hp2
    go_enter Tryz.func11, Tryz.ntmps11
    go_wp2_with fail
    refine CO.out.mono ?_; rintro r w1 ⟨rfl, q, rfl⟩
    go_wp2_with fail
    refine (P1.out _).mono ?_; rintro r w1 ⟨rfl, rfl⟩
    go_wp2_with fail
    refine (P2.out _).mono ?_; rintro r w1 ⟨rfl, rfl⟩
    go_wp2_with fail
    exact HN.out _ (HB.out q)
/-- The sectors of the pieces that have come. -/
def outB (e i : Int) (s : BA) (pre : List { k : Nat // k < npL s.length }) : List BA := (List.range pre.length).map fun (j : Nat) => encX ⟨e, i + j, decide (j = 0), pieceX s ((pre.map (·.1)).getD j 0)⟩
theorem outB_length (e i : Int) (s : BA) (pre : List { k : Nat // k < npL s.length }) : (outB e i s pre).length = pre.length := by simp [outB]
theorem outB_snoc (e i : Int) (s : BA) (pre : List { k : Nat // k < npL s.length }) (x : { k : Nat // k < npL s.length }) : outB e i s (pre ++ [x]) = outB e i s pre ++ [encX ⟨e, i + pre.length, decide (pre.length = 0), pieceX s x.1⟩] := by
  unfold outB
  rw [List.length_append, List.length_singleton, List.range_succ, List.map_append, List.map_singleton]
  congr 1
  · refine List.map_congr_left fun j hj => ?_
    rw [List.map_append, List.getD_eq_getElem?_getD, List.getElem?_append_left (by rw [List.length_map]; exact List.mem_range.1 hj), ← List.getD_eq_getElem?_getD]
  · rw [List.map_append, List.getD_eq_getElem?_getD, List.getElem?_append_right (by simp)]
    simp
theorem outB_all {e i : Int} {l : List BA} (h : batOk e i l = true) {ys : List { k : Nat // k < npL (strmB l).length }} (hy : ys.map (·.1) = List.range (npL (strmB l).length)) : outB e i (strmB l) ys = batB e i l := by
  have hl : ys.length = npX (strmB l) := by have h2 := congrArg List.length hy; rw [List.length_map, List.length_range] at h2; exact h2
  unfold outB batB
  rw [if_pos h, hl, hy]
  refine List.map_congr_left fun j hj => ?_
  have hj' := List.mem_range.1 hj
  rw [List.getD_eq_getElem?_getD, List.getElem?_range (show j < npL (strmB l).length from hj')]
  rfl
theorem row_other' {w : World} {b e s n B : Nat} {v : Value} {xs : List Value} {cs : Array Value} {t : TypeId} (h : w.ownsRow b e s v n xs) (hb : Bx w B cs t) (ht : t ≠ e) : ∀ g, v.ownBlock = some g → g ≠ B := by
  rintro g hg rfl
  rcases h.2 with ⟨rfl, _⟩ | ⟨g', cap, cur, rfl, _, h2, _⟩
  · simp [Value.ownBlock] at hg
  · simp [Value.ownBlock] at hg
    subst hg
    unfold Bx at hb
    rw [hb] at h2
    simp at h2
    exact ht h2.2
/-- Below n₀ nothing has turned but block s. -/
structure ButS (n₀ s : Nat) (w W : World) : Prop where
  os : W.os = w.os
  tape : W.tape = w.tape
  output : W.output = w.output
  size : w.heap.size ≤ W.heap.size
  block : ∀ k, k < n₀ → k ≠ s → W.heap[k]? = w.heap[k]?
theorem ButS.refl (n₀ s : Nat) (w : World) : ButS n₀ s w w := ⟨rfl, rfl, rfl, Nat.le_refl _, fun _ _ _ => rfl⟩
theorem ButS.trans {n₀ s : Nat} {a b c : World} (h : ButS n₀ s a b) (k : ButS n₀ s b c) : ButS n₀ s a c := ⟨k.os.trans h.os, k.tape.trans h.tape, k.output.trans h.output, Nat.le_trans h.size k.size, fun i h1 h2 => (k.block i h1 h2).trans (h.block i h1 h2)⟩
theorem ButS.cell {n₀ s : Nat} {a b : World} (h : ButS n₀ s a b) {x : Addr} (hx : x.block < n₀) (hs : x.block ≠ s) : b.cell? x = a.cell? x := World.cell?_of_block (w := a) (h.block _ hx hs)
theorem ButS.keep {n₀ s : Nat} {a b : World} (h : ButS n₀ s a b) : KeepBut n₀ s a b := ⟨h.size, h.block⟩
theorem butS_ownFrom {β : Type} {n₀ B s : Nat} {w₀ : World} (hn : n₀ ≤ w₀.heap.size) (hB : n₀ ≤ B) : OwnFrom B (fun (_ : β) W => ButS n₀ s w₀ W) :=
  fun _ X Y row hs hg hr => ⟨hg.os.trans hs.os, hg.tape.trans hs.tape, hg.output.trans hs.output, Nat.le_trans hs.size hg.size, fun k hk hks => (hg.block k (by have := hs.size; omega) (fun e => by have := (hr k e.symm).1; omega)).trans (hs.block k hk hks)⟩
/-- What a round leaves: the row longer, nothing else turned. -/
theorem bat_round {N₀ B9 : Nat} {w3 W w4 w5 : World} {v v5 : Value} {oo no : List BA} {tmp : Obj} (hv : Boxed W B9 24 v) (hrow : W.ownsRow N₀ 9 1 v oo.length (tcs oo)) (hB : ButS N₀ B9 w3 W) (hn : N₀ ≤ W.heap.size) (hb4 : Below W.heap.size W w4)
    (hown5 : w5.ownsRow N₀ 9 1 v5 no.length (tcs no)) (hg : (w4.alloc tmp).grownBy w5 v.ownBlock) :
    Boxed w5 B9 24 v ∧ KeepsFrom N₀ W (w5.setCell ⟨B9, 0, none⟩ v5) ∧ KeepBut N₀ B9 W (w5.setCell ⟨B9, 0, none⟩ v5) ∧ ((∃ u, Boxed (w5.setCell ⟨B9, 0, none⟩ v5) B9 24 u ∧ (w5.setCell ⟨B9, 0, none⟩ v5).ownsRow N₀ 9 1 u no.length (tcs no) ∧ True) ∧ ButS N₀ B9 w3 (w5.setCell ⟨B9, 0, none⟩ v5)) := by
  have hv4 : Boxed w4 B9 24 v := (hb4.block B9 hv.lt).trans hv
  have hr4 : w4.ownsRow N₀ 9 1 v oo.length (tcs oo) := owns_kept2 hrow fun g hg' => hb4.block g (hrow.lt g hg').2
  obtain ⟨q1, q2, q3, q4, q5⟩ := hv4.appended (n₀ := 0) (by decide) (own_base hr4 (Nat.zero_le _)) (Nat.zero_le _) (Nat.zero_le _) (own_base hown5 (Nat.zero_le _)) hg
  have hs4 := hb4.size
  have hbut : ButS N₀ B9 W (w5.setCell ⟨B9, 0, none⟩ v5) := by
    refine ⟨q5.os.trans hb4.os, q5.tape.trans hb4.tape, q5.output.trans hb4.output, Nat.le_trans hb4.size q5.size, fun k hk hks => ?_⟩
    rw [Below.heap_setCell w5 ⟨B9, 0, none⟩ v5 k hks, hg.block k (by rw [World.size_alloc]; omega) (fun e => by have := (hr4.lt k e.symm).1; omega), Below.heap_alloc _ _ _ (by omega)]
    exact hb4.block k (by omega)
  refine ⟨q1, ?_, hbut.keep, ⟨v5, q2, ?_, trivial⟩, hB.trans hbut⟩
  · refine (KeepsOthers.from ?_ N₀)
    exact KeepsOthers.trans ⟨hb4.size, fun k o hk ho => (hb4.block k (Array.getElem?_eq_some_iff.1 hk).1).trans hk⟩ q4
  · have hb5 : Bx w5 B9 #[v] 24 := q1
    exact owns_kept2 hown5 fun g hg' => Below.heap_setCell w5 ⟨B9, 0, none⟩ v5 g (row_other' hown5 hb5 (by decide) g hg')
set_option maxHeartbeats 4000000 in
theorem bat_yes {C n c : Nat} {A : Option Addr} {l : List BA} {w : World} (e i : Int) (h : Txt C w A n l) (hC : C ≤ w.heap.size) (hn : n ≤ 1000000) (hm : (strmB l).length ≤ 100000) (hyes : batOk e i l = true) : Calls Tryz.prog 11 #[.int .i64 e, .int .i64 i, .slice A n c] w fun r w' => BatP e i l w r w' := by
  obtain ⟨hs, hok⟩ := batOk_iff.1 hyes
  have hpl := bat_place (e := e) (i := i) hs
  rw [hyes] at hpl
  obtain ⟨hp1, hp2⟩ : placeB e i = true ∧ placeB e (i + (cntB l : Nat) - 1) = true := by simpa [Bool.and_eq_true] using hpl.symm
  have hx := hp1
  unfold placeB at hx
  simp only [decide_eq_true_eq] at hx
  have hrg : rng e := by unfold rng; omega
  have hB0 : Below w.heap.size w ((w.alloc (.cells #[.int .i64 e] 3)).alloc (.cells #[.int .i64 i] 3)) := ((Below.refl w.heap.size w).alloc (Nat.le_refl _) _).alloc (by simp) _
  have CO := Lib.hid (count_any (c := c) ((w.alloc (.cells #[.int .i64 e] 3)).alloc (.cells #[.int .i64 i] 3)) (h.kept (hB0.mono hC)) hn)
  have P1 := Lib.hid (place_any e i hrg)
  have P2 := Lib.hid (place_any e (i + (cntB l : Nat) - 1) hrg)
  rw [hp1] at P1
  rw [hp2] at P2
  have hc1 := cnt_pos hs
  have hcn := cnt_np hs
  have hc2 : cntB l ≤ 1000000 := by rw [hcn]; unfold npX; omega
  have ST := Lib.hid (fun W (hb : Below C w W) (hz : C ≤ W.heap.size) => stream_any (c := c) W (h.kept hb) hz hn (fun x hx => ((strmOk_iff.1 hs).2 x hx).2) hm)
  have HOK := Lib.hid hok
  have HYES := Lib.hid hyes
  have HCN := Lib.hid hcn
  clear hpl hp1 hp2 hyes hok h hcn
  generalize cntB l = N at *
  have hN0 : ((N : Int) == 0) = false := by rw [beq_eq_false_iff_ne]; omega
  have e1 : IntKind.i64.wrap (i + (N : Int)) = i + (N : Int) := IntWalk.i64_in _ (by omega)
  have e2 : IntKind.i64.wrap (i + (N : Int) - 1) = i + (N : Int) - 1 := IntWalk.i64_in _ (by omega)
  refine (callsIn_wide (n := 5)).1 ?_
  refine callsIn_of_wp_marks Tryz.func11 rfl trivial ?_ rfl
  simp only [Tryz.ntmps11, List.size_toArray, List.length_cons, List.length_nil, Nat.reduceAdd, Nat.reduceSub, Array.replicate_succ, Array.replicate_zero, List.push_toArray, List.append_toArray, List.nil_append, List.cons_append]
  refine wpIn_wide.2 ?_
  go_wp2_with fail
  refine CO.out.mono ?_; rintro r w1 ⟨rfl, q, rfl⟩
  go_wp2_with fail
  refine (P1.out _).mono ?_; rintro r w1 ⟨rfl, rfl⟩
  go_wp2_with fail
  refine (P2.out _).mono ?_; rintro r w1 ⟨rfl, rfl⟩
  go_wp2_with fail
  refine (ST.out _ ?_ ?_).mono ?_
  · exact (below_drewN (hB0.mono hC) q).alloc (by simp; omega) _
  · simp; omega
  rintro r w2 ⟨vs, rfl, hown, hb2⟩
  obtain ⟨Av, cap, rfl⟩ := own_shape hown
  have hsp := strm_pos hs
  have hcap : (strmB l).length ≤ cap ∧ ∃ b, Av = some ⟨b, 0, none⟩ ∧ w.heap.size + 3 ≤ b ∧ b < w2.heap.size := by
    rcases hown.2 with ⟨h1, h2⟩ | ⟨g, cp, cur, h1, h2, h3, h4, _⟩
    · omega
    · simp only [Value.slice.injEq] at h1
      obtain ⟨rfl, _, rfl⟩ := h1
      exact ⟨h4, g, rfl, by simpa using h2, (Array.getElem?_eq_some_iff.1 h3).1⟩
  obtain ⟨hcp, b, rfl, hb3, hbl⟩ := hcap
  have hX3 : w.heap.size + 3 ≤ w2.heap.size := by have := hb2.size; simpa using this
  have k3 : w2.heap[w.heap.size]? = some (.cells #[.int .i64 e] 3 (0, 0)) := by
    rw [hb2.block _ (by simp; omega), Below.heap_alloc _ _ _ (by simp; omega)]
    exact (Below.heap_alloc _ _ _ (by simp)).trans (heap_alloc_new w _)
  have k4 : w2.heap[w.heap.size + 1]? = some (.cells #[.int .i64 i] 3 (0, 0)) := by
    rw [hb2.block _ (by simp), Below.heap_alloc _ _ _ (by simp)]
    have := heap_alloc_new (w.alloc (.cells #[.int .i64 e] 3)) (.cells #[.int .i64 i] 3)
    rw [World.size_alloc] at this
    exact this
  have k9 : w2.heap[w.heap.size + 1 + 1]? = some (.cells #[.slice none 0 0] 24 (0, 0)) := by
    rw [hb2.block _ (by simp)]
    have := heap_alloc_new (((w.alloc (.cells #[.int .i64 e] 3)).alloc (.cells #[.int .i64 i] 3)).drewN q) (.cells #[.slice none 0 0] 24)
    simpa using this
  have HB2 := Lib.hid (show Below w.heap.size w w2 from (((below_drewN hB0 q).alloc (by simp; omega) _).trans (hb2.mono (by simp; omega))))
  have HOW := Lib.hid hown
  have K3 := Lib.hid k3
  have K4 := Lib.hid k4
  have K9 := Lib.hid k9
  clear hb2 hown k3 k4 k9 ST CO P1 P2 hB0
  go_wp2_with fail
  refine (callsIn_wide.1 (chunk_in 1 _ _ _ _)).mono ?_; rintro r w3 ⟨rfl, rfl⟩
  go_wp2_with fail
  refine (wpIn_wide (n := 5)).1 ?_
  obtain ⟨w3, hw3⟩ : ∃ w3, w3 = (w2.alloc (.cells #[.slice (some ⟨b, 0, none⟩) (strmB l).length cap] 64)).alloc (.cells #[.int .i64 56] 3) := ⟨_, rfl⟩
  rw [← hw3]
  have hz3 : w3.heap.size = w2.heap.size + 2 := by rw [hw3]; simp
  have hb23 : Below w2.heap.size w2 w3 := by rw [hw3]; exact ((Below.refl _ _).alloc (Nat.le_refl _) _).alloc (by simp) _
  have m1 : w3.cell? ⟨w2.heap.size, 0, none⟩ = some (.slice (some ⟨b, 0, none⟩) (strmB l).length cap) := by
    rw [hw3]
    exact (Bx.alloc (Bx.new w2 #[.slice (some ⟨b, 0, none⟩) (strmB l).length cap] 64) _).cell 0
  have m2 : w3.cell? ⟨w2.heap.size + 1, 0, none⟩ = some (.int .i64 56) := by
    rw [hw3]
    have := (Bx.new (w2.alloc (.cells #[.slice (some ⟨b, 0, none⟩) (strmB l).length cap] 64)) #[.int .i64 56] 3).cell 0
    rw [World.size_alloc] at this
    exact this
  have HW := Lib.hid (show w3.ownsRow 0 5 1 (.slice (some ⟨b, 0, none⟩) (strmB l).length cap) (strmB l).length (bcs (strmB l)) from owns_kept2 (own_base HOW.out (Nat.zero_le _)) fun g hg => hb23.block g (HOW.out.lt g hg).2)
  have H3 := Lib.hid (show w3.heap[w.heap.size]? = _ from (hb23.block _ (by omega)).trans K3.out)
  have H4 := Lib.hid (show w3.heap[w.heap.size + 1]? = _ from (hb23.block _ (by omega)).trans K4.out)
  have H9 := Lib.hid (show w3.heap[w.heap.size + 1 + 1]? = _ from (hb23.block _ (by omega)).trans K9.out)
  have HB3 := Lib.hid (HB2.out.trans (hb23.mono (by omega)))
  obtain ⟨j0, hj0, hy0, hy1, hy2⟩ := info_parts info_s
  clear hw3 hb23 K3 K4 K9 HOW HB2
  refine wpIn_rangeFunc_ownG (gf := 82) (lb := #[.pointer (some ⟨w2.heap.size, 0, none⟩), .pointer (some ⟨w2.heap.size + 1, 0, none⟩)]) (encs := pcA b (strmB l).length) (Kp := KeepBut w3.heap.size (w.heap.size + 1 + 1)) (w0 := w3) rfl (by omega) rfl trivial (enters_of Tryz.func82 (by kernel_rfl) rfl)
    (chunk_stops (5 - 1) (by omega) w2.heap.size (w2.heap.size + 1) w3.heap.size (w.heap.size + 1 + 1) b (strmB l).length cap (by omega) hcp w3 (Nat.le_refl _) (by omega) (by omega) (by omega) (by omega) m1 m2)
    KeepBut.trans (keepBut_b (Nat.le_refl _)) (Below.refl _ _) (fun _ => rfl)
    (fun pre W => (∃ v, Boxed W (w.heap.size + 1 + 1) 24 v ∧ W.ownsRow w3.heap.size 9 1 v (outB e i (strmB l) pre).length (tcs (outB e i (strmB l) pre)) ∧ True) ∧ ButS w3.heap.size (w.heap.size + 1 + 1) w3 W)
    (fun _ _ _ => False)
    (OwnFrom.and (Own.from (holdsRow_own w3.heap.size (w.heap.size + 1 + 1) 24 9 1 (fun pre => (outB e i (strmB l) pre).length) (fun pre => tcs (outB e i (strmB l) pre)) (fun _ _ => True)) _) (butS_ownFrom (Nat.le_refl _) (Nat.le_refl _)))
    (fun _ _ _ _ _ hs _ _ => hs)
    ⟨⟨_, H9.out, World.ownsRow_nil _ _ _ _, trivial⟩, ButS.refl _ _ _⟩
    (fun x => { tmps := #[.int .i64 e, .int .i64 i, .slice A n c, .pointer (some ⟨w.heap.size, 0, none⟩), .pointer (some ⟨w.heap.size + 1, 0, none⟩), undef, .slice none 0 0, .bool false, .int .i64 N, .pointer (some ⟨w.heap.size + 1 + 1, 0, none⟩), pcV b (strmB l).length x.1, undef, undef, undef, .slice A n c, .int .i64 N, .int .i64 N, .bool false, .bool false, .int .i64 e, .int .i64 i, .bool true, .bool false, .bool false, .bool false, .int .i64 e, .int .i64 i, .int .i64 N, .int .i64 (i + (N : Int)), .int .i64 (i + (N : Int) - 1), .bool true, .bool false, .bool false, .slice A n c, .slice (some ⟨b, 0, none⟩) (strmB l).length cap, .func (.func 82) #[] #[.pointer (some ⟨w2.heap.size, 0, none⟩), .pointer (some ⟨w2.heap.size + 1, 0, none⟩)], pcV b (strmB l).length x.1, undef, undef, undef, undef, undef, undef, undef, undef, undef, undef, undef, undef, undef, undef, undef, undef, undef, undef, undef, undef], defers := [] }) ?assign ?body ?done ?stop
  case assign =>
    intro l' x W K hK
    unfold pcA
    gi_wp2
    exact hK
  case body =>
    rintro l' pre ⟨k, hk⟩ W ⟨⟨v, hv, hrow, -⟩, hB⟩ hlt
    obtain ⟨Av, cv, rfl⟩ := own_shape hrow
    have HSN := Lib.hid (outB_snoc e i (strmB l) pre ⟨k, hk⟩)
    have HOL := outB_length e i (strmB l) pre
    have hpl2 : i + (pre.length : Int) ≤ 65535 := by
      have := okX_iff.1 (HOK.out pre.length hlt)
      unfold secX at this
      dsimp only at this
      omega
    have hpc := piece_ok (s := strmB l) (k := k) hk
    have hX0 : okX ⟨e, i + pre.length, decide (pre.length = 0), pieceX (strmB l) k⟩ = true := okX_iff.2 ⟨hx.1, hx.2.1, by dsimp only; omega, hpl2, hpc.1, hpc.2⟩
    have PU := Lib.hid (fun w => put_ok ⟨e, i + pre.length, decide (pre.length = 0), pieceX (strmB l) k⟩ hrg hX0 w)
    unfold PutP sv at PU
    rw [hX0, putX_yes hX0] at PU
    dsimp only at PU HSN
    have hcv : (convert 64 9 (pcV b (strmB l).length k)).run Tryz.prog W = .ok (.string (str (pieceX (strmB l) k))) W := by
      have e0 : pcV b (strmB l).length k = .slice (some ⟨b, 56 * k, none⟩) (pieceX (strmB l) k).length (pieceX (strmB l) k).length := by unfold pcV; rw [piece_length]
      rw [e0]
      refine run_convert_bytes_back W 64 9 5 ⟨b, 56 * k, none⟩ _ (pieceX (strmB l) k) Tryz.underlying64 Tryz.underlying5 Tryz.underlying9 fun j hj => ?_
      have hj2 : 56 * k + j < (strmB l).length := by rw [piece_length] at hj; omega
      rw [add_plain, hB.cell (x := ⟨b, 56 * k + j, none⟩) (show b < _ by omega) (show b ≠ _ by omega), HW.out.cellAt (56 * k + j) (by omega)]
      simp only [bcs, pieceX, List.getElem?_map, List.getElem_take, List.getElem_drop, List.getElem?_eq_getElem hj2, Option.map_some]
    have c3 : W.cell? ⟨w.heap.size, 0, none⟩ = some (.int .i64 e) := (hB.cell (x := ⟨w.heap.size, 0, none⟩) (show w.heap.size < _ by omega) (show w.heap.size ≠ _ by omega)).trans (cell_of_row _ _ 0 _ _ _ H3.out)
    have c4 : W.cell? ⟨w.heap.size + 1, 0, none⟩ = some (.int .i64 i) := (hB.cell (x := ⟨w.heap.size + 1, 0, none⟩) (show w.heap.size + 1 < _ by omega) (show w.heap.size + 1 ≠ _ by omega)).trans (cell_of_row _ _ 0 _ _ _ H4.out)
    have c9 := hv.cell
    have e3 : IntKind.i64.wrap (i + (pre.length : Int)) = i + (pre.length : Int) := IntWalk.i64_in _ (by omega)
    have HV := Lib.hid hv
    have HR := Lib.hid hrow
    have HBS := Lib.hid hB
    have HN0 := Lib.hid hrow.lt
    have hpre : pre.length ≤ 1000000 := by have : npL (strmB l).length ≤ 1000000 := by unfold npL; omega
                                           omega
    obtain ⟨fr, hfr⟩ : ∃ fr, fr = decide (pre.length = 0) := ⟨_, rfl⟩
    have hq1 : ((pre.length : Int) == 0) = fr := by rw [hfr]; by_cases h0 : pre.length = 0 <;> simp [h0]
    have hq2 : decide ((pre.length : Int) = 0) = fr := by rw [hfr]; by_cases h0 : pre.length = 0 <;> simp [h0]
    rw [← hfr] at PU HSN
    clear hfr hv hrow hB
    generalize hoo : outB e i (strmB l) pre = oo at *
    generalize hno : outB e i (strmB l) (pre ++ [⟨k, hk⟩]) = no at *
    rw [HOL] at c9
    have HOL2 := Lib.hid HOL
    clear HOL
    generalize pre.length = pn at *
    generalize encX ⟨e, i + (pn : Int), fr, pieceX (strmB l) k⟩ = enc at *
    generalize pieceX (strmB l) k = pc at *
    generalize pcV b (strmB l).length k = pv at *
    gi_wp2_with (first
      | (refine ⟨trivial, ?_⟩; gi_at_call 6; refine (CallsIn.inRound l' (callsIn_wide.2 (PU.out _))).mono ?_; rintro r w4 ⟨rfl, hb4⟩; have c94 : w4.cell? ⟨w.heap.size + 1 + 1, 0, none⟩ = some (.slice Av pn cv) := (hb4.cell (p := ⟨w.heap.size + 1 + 1, 0, none⟩) HV.out.lt).trans c9; have hr4 : w4.ownsRow w3.heap.size 9 1 (.slice Av pn cv) pn (tcs oo) := by have hr := owns_kept2 HR.out (fun g hg => hb4.block g (HR.out.lt g hg).2); rw [HOL2.out] at hr; exact hr
         have hs4 : w3.heap.size ≤ w4.heap.size := Nat.le_trans HBS.out.size hb4.size)
      | (gi_at_builtin; refine wpListIn_append_own _ rfl _ _ 24 rfl w3.heap.size 9 j0 (.string ⟨#[]⟩) 1 16 Tryz.underlying24 hj0 hy0 hy1 hy2 rfl (by decide) _ _ _ rfl (hr4.alloc _) ⟨w4.heap.size, 0, none⟩ 1 1 [.string (str enc)] rfl rfl (cell_one_new _ _ _) (by simp [Value.oneCell']) (by unfold maxLen; omega) (by omega) (by rw [World.size_alloc]; omega) ?_; intro v5 w5 hown5 hgrow5 _; obtain ⟨g5, cap5, rfl⟩ := ownsRow_succ hown5
         have hown6 : w5.ownsRow w3.heap.size 9 1 (.slice (some ⟨g5, 0, none⟩) (pn + 1) cap5) no.length (tcs no) := by
           rw [HSN.out, tcs_append, List.length_append, HOL2.out]; exact hown5
         have hg6 : (w4.alloc (.cells #[.string (str enc)] 9)).grownBy w5 (Value.slice Av oo.length cv).ownBlock := by rw [HOL2.out]; exact hgrow5
         obtain ⟨z1, z2, z3, z4⟩ := bat_round HV.out HR.out HBS.out HBS.out.size hb4 hown6 hg6
         rw [HOL2.out] at z1
         have z5 := z1.cell
         have z6 := z1.frozen))
    refine ⟨z2, z3, ?_⟩
    dsimp only
    rw [hno]
    exact z4
  case done =>
    rintro D ys W hD hS ⟨⟨v, hv, hrow, -⟩, hB⟩ hK
    rw [outB_all HYES.out hS] at hrow
    have c9 := hv.cell
    have HF := Lib.hid (show BatP e i l w (.returned (.tuple #[v, .bool true])) (W.putObj D (.deferred none)) from by
      refine ⟨v, by rw [HYES.out], own_base (ownsRow_putObj hrow _ hK rfl) (by omega), ?_⟩
      have hb : Below w.heap.size w W := HB3.out.trans ⟨hB.os, hB.tape, hB.output, hB.size, fun k hk => hB.block k (by omega) (by omega)⟩
      exact hb.trans (belowK_b (w := w) (Nat.le_refl _) W D _ _ (by omega) hK rfl rfl))
    clear hS hrow hv hB
    simp only [Exit.inBlock, Exit.then]
    go_wp2_with fail
    refine ⟨by simp, .inl ⟨_, _, rfl, run_takeDeferred hK, ?_⟩⟩
    exact ⟨.tuple #[v, .bool true], by simp [results, Tryz.results11, go_sem], HF.out⟩
  case stop =>
    rintro D c pre W _ _ h _
    exact h.elim
theorem bat_any {C n c : Nat} {A : Option Addr} {l : List BA} {w : World} (e i : Int) (he : rng e) (hi : rng i) (h : Txt C w A n l) (hC : C ≤ w.heap.size) (hn : n ≤ 1000000) (hm : (strmB l).length ≤ 100000) : Calls Tryz.prog 11 #[.int .i64 e, .int .i64 i, .slice A n c] w fun r w' => BatP e i l w r w' := by
  cases hb : batOk e i l with
  | true => exact bat_yes e i h hC hn hm hb
  | false => exact bat_none e i he hi h hC hn (by unfold cntB; split <;> omega) hb
end Go.Proofs.YtbdpmfgphhgigaaGreat
