/- The contract of Copy. -/
import Derived.Test.YtnkhfgfiifadhaaKit
import Derived.Maps.AppendAt
import Derived.Lib.LazyBuf
namespace Go.Proofs.Ytnkhfgfiifadhaa
open Go.ChangeShapes Go.WideShapes Go.ChangeAt Go.RowKit
set_option linter.unusedVariables false
set_option linter.unusedSimpArgs false

theorem run_bs0s (w : World) : (Instr.buildSlice 54 0 #[]).run Try.prog w = .ok (.slice (some ⟨w.heap.size, 0, none⟩) 0 0) (w.alloc (.cells #[] 61)) := by
  have e : (Instr.buildSlice 54 0 #[]).run Try.prog w = (do
      let .slice elem ← underlying 54 | stuck "buildSlice: slice type expected"
      let size ← sizeOf elem
      if 0 * size > 2 ^ 24 then unsupported (.resourceLimit "buildSlice: more than 2^24 cells")
      let zero ← if 0 * size = 0 then pure #[] else do pure (← zeroValue elem).cells
      let some cells := Instr.fill (fun i => some (i * size, size)) ((Array.range (0 * size)).map (zero[· % zero.size]!)) []
        | stuck "buildSlice: a part of the wrong size"
      pure (.slice (some (← newRow elem cells)) 0 0) : Sem Value).run Try.prog w := rfl
  have hs : (sizeOf 61).run Try.prog w = .ok 64 w := by
    have := size_sec
    cases hq : Try.prog.info? 61 with
    | none => simp [hq] at this
    | some i => simp [hq] at this; simp [sizeOf, typeInfo, hq, this]
  rw [e]
  simp [Sem.run_bind, run_underlying Try.underlying54, hs, newRow, Instr.fill, Array.range_zero']
theorem run_bs0w (w : World) : (Instr.buildSlice 55 0 #[]).run Try.prog w = .ok (.slice (some ⟨w.heap.size, 0, none⟩) 0 0) (w.alloc (.cells #[] 63)) := by
  have e : (Instr.buildSlice 55 0 #[]).run Try.prog w = (do
      let .slice elem ← underlying 55 | stuck "buildSlice: slice type expected"
      let size ← sizeOf elem
      if 0 * size > 2 ^ 24 then unsupported (.resourceLimit "buildSlice: more than 2^24 cells")
      let zero ← if 0 * size = 0 then pure #[] else do pure (← zeroValue elem).cells
      let some cells := Instr.fill (fun i => some (i * size, size)) ((Array.range (0 * size)).map (zero[· % zero.size]!)) []
        | stuck "buildSlice: a part of the wrong size"
      pure (.slice (some (← newRow elem cells)) 0 0) : Sem Value).run Try.prog w := rfl
  have hs : (sizeOf 63).run Try.prog w = .ok 129 w := by
    have := size_wr
    cases hq : Try.prog.info? 63 with
    | none => simp [hq] at this
    | some i => simp [hq] at this; simp [sizeOf, typeInfo, hq, this]
  rw [e]
  simp [Sem.run_bind, run_underlying Try.underlying55, hs, newRow, Instr.fill, Array.range_zero']
/-- What Clone hands out. -/
def Cloned (e sz n : Nat) (news : List Value) (w : World) (en : Ending) (w' : World) : Prop := ∃ v, en = .returned v ∧ w'.ownsRow w.heap.size e sz v n news ∧ Below w.heap.size w w'
set_option maxHeartbeats 400000 in
theorem cloneS_ok (g n c : Nat) (news : List Value) (w : World) (hl : news.length = n * 64) (hn : ∀ j u, news[j]? = some u → w.cell? ⟨g, j, none⟩ = some u) (h1 : ∀ u ∈ news, u.oneCell' = true) (hm : n ≤ 10000) :
    Calls Try.prog 33 #[.slice (some ⟨g, 0, none⟩) n c] w (Cloned 61 64 n news w) := by
  obtain ⟨i0, hi, hz0, hz1, hz2⟩ := info_parts infoSec
  have hbs := run_bs0s w
  have heq := fun w : World => Lib.run_eql_slice_nil (P := Try.prog) w 54 61 (some ⟨g, 0, none⟩) n c 0 0 Try.underlying54
  simp only [Option.isNone_some] at heq
  have hown := World.ownsRow_made (e := 61) (size := 64) w #[] 0 (Nat.le_refl _) (Nat.zero_le _) (by simp)
  have HN := Lib.hid hn
  have HL := Lib.hid hl
  have H1 := Lib.hid h1
  have HOWN := Lib.hid hown
  clear hn hl h1 hown
  go_enter Try.func33, Try.ntmps33
  go_wp2_with (at_builtin; refine wpList_append_own _ rfl (.tmp 5) (.tmp 6) 54 rfl w.heap.size 61 i0 _ 64 64 Try.underlying54 hi hz0 hz1 hz2 (by simp [Value.cells]) (by decide) _ _ _ rfl HOWN.out ⟨g, 0, none⟩ n c news rfl HL.out ?c1 H1.out ?c3 ?c4 ?c5 ?_)
  case c1 => intro j u hu; rw [Addr.add_mid, Nat.zero_add]; exact cell_alloc_keep (HN.out j u hu) _
  case c3 => simp only [maxLen]; omega
  case c4 => omega
  case c5 => simp
  intro v' w1 hown1 hgrow _
  have HG := Lib.hid hgrow
  have HO := Lib.hid hown1
  clear hgrow hown1
  go_wp2_with fail
  go_ret
  refine ⟨v', rfl, by have := HO.out; simpa using this, ?_⟩
  exact ((Below.refl _ w).alloc (Nat.le_refl _) _).grown HG.out (by simp) (fun k e => by simp [Value.ownBlock] at e; omega)
set_option maxHeartbeats 400000 in
theorem cloneW_ok (g n c : Nat) (news : List Value) (w : World) (hl : news.length = n * 129) (hn : ∀ j u, news[j]? = some u → w.cell? ⟨g, j, none⟩ = some u) (h1 : ∀ u ∈ news, u.oneCell' = true) (hm : n ≤ 1000000) :
    Calls Try.prog 34 #[.slice (some ⟨g, 0, none⟩) n c] w (Cloned 63 129 n news w) := by
  obtain ⟨i0, hi, hz0, hz1, hz2⟩ := info_parts info_wr
  have hbs := run_bs0w w
  have heq := fun w : World => Lib.run_eql_slice_nil (P := Try.prog) w 55 63 (some ⟨g, 0, none⟩) n c 0 0 Try.underlying55
  simp only [Option.isNone_some] at heq
  have hown := World.ownsRow_made (e := 63) (size := 129) w #[] 0 (Nat.le_refl _) (Nat.zero_le _) (by simp)
  have HN := Lib.hid hn
  have HL := Lib.hid hl
  have H1 := Lib.hid h1
  have HOWN := Lib.hid hown
  clear hn hl h1 hown
  go_enter Try.func34, Try.ntmps34
  go_wp2_with (at_builtin; refine wpList_append_own _ rfl (.tmp 5) (.tmp 6) 55 rfl w.heap.size 63 i0 _ 129 136 Try.underlying55 hi hz0 hz1 hz2 (by simp [Value.cells, zeroW]) (by decide) _ _ _ rfl HOWN.out ⟨g, 0, none⟩ n c news rfl HL.out ?c1 H1.out ?c3 ?c4 ?c5 ?_)
  case c1 => intro j u hu; rw [Addr.add_mid, Nat.zero_add]; exact cell_alloc_keep (HN.out j u hu) _
  case c3 => simp only [maxLen]; omega
  case c4 => omega
  case c5 => simp
  intro v' w1 hown1 hgrow _
  have HG := Lib.hid hgrow
  have HO := Lib.hid hown1
  clear hgrow hown1
  go_wp2_with fail
  go_ret
  refine ⟨v', rfl, by have := HO.out; simpa using this, ?_⟩
  exact ((Below.refl _ w).alloc (Nat.le_refl _) _).grown HG.out (by simp) (fun k e => by simp [Value.ownBlock] at e; omega)
set_option maxHeartbeats 400000 in
theorem cloneW_nil (w : World) : Calls Try.prog 34 #[.slice none 0 0] w (Cloned 63 129 0 [] w) := by
  have heq := fun w : World => Lib.run_eql_slice_nil (P := Try.prog) w 55 63 none 0 0 0 0 Try.underlying55
  simp only [Option.isNone_none] at heq
  go_enter Try.func34, Try.ntmps34
  go_wp2_with fail
  go_ret
  exact ⟨_, rfl, World.ownsRow_nil _ _ _ _, Below.refl _ _⟩
variable {C p s c : Nat} {pv : Value} {A : St} {w : World}
/-- A disk of its own, in new blocks. -/
def Copied (A : St) (w : World) (e : Ending) (w' : World) : Prop := ∃ p' s' c' pv', e = .returned (ptr p') ∧ Own w.heap.size p' s' c' pv' A w' ∧ Below w.heap.size w w'
theorem own_shape {w : World} {C e sz n : Nat} {v : Value} {xs : List Value} (h : w.ownsRow C e sz v n xs) : ∃ a cp, v = .slice a n cp := own_slice h
theorem Own.copied {w1 w2 w3 W W' : World} (h : Own C p s c pv A w) {cur : Array Value} {v1 v2 : Value} (hcur : w.heap[s]? = some (.cells cur 61 (0, 0))) (hsz : A.last.length * 64 ≤ cur.size)
    (hw1 : w1 = w.alloc (.cells #[.slice (some ⟨s, 0, none⟩) A.last.length c, pv, .bool A.runs, .int .i64 A.left] 57))
    (r1 : w2.ownsRow w1.heap.size 61 64 v1 A.last.length (cur.toList.take (A.last.length * 64))) (b1 : Below w1.heap.size w1 w2)
    (hw3 : w3 = w2.setCell ⟨w.heap.size, 0, none⟩ v1) (r2 : W.ownsRow w3.heap.size 63 129 v2 A.pend.length (pcells A.last A.pend)) (b2 : Below w3.heap.size w3 W)
    (hW' : W' = W.setCell ⟨w.heap.size, 1, none⟩ v2) : ∃ s' c', Own w.heap.size w.heap.size s' c' v2 A W' ∧ Below w.heap.size w W' := by
  have z1 : w1.heap.size = w.heap.size + 1 := by rw [hw1]; simp
  have z3 : w3.heap.size = w2.heap.size := by rw [hw3]; simp [World.setCell]
  have hs12 := b1.size
  have hs3 := b2.size
  have n1 := h.n1
  rcases r1.2 with ⟨_, e⟩ | ⟨g, cap, cur', e1, e2, e3, e4, e5, e6, e7⟩
  · omega
  · have hg2 : g < w2.heap.size := (Array.getElem?_eq_some_iff.1 e3).1
    have hh1 : w1.heap[w.heap.size]? = some (.cells #[.slice (some ⟨s, 0, none⟩) A.last.length c, pv, .bool A.runs, .int .i64 A.left] 57 (0, 0)) := by rw [hw1]; exact heap_alloc_new w _
    have hh2 := (b1.block w.heap.size (by omega)).trans hh1
    have hh3 := heap_setCell_same _ _ 0 _ _ v1 hh2
    rw [← hw3] at hh3
    have hhW := (b2.block w.heap.size (by omega)).trans hh3
    have hhW' := heap_setCell_same _ _ 1 _ _ v2 hhW
    rw [← hW'] at hhW'
    have gne : g ≠ w.heap.size := by omega
    have hgW : W'.heap[g]? = some (.cells cur' 61 (0, 0)) := by
      rw [hW', heap_setCell_other _ _ _ _ gne, b2.block g (by omega), hw3, heap_setCell_other _ _ _ _ gne]; exact e3
    have hv2 : ∀ k, v2.ownBlock = some k → w3.heap.size ≤ k := fun k hk => (r2.lt k hk).1
    refine ⟨g, cap, ⟨Nat.le_refl _, by omega, by omega, fun e => by have := hv2 _ e; omega, fun e => by have := hv2 _ e; omega, ?_, ?_, ?_, h.whole, h.fits, h.n1, h.n2, e4, e5, h.l1, h.l2⟩, ?_⟩
    · rw [hhW', e1]; rfl
    · refine ⟨cur', hgW, by rw [e6]; exact Nat.mul_le_mul_right _ e4, fun k hk j v hv => ?_⟩
      obtain ⟨cr, c1, c2, c3⟩ := h.secs
      rw [hcur] at c1
      simp only [Option.some.injEq, Obj.cells.injEq] at c1
      obtain ⟨rfl, _, _⟩ := c1
      have hx := c3 k hk j v hv
      have hj := (List.getElem?_eq_some_iff.1 hv).1
      rw [cb_length, h.lenNow hk] at hj
      have hb : k * 64 + j < A.last.length * 64 := by
        have : k * 64 + 64 ≤ A.last.length * 64 := by omega
        omega
      have hy : (cur.toList.take (A.last.length * 64))[k * 64 + j]? = some v := by rw [List.getElem?_take, if_pos hb]; simpa using hx
      rw [← e7, List.getElem?_take, if_pos hb] at hy
      simpa using hy
    · refine ⟨r2.1, ?_⟩
      rcases r2.2 with h1 | ⟨q, cp, cq, q1, q2, q3, q4⟩
      · exact .inl h1
      · exact .inr ⟨q, cp, cq, q1, by omega, by rw [hW', heap_setCell_other _ _ _ _ (by show q ≠ w.heap.size; omega)]; exact q3, q4⟩
    · have hb1 : Below w.heap.size w w1 := by rw [hw1]; exact (Below.refl _ _).alloc (Nat.le_refl _) _
      have hb2 : Below w.heap.size w w3 := by rw [hw3]; exact (hb1.trans (b1.mono (by omega))).setCell (Nat.le_refl _) _
      rw [hW']
      exact (hb2.trans (b2.mono (by omega))).setCell (Nat.le_refl _) _
theorem cur_one (h : Own C p s c pv A w) {cur : Array Value} {n : Nat} (hcur : w.heap[s]? = some (.cells cur 61 (0, 0))) (hn : n = A.last.length) : ∀ u ∈ cur.toList.take (n * 64), u.oneCell' = true := fun u hu => by
  subst hn
  obtain ⟨i, hi⟩ := List.getElem?_of_mem hu
  have hlt := (List.getElem?_eq_some_iff.1 hi).1
  rw [List.length_take] at hlt
  have hb : i < A.last.length * 64 := by omega
  rw [List.getElem?_take, if_pos hb] at hi
  obtain ⟨cr, c1, c2, c3⟩ := h.secs
  rw [hcur] at c1
  simp only [Option.some.injEq, Obj.cells.injEq] at c1
  obtain ⟨rfl, _, _⟩ := c1
  have hk : i / 64 < A.last.length := by omega
  have hj : i % 64 < 64 := Nat.mod_lt _ (by omega)
  have hl := h.lenNow hk
  obtain ⟨v, hv⟩ : ∃ v, (cb ((appl A.last A.pend).getD (i / 64) []))[i % 64]? = some v := by
    rw [List.getElem?_eq_getElem (by rw [cb_length, hl]; exact hj)]; exact ⟨_, rfl⟩
  have := c3 (i / 64) hk (i % 64) v hv
  rw [show i / 64 * 64 + i % 64 = i by omega] at this
  have e : u = v := by
    have h2 : cur.toList[i]? = cur[i]? := by simp
    rw [h2, this] at hi
    exact (Option.some.inj hi).symm
  rw [e]
  exact cb_one _ v (List.mem_of_getElem? hv)
theorem cloneW_any (h : Own C p s c pv A w) (hm : A.pend.length ≤ 1000000) {W : World} (hW : Below w.heap.size w W) : Calls Try.prog 34 #[pv] W (Cloned 63 129 A.pend.length (pcells A.last A.pend) W) := by
  rcases h.row.2 with ⟨h1, h2⟩ | ⟨g, cap, cur, h1, h2, h3, h4, h5, h6, h7⟩
  · have h3 := h.row.1
    rw [h2] at h3 ⊢
    rw [h1, List.eq_nil_of_length_eq_zero (l := pcells A.last A.pend) (by simpa using h3)]
    exact cloneW_nil W
  · have hg := (Array.getElem?_eq_some_iff.1 h3).1
    rw [h1]
    refine cloneW_ok g A.pend.length cap _ W h.row.1 (fun j u hu => ?_) (pcells_one _ _) hm
    rw [cell_of_row W g j _ _ _ ((hW.block g hg).trans h3)]
    rw [← h7, List.getElem?_take] at hu
    split at hu
    · simpa using hu
    · cases hu
set_option maxHeartbeats 1000000 in
theorem copy_o (h : Own C p s c pv A w) (hm : A.pend.length ≤ 1000000) : Calls Try.prog 24 #[ptr p] w (Copied A w) := by
  obtain ⟨cur, k1, k2, k3⟩ := h.secs
  have hS := Lib.hid (sectors_o h)
  have hc0 := h.cell0
  have hc1 := h.cell1
  have hc2 := h.cell2
  have hc3 := h.cell3
  have hn1 := h.n1
  have hn2 := h.n2
  have hlt := h.lt
  have HO := Lib.hid h
  have HK := Lib.hid k1
  have HK2 := Lib.hid k2
  obtain ⟨va, vc, hpv⟩ := h.len
  have HPV := Lib.hid hpv
  clear h k1 k2 k3
  obtain ⟨n, hn⟩ : ∃ n, n = A.last.length := ⟨_, rfl⟩
  rw [← hn] at hc0 hn1 hn2
  have HN := Lib.hid hn
  obtain ⟨ru, hru⟩ : ∃ ru, ru = A.runs := ⟨_, rfl⟩
  obtain ⟨lf, hlf⟩ : ∃ lf, lf = A.left := ⟨_, rfl⟩
  rw [← hru] at hc2
  rw [← hlf] at hc3
  have HRU := Lib.hid hru
  have HLF := Lib.hid hlf
  have n0 : ((n : Int) == 0) = false := by rw [beq_eq_false_iff_ne]; omega
  rw [hpv] at hc1
  clear hn hru hlf hpv
  go_enter Try.func24, Try.ntmps24
  go_wp2_with fail
  refine hS.out.mono ?_; rintro e w' ⟨rfl, rfl⟩
  rw [← HN.out]
  have HCS := Lib.hid (fun (W : World) (hW : Below w.heap.size w W) => cloneS_ok s n c (cur.toList.take (n * 64)) W (by simp; have := HK2.out; have := HN.out; omega)
    (fun j u hu => by
      have hj := (List.getElem?_eq_some_iff.1 hu).1
      rw [cell_of_row W s j _ _ _ ((hW.block s HO.out.lts).trans HK.out)]
      rw [List.getElem?_take] at hu
      split at hu
      · simpa using hu
      · cases hu) (cur_one HO.out HK.out HN.out) hn2)
  have HCW := Lib.hid (fun (W : World) (hW : Below w.heap.size w W) => cloneW_any HO.out hm hW)
  go_wp2_with fail
  obtain ⟨w1, hw1⟩ : ∃ w1, w1 = w.alloc (.cells #[.slice (some ⟨s, 0, none⟩) n c, .slice va A.pend.length vc, .bool ru, .int .i64 lf] 57) := ⟨_, rfl⟩
  rw [← hw1]
  have hB1 : Below w.heap.size w w1 := by rw [hw1]; exact (Below.refl _ _).alloc (Nat.le_refl _) _
  have hx1 : w1.heap[w.heap.size]? = some (.cells #[.slice (some ⟨s, 0, none⟩) n c, .slice va A.pend.length vc, .bool ru, .int .i64 lf] 57 (0, 0)) := by rw [hw1]; exact heap_alloc_new w _
  have hz1 : w1.heap.size = w.heap.size + 1 := by rw [hw1]; simp
  have HW1 := Lib.hid hw1
  have HB1 := Lib.hid hB1
  have HX1 := Lib.hid hx1
  clear hw1 hB1 hx1
  refine (HCS.out w1 HB1.out).mono ?_; rintro e w2 ⟨v1, rfl, r1, b1⟩
  obtain ⟨a1, c1, hv1⟩ := own_slice r1
  have HV1 := Lib.hid hv1
  have HR1 := Lib.hid r1
  have HBB := Lib.hid b1
  have hx2 : w2.heap[w.heap.size]? = some (.cells #[.slice (some ⟨s, 0, none⟩) n c, .slice va A.pend.length vc, .bool ru, .int .i64 lf] 57 (0, 0)) := (b1.block _ (by omega)).trans HX1.out
  have y0 : w2.cell? ⟨w.heap.size, 0, none⟩ = some (.slice (some ⟨s, 0, none⟩) n c) := cell_of_row _ _ 0 _ _ _ hx2
  have f0 : w2.frozen? ⟨w.heap.size, 0, none⟩ = false := frozen_of_row _ _ _ _ _ hx2
  have y1 : w2.cell? ⟨p, 1, none⟩ = some (.slice va A.pend.length vc) := by rw [(HB1.out.trans (b1.mono (by omega))).cell (p := ⟨p, 1, none⟩) hlt]; exact hc1
  have hpne : p ≠ w.heap.size := by omega
  have HX2 := Lib.hid hx2
  clear r1 b1 hx2
  subst hv1
  go_wp2_with fail
  obtain ⟨w3, hw3⟩ : ∃ w3, w3 = w2.setCell ⟨w.heap.size, 0, none⟩ (.slice a1 n c1) := ⟨_, rfl⟩
  rw [← hw3]
  have hB3 : Below w.heap.size w w3 := by rw [hw3]; exact (HB1.out.trans (HBB.out.mono (by omega))).setCell (Nat.le_refl _) _
  have hx3 := heap_setCell_same _ _ 0 _ _ (.slice a1 n c1) HX2.out
  rw [← hw3] at hx3
  have hz3 : w.heap.size < w3.heap.size := (Array.getElem?_eq_some_iff.1 hx3).1
  have hcw := HCW.out w3 hB3
  rw [HPV.out] at hcw
  have HW3 := Lib.hid hw3
  have HX3 := Lib.hid hx3
  have HCW3 := Lib.hid hcw
  clear hw3 hx3 hcw hB3 y0 f0 y1
  refine HCW3.out.mono ?_; rintro e W ⟨v2, rfl, r2, b2⟩
  obtain ⟨a2, c2, hv2⟩ := own_slice r2
  have HR2 := Lib.hid r2
  have HB2 := Lib.hid b2
  have HV2 := Lib.hid hv2
  have hx4 : W.heap[w.heap.size]? = _ := (b2.block _ hz3).trans HX3.out
  have y1 : W.cell? ⟨w.heap.size, 1, none⟩ = some (.slice va A.pend.length vc) := cell_of_row _ _ 1 _ _ _ hx4
  have f1 : W.frozen? ⟨w.heap.size, 1, none⟩ = false := frozen_of_row _ _ _ _ _ hx4
  clear r2 b2 hx4
  subst hv2
  go_wp2_with fail
  go_ret
  obtain ⟨s', c', h1, h2⟩ := HO.out.copied HK.out HK2.out (by have := HW1.out; rw [HN.out, HRU.out, HLF.out, ← HPV.out] at this; exact this) (by have := HR1.out; rw [HN.out] at this; rw [HN.out]; exact this) HBB.out HW3.out HR2.out HB2.out rfl
  exact ⟨_, s', c', _, rfl, h1, h2⟩
end Go.Proofs.Ytnkhfgfiifadhaa
