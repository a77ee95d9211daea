/- The contract of Write. -/
import Derived.Test.YtnkhfgfiifadhaaWrote
import Derived.Deep.RegionHeld3
import Derived.Maps.AppendAt
import Derived.Deep.DeepCutAuto
namespace Go.Proofs.Ytnkhfgfiifadhaa
open Go.ChangeShapes Go.WideShapes Go.ChangeAt Go.RowKit
set_option linter.unusedVariables false
set_option linter.unusedSimpArgs false
variable {C p s c : Nat} {pv : Value} {A : St} {w : World}
theorem cell_alloc_keep {w : World} {a : Addr} {v : Value} (h : w.cell? a = some v) (ob : Obj) : (w.alloc ob).cell? a = some v := by
  rw [World.cell?_alloc_lt _ _ _ (World.block_lt_of_cell? w _ h)]; exact h
theorem cell_setCells_keep {w : World} {a : Addr} {v : Value} (h : w.cell? a = some v) (g o : Nat) (vs : List Value) (hg : a.block ≠ g) : (w.setCells g o vs).cell? a = some v := by
  rw [World.cell?_setCells_out g vs o w a (fun e _ => absurd e hg)]; exact h
abbrev boxW : Obj := .cells zeroW 63
/-- What is kept may be named anew, and more of it. -/
theorem wpAnyH_mono {P : Program} {md : Region.Mode} {ops : Array Oper} {Q : Exit → Act → World → Prop} {S S' : World → Prop} (hS : ∀ w, S' w → S w) : ∀ {fuel : Nat} {listed : Array Bool} {a : Act} {w : World}, wpAnyH P md ops Q S' fuel listed a w → wpAnyH P md ops Q S fuel listed a w
  | 0, _, _, _, h => h
  | fuel + 1, _, _, _, h => ⟨h.1, fun i hi => wpOp_mono (fun a' w' h' => ⟨hS _ h'.1, wpAnyH_mono hS h'.2⟩) (h.2 i hi)⟩
/-- A whole block is stored over. -/
theorem setCells_whole (g : Nat) (t : TypeId) : ∀ (vs pre : List Value) (old : List Value) (w : World), old.length = vs.length → w.heap[g]? = some (.cells (pre ++ old).toArray t (0, 0)) →
    (w.setCells g pre.length vs).heap[g]? = some (.cells (pre ++ vs).toArray t (0, 0))
  | [], pre, old, w, hl, h => by
    obtain rfl : old = [] := List.eq_nil_of_length_eq_zero (by simpa using hl)
    exact h
  | v :: vs, pre, [], w, hl, h => by simp at hl
  | v :: vs, pre, u :: old, w, hl, h => by
    rw [World.setCells]
    have h1 := heap_setCell_same w g pre.length _ t v h
    have e : ((pre ++ u :: old).toArray.setIfInBounds pre.length v) = ((pre ++ [v]) ++ old).toArray := by simp
    rw [e] at h1
    have := setCells_whole g t vs (pre ++ [v]) old _ (by simpa using hl) h1
    simpa using this
theorem box_out {w : World} {g : Nat} {vs : List Value} (h : w.heap[g]? = some boxW) (hl : vs.length = 129) (hz : zeroW.size = 129) : (w.setCells g 0 vs).heap[g]? = some (.cells vs.toArray 63 (0, 0)) := by
  have := setCells_whole g 63 vs [] zeroW.toList w (by simp [hz, hl]) (by simpa using h)
  simpa using this
theorem below_out1 (w : World) (b : BA) (vs : List Value) : Below w.heap.size w (((w.alloc (cObj w.drew b)).alloc boxW).drew.drew.setCells (w.heap.size + 1) 0 vs) :=
  Below.setCells (((((Below.refl _ w).alloc (Nat.le_refl _) _).alloc (by simp) _).drew).drew) (by omega) _ _
theorem below_out2 (w : World) (b : BA) (vs : List Value) : Below w.heap.size w (((w.alloc boxW).alloc (cObj (w.alloc boxW).drew b)).drew.drew.setCells w.heap.size 0 vs) :=
  Below.setCells (((((Below.refl _ w).alloc (Nat.le_refl _) _).alloc (by simp) _).drew).drew) (Nat.le_refl _) _ _
theorem run_next {P : Program} {m : Sem Value} {v : Value} {w w' : World} (h : m.run P w = .ok v w') : (do pure (Next.value (← m)) : Sem Next).run P w = .ok (.value v) w' := by rw [Sem.run_bind, h]; rfl
theorem conv_in1 (w : World) (b : BA) : (w.alloc (cObj w.drew b)).drew.drew.rangeAt w.heap.size 0 (cb b) := by
  rw [World.rangeAt_drew, World.rangeAt_drew]
  exact converted_in (heap_alloc_new w _)
theorem conv_in2 (w : World) (b : BA) : ((w.alloc (cObj w.drew b)).alloc boxW).drew.drew.rangeAt w.heap.size 0 (cb b) := by
  rw [World.rangeAt_drew, World.rangeAt_drew]
  exact World.rangeAt_alloc (converted_in (heap_alloc_new w _)) _
theorem conv_in3 (w : World) (b : BA) : ((w.alloc boxW).alloc (cObj (w.alloc boxW).drew b)).drew.drew.rangeAt (w.heap.size + 1) 0 (cb b) := by
  rw [World.rangeAt_drew, World.rangeAt_drew]
  have := heap_alloc_new (w.alloc boxW) (cObj (w.alloc boxW).drew b)
  rw [World.size_alloc] at this
  exact converted_in this
theorem box_at1 (w : World) (b : BA) : ((w.alloc (cObj w.drew b)).alloc boxW).drew.drew.heap[w.heap.size + 1]? = some boxW := by
  have := heap_alloc_new (w.alloc (cObj w.drew b)) boxW
  rw [World.size_alloc] at this
  exact this
theorem box_at2 (w : World) (b : BA) : ((w.alloc boxW).alloc (cObj (w.alloc boxW).drew b)).drew.drew.heap[w.heap.size]? = some boxW :=
  (Below.heap_alloc _ _ _ (by simp)).trans (heap_alloc_new w boxW)
theorem there_row {w : World} {g : Nat} {cs : Array Value} {t : TypeId} (h : w.heap[g]? = some (.cells cs t (0, 0))) : w.there g 0 cs.size := fun j hj =>
  ⟨by rw [cell_of_row w g _ _ _ _ h, Nat.zero_add, Array.getElem?_eq_getElem hj]; rfl, frozen_of_row w g _ _ _ h⟩
theorem zeroW_size : zeroW.size = 129 := by simp [zeroW]
theorem box_in1 (w : World) (b : BA) : ((w.alloc (cObj w.drew b)).alloc boxW).drew.drew.there (w.heap.size + 1) 0 129 := by
  rw [World.there_drew, World.there_drew, ← zeroW_size]
  have := heap_alloc_new (w.alloc (cObj w.drew b)) boxW
  rw [World.size_alloc] at this
  exact there_row this
theorem box_in2 (w : World) (b : BA) : ((w.alloc boxW).alloc (cObj (w.alloc boxW).drew b)).drew.drew.there w.heap.size 0 129 := by
  rw [World.there_drew, World.there_drew, ← zeroW_size]
  exact World.there_alloc (there_row (heap_alloc_new w boxW)) _
theorem run_bs (w : World) (cs : List Value) (hl : cs.length = 129) : (Instr.buildSlice 55 1 #[(0, .agg cs.toArray)]).run Try.prog w = .ok (.slice (some ⟨w.heap.size, 0, none⟩) 1 1) (w.alloc (.cells cs.toArray 63)) := by
  have hf : Instr.fill (fun i => some (i * 129, 129)) ((Array.range (1 * 129)).map (zeroW[· % zeroW.size]!)) [(0, .agg cs.toArray)] = some cs.toArray := by
    rw [fill_one _ _ _ _ _ 0 129 rfl (by simp [Value.cells, hl]) (by simp), Instr.fill]
    congr 1
    apply Array.ext_getElem?
    intro i
    simp only [Value.cells, List.toList_toArray]
    rw [laid_get _ _ _ _ (by simp [hl])]
    simp only [hl, Nat.add_zero, Nat.zero_add, Nat.sub_zero, List.getElem?_toArray]
    by_cases h1 : i < 129
    · rw [if_pos ⟨Nat.zero_le _, h1⟩]
    · rw [if_neg (by omega), List.getElem?_eq_none (by omega)]
      simp; omega
  have hs : (sizeOf 63).run Try.prog w = .ok 129 w := by
    have := size_wr
    cases hq : Try.prog.info? 63 with
    | none => simp [hq] at this
    | some i => simp [hq] at this; simp [sizeOf, typeInfo, hq, this]
  have h1 : (129 : Nat) ≤ 2 ^ 24 := by decide
  have e : (Instr.buildSlice 55 1 #[(0, .agg cs.toArray)]).run Try.prog w = (do
      let .slice elem ← underlying 55 | stuck "buildSlice: slice type expected"
      let size ← sizeOf elem
      if 1 * size > 2 ^ 24 then unsupported (.resourceLimit "buildSlice: more than 2^24 cells")
      let zero ← if 1 * size = 0 then pure #[] else do pure (← zeroValue elem).cells
      let some cells := Instr.fill (fun i => some (i * size, size)) ((Array.range (1 * size)).map (zero[· % zero.size]!)) [(0, .agg cs.toArray)]
        | stuck "buildSlice: a part of the wrong size"
      pure (.slice (some (← newRow elem cells)) 1 1) : Sem Value).run Try.prog w := rfl
  rw [e]
  simp [Sem.run_bind, run_underlying Try.underlying55, hs, zero_wr, hf, Value.cells, newRow]
theorem wp_val {P : Program} {o : Oper} {a : Act} {w w' : World} {v : Value} {K : Act → World → Prop} {Q : Exit → Act → World → Prop} (h : (execOp a.eval o).run P w = .ok (.value v) w') (hk : K (a.put o.dst v) w') : o.wp P a w K Q := by
  unfold Oper.wp; rw [h]; exact hk
theorem own_slice {w : World} {C e sz n : Nat} {v : Value} {xs : List Value} (h : w.ownsRow C e sz v n xs) : ∃ a cp, v = .slice a n cp := by
  rcases h.2 with ⟨h1, h2⟩ | ⟨g, cap, cur, h1, _⟩
  · exact ⟨_, _, by rw [h1, h2]⟩
  · exact ⟨_, _, h1⟩
theorem range_mid {w : World} {g : Nat} {k : Int} {co cn : List Value} {t : TypeId} (h : w.heap[g]? = some (.cells (.int .i64 k :: (co ++ cn)).toArray t (0, 0))) (hl : co.length = 64) : w.rangeAt g 65 cn := fun j v hv => by
  rw [cell_of_row w g _ _ _ _ h, List.getElem?_toArray, show 65 + j = (64 + j) + 1 by omega, List.getElem?_cons_succ, List.getElem?_append_right (by omega), hl, show 64 + j - 64 = j by omega]
  exact hv
theorem range_all {w : World} {g : Nat} {cs : List Value} {t : TypeId} (h : w.heap[g]? = some (.cells cs.toArray t (0, 0))) : w.rangeAt g 0 cs := fun j v hv => by
  rw [cell_of_row w g _ _ _ _ h, List.getElem?_toArray, Nat.zero_add]; exact hv
theorem new_cells (w : World) (cs : List Value) {t : TypeId} {h : Nat} (e : h = w.heap.size := by rfl) : ∀ j u, cs[j]? = some u → (w.alloc (.cells cs.toArray t)).cell? ((⟨h, 0, none⟩ : Addr).add j) = some u := fun j u hu => by
  subst e
  rw [Addr.add_mid, Nat.zero_add, cell_of_row _ _ _ _ _ _ (heap_alloc_new w _), List.getElem?_toArray]; exact hu
theorem range_grown {w w' : World} {row : Option Nat} {g o : Nat} {cs : List Value} (hg : w.grownBy w' row) (h : w.rangeAt g o cs) (hn : row ≠ some g) : w'.rangeAt g o cs := fun j v hv => hg.cell (h j v hv) (fun e => hn e.symm)
theorem cell_grown {w w' : World} {row : Option Nat} {a : Addr} {v : Value} (hg : w.grownBy w' row) (h : w.cell? a = some v) (hn : row ≠ some a.block) : w'.cell? a = some v := hg.cell h (fun e => hn e.symm)
theorem free_grown {w0 w w' : World} {row : Option Nat} {p o : Nat} {ob : Obj} (hg : (w.drew.alloc ob).grownBy w' row) (h : w.heap[p]? = w0.heap[p]?) (hp : p < w0.heap.size) (hs : w0.heap.size ≤ w.heap.size) (hf : w0.frozen? ⟨p, o, none⟩ = false) (hn : row ≠ some p) : w'.frozen? ⟨p, o, none⟩ = false := by
  rw [World.frozen?_of_block (w := w0) (a := ⟨p, o, none⟩) ?_]
  · exact hf
  · show w'.heap[p]? = _
    rw [hg.block p (by simp; omega) (fun e => hn e.symm), Below.heap_alloc _ _ _ (by show p < w.heap.size; omega)]
    exact h
theorem range_setCell {w : World} {g o : Nat} {cs : List Value} (h : w.rangeAt g o cs) {a : Addr} {u : Value} (hn : a.block ≠ g) : (w.setCell a u).rangeAt g o cs := fun j v hv => by
  rw [World.cell?_of_block (w := w) (a := ⟨g, o + j, none⟩) (Below.heap_setCell _ _ _ _ (fun e => hn e.symm))]
  exact h j v hv
theorem wp_append_at {P : Program} (w : World) {o : Oper} {a : Act} {K : Act → World → Prop} {Q : Exit → Act → World → Prop} (s x : Operand) (t : TypeId) (ho : o.op = .call { callee := .builtin .append, args := #[s, x], argTypes := #[t, t] })
    (base : Nat) (e : TypeId) (i : TypeInfo) (z : Value) (size bytes : Nat) (ht : P.underlying t = some (.slice e)) (hi : P.info? e = some i) (hz : i.zero = some z)
    (hsize : i.size = size) (hby : i.bytes = bytes) (hzs : z.cells.size = size) (hsz : 0 < size)
    (v : Value) (n : Nat) (xs : List Value) (hs : a.eval s = v) (hown : w.ownsRow base e size v n xs)
    (ad : Addr) (m c : Nat) (news : List Value) (hx : a.eval x = .slice (some ad) m c) (hl : news.length = m * size) (hnews : ∀ j u, news[j]? = some u → w.cell? (ad.add j) = some u) (h1 : ∀ u ∈ news, u.oneCell' = true)
    (h63 : n + m ≤ maxLen) (hbytes : (n + m) * bytes ≤ 140737488355328) (hbase : base ≤ w.heap.size)
    (h : ∀ v' w', w'.ownsRow base e size v' (n + m) (xs ++ news) → w.grownBy w' v.ownBlock → (v'.ownBlock = v.ownBlock ∨ v'.ownBlock = some w.heap.size) → K (a.put o.dst v') w') : o.wp P a w K Q := by
  obtain ⟨v', w', r1, r2, r3, _, r5⟩ := run_append_own_at (P := P) w base t o.type e i z size bytes ht hi hz hsize hby hzs hsz v n xs hown ad m c news hl hnews h1 h63 hbytes hbase
  unfold Oper.wp execOp
  simp only [ho, resolve, invoke, builtin, Sem.run_bind, Sem.run_pure, Result.andThen_ok, List.map_toArray, List.map_cons, List.map_nil, hs, hx, r1]
  exact h v' w' r2 r3 r5
/-- One write more is pending. -/
def Adds (C p s c : Nat) (pv : Value) (A : St) (k : Nat) (b : BA) (w w' : World) : Prop := Did C p s c pv { A with pend := A.pend ++ [(k, b)] } w w'
theorem did_wrote (h : Own C p s c pv A w) {k : Nat} {b : BA} (hk : k < A.last.length) (hb : b.length = 64) {wx W W4 W' : World} {pv' : Value} {o : Obj} {co cn : List Value} (hx : Below w.heap.size w wx)
    (hW : W = wx.drew.setCells s (k * 64) cn) (hco : co = cb ((appl A.last A.pend).getD k [])) (hcn : cn = cb b) (hg : (W.drew.alloc o).grownBy W4 pv.ownBlock) (ha : pv'.ownBlock = pv.ownBlock ∨ pv'.ownBlock = some (W.drew.alloc o).heap.size)
    (hrow : W4.ownsRow C 63 129 pv' (A.pend.length + 1) (pcells A.last A.pend ++ (.int .i64 (k : Int) :: (co ++ cn)))) (hW' : W' = W4.setCell ⟨p, 1, none⟩ pv') :
    Adds C p s c pv A k b w W' := by
  subst hW hco hcn
  have hm : ∀ q, pv'.ownBlock = some q → pv.ownBlock = some q ∨ w.heap.size ≤ q := fun q hq => by
    rcases ha with e | e
    · exact .inl (e ▸ hq)
    · have e2 : (wx.drew.setCells s (k * 64) (cb b)).heap.size = wx.heap.size := setCells_size _ _ _ _
      have := hx.size
      rw [e] at hq
      simp only [World.size_alloc, World.size_drew, Option.some.injEq] at hq
      rw [e2] at hq
      exact .inr (by omega)
  obtain ⟨h1, h2⟩ := h.wroteRow hk hb hx hg hm hrow hW'
  exact ⟨pv', h1, h2, hm⟩
def AddsP (C p s c : Nat) (pv : Value) (A0 : St) (k : Nat) (b : BA) (v w' : World) : Prop := Adds C p s c pv { A0 with left := A0.left - 1 } k b (v.setCell ⟨p, 3, none⟩ (.int .i64 (A0.left - 1))) w'
theorem addsP_of {A A0 : St} {v w w' : World} {k : Nat} {b : BA} (hA : A = { A0 with left := A0.left - 1 }) (hw : w = v.setCell ⟨p, 3, none⟩ (.int .i64 (A0.left - 1))) (h : Adds C p s c pv A k b w w') : AddsP C p s c pv A0 k b v w' := by
  subst hA hw; exact h
theorem there_below {w w' : World} {s o n D : Nat} (h : w.there s o n) (hb : Below D w w') (hs : s < D) : w'.there s o n := fun j hj =>
  ⟨by rw [hb.cell (p := ⟨s, o + j, none⟩) hs]; exact (h j hj).1, by rw [hb.frozen (p := ⟨s, o + j, none⟩) hs]; exact (h j hj).2⟩
set_option maxRecDepth 100000 in
set_option maxHeartbeats 2000000 in
theorem write_neg (h : Own C p s c pv A w) (k : Nat) (b : BA) (hr : A.runs = true) (hk : k < A.last.length) (hb : b.length = 64) (hl : A.left < 0) (hm : A.pend.length ≤ 1000000) :
    Calls Try.prog 17 #[ptr p, .int .i64 k, .string (str b)] w fun e w' => e = .returned (.int .i64 0) ∧ Adds C p s c pv A k b w w' := by
  have hR := Lib.hid (refuse_ok h k hr hk)
  have hc3 := h.cell3
  have hc0 := h.cell0
  have h2 := h.n2
  have hlt := h.lt
  have hlts := h.lts
  have hps := h.ps
  have hsec := h.sector hk
  have hthere := Lib.hid (h.there hk)
  have hol : (cb ((appl A.last A.pend).getD k [])).length = 64 := by rw [cb_length, h.lenNow hk]
  have ho1 := cb_one ((appl A.last A.pend).getD k [])
  have hb1 := cb_one b
  have hbl : (cb b).length = 64 := by rw [cb_length, hb]
  have hcv := fun W : World => convert_bytes W b hb
  have hat := fun (g cap : Nat) (W : World) => run_arrayAt (P := Try.prog) W 61 5 64 (some ⟨g, 0, none⟩) 64 cap Try.underlying61 (Nat.le_refl _)
  have hsz : (str b).size = 64 := by rw [str_size, hb]
  have HO := Lib.hid h
  have HK := Lib.hid hk
  have HBL := Lib.hid hb
  have hzw := zero_wr
  have hu := Try.underlying61
  have huw := Try.underlying63
  have hi : (Try.prog.info? 61).map (·.size) = some (cb ((appl A.last A.pend).getD k [])).length := by rw [hol]; exact size_sec
  have hi2 : (Try.prog.info? 61).map (·.size) = some (cb b).length := by rw [hbl]; exact size_sec
  clear h
  obtain ⟨n, hn⟩ : ∃ n, n = A.last.length := ⟨_, rfl⟩
  have k1 : (k : Int) < (n : Int) := by omega
  have h3 : n ≤ 10000 := by omega
  rw [← hn] at hc0
  have HN := Lib.hid hn
  clear hn h2 hk hb
  obtain ⟨co, hco⟩ : ∃ co, co = cb ((appl A.last A.pend).getD k []) := ⟨_, rfl⟩
  obtain ⟨cn, hcn⟩ : ∃ cn, cn = cb b := ⟨_, rfl⟩
  rw [← hco] at hsec hol ho1 hi
  rw [← hcn] at hbl hb1 hi2
  have hbd' := fun W : World => run_build_wr W k co cn hol hbl
  have x1 : (w.alloc (cObj w.drew b)).drew.drew.rangeAt w.heap.size 0 cn := by rw [hcn]; exact conv_in1 w b
  have x3 : ((w.alloc boxW).alloc (cObj (w.alloc boxW).drew b)).drew.drew.rangeAt (w.heap.size + 1) 0 cn := by rw [hcn]; exact conv_in3 w b
  have HCO := Lib.hid hco
  have HCN := Lib.hid hcn
  clear hco hcn
  have y1 : ((w.alloc (cObj w.drew b)).alloc boxW).drew.drew.there (w.heap.size + 1) 0 129 := box_in1 w b
  have y1' := Lib.hid (box_at1 w b)
  have y2' := Lib.hid (box_at2 w b)
  have y2 : ((w.alloc boxW).alloc (cObj (w.alloc boxW).drew b)).drew.drew.there w.heap.size 0 129 := box_in2 w b
  have hw1 : ∀ v ∈ (.int .i64 (k : Int) :: (co ++ cn)), v.oneCell' = true := fun v hv => by
    rcases List.mem_cons.1 hv with rfl | hv
    · rfl
    · rcases List.mem_append.1 hv with hv | hv
      · exact ho1 v hv
      · exact hb1 v hv
  have hwl : (.int .i64 (k : Int) :: (co ++ cn)).length = 129 := by simp [hol, hbl]
  have hws : ((.int .i64 (k : Int) :: (co ++ cn)).toArray : Array Value).size = 129 := by rw [List.size_toArray, hwl]
  have k0 : (0 : Int) ≤ (k : Int) := by omega
  have l0 : (A.left == 0) = false := by simp; omega
  have l1 : ¬ 0 < A.left := by omega
  obtain ⟨lf, hlf⟩ : ∃ lf, lf = A.left := ⟨_, rfl⟩
  rw [← hlf] at hc3 l0 l1
  clear hl hlf hr
  go_enter Try.func17, Try.ntmps17
  go_upto_region 11 with (go_at_call 31; refine hR.out.mono ?_; rintro e w' ⟨rfl, rfl⟩)
  go_cut [8] (fun s8 wx => ∃ g : Nat, s8 = .pointer (some ⟨g, 0, none⟩) ∧ w.heap.size ≤ g ∧ wx.heap[g]? = some (.cells (.int .i64 k :: (co ++ cn)).toArray 63 (0, 0)) ∧ Below w.heap.size w wx)
  case first =>
    refine wp_region_noPanic ?_
    refine wp_region_held_drew (S := (fun w' => w'.cell? ⟨p, 0, none⟩ = some (.slice (some ⟨s, 0, none⟩) n c) ∧ w'.rangeAt s (k * 64) co)) (by kernel_rfl) ?_ (fun hHeld => ?_)
    · ((try dsimp only); (try simp only [World.rangeAt_drew, World.cell?_drew]); constructor <;> (repeat' first | assumption | (refine cell_alloc_keep ?_ _) | (refine cell_setCells_keep ?_ _ _ _ (by simp; omega)) | (refine World.rangeAt_alloc ?_ _) | (refine World.rangeAt_setCells_apart ?_ _ _ _ (by omega))))
    refine wpAnyH_take (i := 0) (oi := { dst := some 38, op := Op.move (Operand.tmp 1), type := 3, pos := "disk.go:62", after := #[], guard := none }) (v := .int .i64 k) rfl (by kernel_rfl) (by kernel_rfl) (by kernel_rfl) (fun _ _ _ h => h) (Or.inl ⟨by rfl, fun w' hSw => by ((try dsimp only at hSw); go_split_ands; go_simp)⟩) (by assumption) ?_
    (try simp only [Act.put, List.setIfInBounds_toArray, List.set_cons_zero, List.set_cons_succ])
    refine wpAnyH_take (i := 1) (oi := { dst := some 39, op := Op.move (Operand.tmp 0), type := 24, pos := "disk.go:62", after := #[], guard := none }) (v := ptr p) rfl (by kernel_rfl) (by kernel_rfl) (by kernel_rfl) (fun _ _ _ h => h) (Or.inl ⟨by rfl, fun w' hSw => by ((try dsimp only at hSw); go_split_ands; go_simp)⟩) (by assumption) ?_
    (try simp only [Act.put, List.setIfInBounds_toArray, List.set_cons_zero, List.set_cons_succ])
    refine wpAnyH_take (i := 2) (oi := { dst := some 40, op := Op.nilCheck (Operand.tmp 39), type := 0, pos := "disk.go:62", after := #[{ on := 1, ground := Ground.data }], guard := none }) (v := ptr p) rfl (by kernel_rfl) (by kernel_rfl) (by kernel_rfl) (fun _ _ _ h => h) (Or.inl ⟨by rfl, fun w' hSw => by ((try dsimp only at hSw); go_split_ands; go_simp)⟩) (by assumption) ?_
    (try simp only [Act.put, List.setIfInBounds_toArray, List.set_cons_zero, List.set_cons_succ])
    refine wpAnyH_take (i := 3) (oi := { dst := some 41, op := Op.fieldAddr 57 (Operand.tmp 40) 0, type := 0, pos := "disk.go:62", after := #[{ on := 2, ground := Ground.data }], guard := none }) (v := .pointer (some ⟨p, 0, none⟩)) rfl (by kernel_rfl) (by kernel_rfl) (by kernel_rfl) (fun _ _ _ h => h) (Or.inl ⟨by rfl, fun w' hSw => by ((try dsimp only at hSw); go_split_ands; go_simp)⟩) (by assumption) ?_
    (try simp only [Act.put, List.setIfInBounds_toArray, List.set_cons_zero, List.set_cons_succ])
    refine wpAnyH_take (i := 4) (oi := { dst := some 42, op := Op.load 54 (Operand.tmp 41), type := 54, pos := "disk.go:62", after := #[{ on := 3, ground := Ground.data }], guard := none }) (v := .slice (some ⟨s, 0, none⟩) n c) rfl (by kernel_rfl) (by kernel_rfl) (by kernel_rfl) (fun _ _ _ h => h) (Or.inl ⟨by rfl, fun w' hSw => by ((try dsimp only at hSw); go_split_ands; go_simp)⟩) (by assumption) ?_
    (try simp only [Act.put, List.setIfInBounds_toArray, List.set_cons_zero, List.set_cons_succ])
    refine wpAnyH_take (i := 5) (oi := { dst := some 43, op := Op.move (Operand.tmp 1), type := 3, pos := "disk.go:62", after := #[], guard := none }) (v := .int .i64 k) rfl (by kernel_rfl) (by kernel_rfl) (by kernel_rfl) (fun _ _ _ h => h) (Or.inl ⟨by rfl, fun w' hSw => by ((try dsimp only at hSw); go_split_ands; go_simp)⟩) (by assumption) ?_
    (try simp only [Act.put, List.setIfInBounds_toArray, List.set_cons_zero, List.set_cons_succ])
    refine wpAnyH_take (i := 6) (oi := { dst := some 44, op := Op.indexAddr 54 (Operand.tmp 42) (Operand.tmp 43), type := 0, pos := "disk.go:62", after := #[{ on := 4, ground := Ground.data }, { on := 5, ground := Ground.data }], guard := none }) (v := .pointer (some ⟨s, k * 64, none⟩)) rfl (by kernel_rfl) (by kernel_rfl) (by kernel_rfl) (fun _ _ _ h => h) (Or.inl ⟨by rfl, fun w' hSw => by ((try dsimp only at hSw); go_split_ands; go_simp)⟩) (by assumption) ?_
    (try simp only [Act.put, List.setIfInBounds_toArray, List.set_cons_zero, List.set_cons_succ])
    refine wpAnyH_take (i := 7) (oi := { dst := some 45, op := Op.load 61 (Operand.tmp 44), type := 61, pos := "disk.go:62", after := #[{ on := 6, ground := Ground.data }], guard := none }) (v := .agg (co).toArray) rfl (by kernel_rfl) (by kernel_rfl) (by kernel_rfl) (fun _ _ _ h => h) (yieldsIf_load_mid (by rfl) _ _ rfl _ _ rfl _ _ (fun w' hSw => by ((try dsimp only at hSw); go_split_ands; assumption)) hu rfl hi) (by assumption) ?_
    (try simp only [Act.put, List.setIfInBounds_toArray, List.set_cons_zero, List.set_cons_succ])
    refine wpAnyH_take (i := 8) (oi := { dst := some 46, op := Op.move (Operand.tmp 2), type := 9, pos := "disk.go:62", after := #[], guard := none }) (v := .string (str b)) rfl (by kernel_rfl) (by kernel_rfl) (by kernel_rfl) (fun _ _ _ h => h) (Or.inl ⟨by rfl, fun w' hSw => by ((try dsimp only at hSw); go_split_ands; go_simp)⟩) (by assumption) ?_
    (try simp only [Act.put, List.setIfInBounds_toArray, List.set_cons_zero, List.set_cons_succ])
    refine wpAnyH_ready (rs := [9, 13]) (by kernel_rfl) (by simp) ?_
    refine AllReadyH.cons (o := { dst := some 47, op := Op.convert 9 49 (Operand.tmp 46), type := 49, pos := "disk.go:62", after := #[{ on := 8, ground := Ground.data }], guard := none }) rfl (fun K hK => ?_) ?_
    · go_simp
      refine hK.out _ _ ?_ (fun hHeld => ?_)
      · ((try dsimp only); (try simp only [World.rangeAt_drew, World.cell?_drew]); constructor <;> (repeat' first | assumption | (refine cell_alloc_keep ?_ _) | (refine cell_setCells_keep ?_ _ _ _ (by simp; omega)) | (refine World.rangeAt_alloc ?_ _) | (refine World.rangeAt_setCells_apart ?_ _ _ _ (by omega))))
      clear hK K
      (try simp only [Act.put, List.setIfInBounds_toArray, List.set_cons_zero, List.set_cons_succ])
      refine wpAnyH_mono (S' := (fun w' => (w'.cell? ⟨p, 0, none⟩ = some (.slice (some ⟨s, 0, none⟩) n c) ∧ w'.rangeAt s (k * 64) co) ∧ w'.rangeAt w.heap.size 0 cn)) (fun _ h => h.1) ?_
      replace hHeld := And.intro hHeld x1
      refine wpAnyH_take (i := 10) (oi := { dst := some 48, op := Op.sliceToArrayPointer 61 (Operand.tmp 47), type := 0, pos := "disk.go:62", after := #[{ on := 9, ground := Ground.data }], guard := none }) (v := .pointer (some ⟨w.heap.size, 0, none⟩)) rfl (by kernel_rfl) (by kernel_rfl) (by kernel_rfl) (fun _ _ _ h => h) (Or.inl ⟨by rfl, fun w' hSw => by ((try dsimp only at hSw); go_split_ands; exact run_next (hat _ _ _))⟩) (by assumption) ?_
      (try simp only [Act.put, List.setIfInBounds_toArray, List.set_cons_zero, List.set_cons_succ])
      refine wpAnyH_take (i := 11) (oi := { dst := some 49, op := Op.load 61 (Operand.tmp 48), type := 61, pos := "disk.go:62", after := #[{ on := 10, ground := Ground.data }], guard := none }) (v := .agg (cn).toArray) rfl (by kernel_rfl) (by kernel_rfl) (by kernel_rfl) (fun _ _ _ h => h) (yieldsIf_load_mid (by rfl) _ _ rfl _ _ rfl _ _ (fun w' hSw => by ((try dsimp only at hSw); go_split_ands; assumption)) hu rfl hi2) (by assumption) ?_
      (try simp only [Act.put, List.setIfInBounds_toArray, List.set_cons_zero, List.set_cons_succ])
      refine wpAnyH_take (i := 12) (oi := { dst := some 50, op := Op.build 63 #[(0, Operand.tmp 38), (1, Operand.tmp 45), (2, Operand.tmp 49)], type := 63, pos := "disk.go:62", after := #[{ on := 0, ground := Ground.data }, { on := 7, ground := Ground.data }, { on := 11, ground := Ground.data }], guard := none }) (v := .agg (.int .i64 (k : Int) :: (co ++ cn)).toArray) rfl (by kernel_rfl) (by kernel_rfl) (by kernel_rfl) (fun _ _ _ h => h) (Or.inl ⟨by rfl, fun w' hSw => by ((try dsimp only at hSw); go_split_ands; exact run_next ((congrArg (fun x => (Instr.build 63 x).run Try.prog w') (by (simp only [List.map_toArray, List.map_cons, List.map_nil]; rfl))).trans (hbd' _)))⟩) (by assumption) ?_
      (try simp only [Act.put, List.setIfInBounds_toArray, List.set_cons_zero, List.set_cons_succ])
      refine wpAnyH_ready (rs := [13]) (by kernel_rfl) (by simp) ?_
      refine AllReadyH.cons (o := { dst := some 8, op := Op.alloc 63, type := 0, pos := "disk.go:62", after := #[], guard := none }) rfl (fun K hK => ?_) ?_
      · go_simp
        refine hK.out _ _ ?_ (fun hHeld => ?_)
        · ((try dsimp only); (try simp only [World.rangeAt_drew, World.cell?_drew]); refine ⟨⟨?_, ?_⟩, ?_⟩ <;> (repeat' first | assumption | (refine cell_alloc_keep ?_ _) | (refine cell_setCells_keep ?_ _ _ _ (by simp; omega)) | (refine World.rangeAt_alloc ?_ _) | (refine World.rangeAt_setCells_apart ?_ _ _ _ (by omega))))
        clear hK K
        (try simp only [Act.put, List.setIfInBounds_toArray, List.set_cons_zero, List.set_cons_succ])
        refine wpAnyH_ready (rs := [14]) (by kernel_rfl) (by simp) ?_
        refine AllReadyH.cons (o := { dst := none, op := Op.store 63 (Operand.tmp 8) (Operand.tmp 50), type := 0, pos := "disk.go:62", after := #[{ on := 13, ground := Ground.data }, { on := 12, ground := Ground.data }, { on := 0, ground := Ground.phase }, { on := 1, ground := Ground.phase }, { on := 2, ground := Ground.phase }, { on := 3, ground := Ground.phase }, { on := 4, ground := Ground.phase }, { on := 5, ground := Ground.phase }, { on := 6, ground := Ground.phase }, { on := 7, ground := Ground.phase }, { on := 8, ground := Ground.phase }, { on := 9, ground := Ground.phase }, { on := 10, ground := Ground.phase }, { on := 11, ground := Ground.phase }, { on := 12, ground := Ground.phase }, { on := 13, ground := Ground.phase }], guard := none }) rfl (fun K hK => ?_) ?_
        · rw [if_pos (by rfl)]
          refine wp_store_mid _ _ _ rfl (w.heap.size + 1) 0 (List.toArray (.int .i64 (k : Int) :: (co ++ cn))) rfl rfl (by rw [hws]; exact y1) (by rw [hws]; exact size_wr) (all_oneCell_toArray hw1) ?_
          simp only [Act.put, List.toList_toArray]
          refine hK.out _ _ ?_ (fun hHeld => ?_)
          · ((try dsimp only); (try simp only [World.rangeAt_drew, World.cell?_drew]); refine ⟨⟨?_, ?_⟩, ?_⟩ <;> (repeat' first | assumption | (refine cell_alloc_keep ?_ _) | (refine cell_setCells_keep ?_ _ _ _ (by simp; omega)) | (refine World.rangeAt_alloc ?_ _) | (refine World.rangeAt_setCells_apart ?_ _ _ _ (by omega))))
          clear hK K
          (try simp only [Act.put, List.setIfInBounds_toArray, List.set_cons_zero, List.set_cons_succ])
          refine wpAnyH_done (by kernel_rfl) ?_ _
          refine NoPanic.normal ?_
          go_wp2_with fail
          go_meet
          exact ⟨w.heap.size + 1, rfl, by omega, box_out y1'.out hwl zeroW_size, below_out1 w _ _⟩
        exact AllReadyH.nil
      exact AllReadyH.nil
    refine AllReadyH.cons (o := { dst := some 8, op := Op.alloc 63, type := 0, pos := "disk.go:62", after := #[], guard := none }) rfl (fun K hK => ?_) ?_
    · go_simp
      refine hK.out _ _ ?_ (fun hHeld => ?_)
      · ((try dsimp only); (try simp only [World.rangeAt_drew, World.cell?_drew]); constructor <;> (repeat' first | assumption | (refine cell_alloc_keep ?_ _) | (refine cell_setCells_keep ?_ _ _ _ (by simp; omega)) | (refine World.rangeAt_alloc ?_ _) | (refine World.rangeAt_setCells_apart ?_ _ _ _ (by omega))))
      clear hK K
      (try simp only [Act.put, List.setIfInBounds_toArray, List.set_cons_zero, List.set_cons_succ])
      refine wpAnyH_ready (rs := [9]) (by kernel_rfl) (by simp) ?_
      refine AllReadyH.cons (o := { dst := some 47, op := Op.convert 9 49 (Operand.tmp 46), type := 49, pos := "disk.go:62", after := #[{ on := 8, ground := Ground.data }], guard := none }) rfl (fun K hK => ?_) ?_
      · go_simp
        refine hK.out _ _ ?_ (fun hHeld => ?_)
        · ((try dsimp only); (try simp only [World.rangeAt_drew, World.cell?_drew]); constructor <;> (repeat' first | assumption | (refine cell_alloc_keep ?_ _) | (refine cell_setCells_keep ?_ _ _ _ (by simp; omega)) | (refine World.rangeAt_alloc ?_ _) | (refine World.rangeAt_setCells_apart ?_ _ _ _ (by omega))))
        clear hK K
        (try simp only [Act.put, List.setIfInBounds_toArray, List.set_cons_zero, List.set_cons_succ])
        refine wpAnyH_mono (S' := (fun w' => (w'.cell? ⟨p, 0, none⟩ = some (.slice (some ⟨s, 0, none⟩) n c) ∧ w'.rangeAt s (k * 64) co) ∧ w'.rangeAt (w.heap.size + 1) 0 cn)) (fun _ h => h.1) ?_
        replace hHeld := And.intro hHeld x3
        refine wpAnyH_take (i := 10) (oi := { dst := some 48, op := Op.sliceToArrayPointer 61 (Operand.tmp 47), type := 0, pos := "disk.go:62", after := #[{ on := 9, ground := Ground.data }], guard := none }) (v := .pointer (some ⟨(w.heap.size + 1), 0, none⟩)) rfl (by kernel_rfl) (by kernel_rfl) (by kernel_rfl) (fun _ _ _ h => h) (Or.inl ⟨by rfl, fun w' hSw => by ((try dsimp only at hSw); go_split_ands; exact run_next (hat _ _ _))⟩) (by assumption) ?_
        (try simp only [Act.put, List.setIfInBounds_toArray, List.set_cons_zero, List.set_cons_succ])
        refine wpAnyH_take (i := 11) (oi := { dst := some 49, op := Op.load 61 (Operand.tmp 48), type := 61, pos := "disk.go:62", after := #[{ on := 10, ground := Ground.data }], guard := none }) (v := .agg (cn).toArray) rfl (by kernel_rfl) (by kernel_rfl) (by kernel_rfl) (fun _ _ _ h => h) (yieldsIf_load_mid (by rfl) _ _ rfl _ _ rfl _ _ (fun w' hSw => by ((try dsimp only at hSw); go_split_ands; assumption)) hu rfl hi2) (by assumption) ?_
        (try simp only [Act.put, List.setIfInBounds_toArray, List.set_cons_zero, List.set_cons_succ])
        refine wpAnyH_take (i := 12) (oi := { dst := some 50, op := Op.build 63 #[(0, Operand.tmp 38), (1, Operand.tmp 45), (2, Operand.tmp 49)], type := 63, pos := "disk.go:62", after := #[{ on := 0, ground := Ground.data }, { on := 7, ground := Ground.data }, { on := 11, ground := Ground.data }], guard := none }) (v := .agg (.int .i64 (k : Int) :: (co ++ cn)).toArray) rfl (by kernel_rfl) (by kernel_rfl) (by kernel_rfl) (fun _ _ _ h => h) (Or.inl ⟨by rfl, fun w' hSw => by ((try dsimp only at hSw); go_split_ands; exact run_next ((congrArg (fun x => (Instr.build 63 x).run Try.prog w') (by (simp only [List.map_toArray, List.map_cons, List.map_nil]; rfl))).trans (hbd' _)))⟩) (by assumption) ?_
        (try simp only [Act.put, List.setIfInBounds_toArray, List.set_cons_zero, List.set_cons_succ])
        refine wpAnyH_ready (rs := [14]) (by kernel_rfl) (by simp) ?_
        refine AllReadyH.cons (o := { dst := none, op := Op.store 63 (Operand.tmp 8) (Operand.tmp 50), type := 0, pos := "disk.go:62", after := #[{ on := 13, ground := Ground.data }, { on := 12, ground := Ground.data }, { on := 0, ground := Ground.phase }, { on := 1, ground := Ground.phase }, { on := 2, ground := Ground.phase }, { on := 3, ground := Ground.phase }, { on := 4, ground := Ground.phase }, { on := 5, ground := Ground.phase }, { on := 6, ground := Ground.phase }, { on := 7, ground := Ground.phase }, { on := 8, ground := Ground.phase }, { on := 9, ground := Ground.phase }, { on := 10, ground := Ground.phase }, { on := 11, ground := Ground.phase }, { on := 12, ground := Ground.phase }, { on := 13, ground := Ground.phase }], guard := none }) rfl (fun K hK => ?_) ?_
        · rw [if_pos (by rfl)]
          refine wp_store_mid _ _ _ rfl w.heap.size 0 (List.toArray (.int .i64 (k : Int) :: (co ++ cn))) rfl rfl (by rw [hws]; exact y2) (by rw [hws]; exact size_wr) (all_oneCell_toArray hw1) ?_
          simp only [Act.put, List.toList_toArray]
          refine hK.out _ _ ?_ (fun hHeld => ?_)
          · ((try dsimp only); (try simp only [World.rangeAt_drew, World.cell?_drew]); refine ⟨⟨?_, ?_⟩, ?_⟩ <;> (repeat' first | assumption | (refine cell_alloc_keep ?_ _) | (refine cell_setCells_keep ?_ _ _ _ (by simp; omega)) | (refine World.rangeAt_alloc ?_ _) | (refine World.rangeAt_setCells_apart ?_ _ _ _ (by omega))))
          clear hK K
          (try simp only [Act.put, List.setIfInBounds_toArray, List.set_cons_zero, List.set_cons_succ])
          refine wpAnyH_done (by kernel_rfl) ?_ _
          refine NoPanic.normal ?_
          go_wp2_with fail
          go_meet
          exact ⟨w.heap.size, rfl, Nat.le_refl _, box_out y2'.out hwl zeroW_size, below_out2 w _ _⟩
        exact AllReadyH.nil
      exact AllReadyH.nil
    exact AllReadyH.nil
  case rest =>
    clear x1 x3 y1 y1' y2' y2 hcv hat hzw hbd' hi hsec hc0 hsz
    obtain ⟨g, rfl, hg, hbox, hbelow⟩ := hcut
    have HBX := Lib.hid hbox
    have HBW := Lib.hid hbelow
    have z0 : wc.cell? ⟨p, 0, none⟩ = some (.slice (some ⟨s, 0, none⟩) n c) := by rw [hbelow.cell (p := ⟨p, 0, none⟩) hlt, HN.out]; exact HO.out.cell0
    have z1 : wc.rangeAt g 65 cn := range_mid hbox hol
    have z2 : wc.there s (k * 64) 64 := there_below hthere.out hbelow hlts
    clear hbox hbelow
    go_wp2_with fail
    go_region_held3 (fun w' => w'.cell? ⟨p, 0, none⟩ = some (.slice (some ⟨s, 0, none⟩) n c) ∧ w'.rangeAt g 65 cn ∧ w'.there s (k * 64) 64) (((try dsimp only); (try simp only [World.rangeAt_drew, World.there_drew, World.cell?_drew]); refine ⟨?_, ?_, ?_⟩ <;> (repeat' first | assumption | (refine cell_setCells_keep ?_ _ _ _ (by simp; omega)) | (refine World.there_setCells ?_ _ _ _) | (refine World.rangeAt_setCells_apart ?_ _ _ _ (by omega))))) (fail)
    clear z0 z1 z2 hi2
    go_wp2_with fail
    obtain ⟨W, hW⟩ : ∃ W, W = wc.drew.setCells s (k * 64) cn := ⟨_, rfl⟩
    rw [← hW]
    have hv1 : W.heap[p]? = w.heap[p]? := by
      rw [hW, setCells_block _ _ _ _ _ (by omega)]
      exact HBW.out.block p hlt
    have v1 : W.cell? ⟨p, 1, none⟩ = some pv := by rw [World.cell?_of_block (w := w) hv1]; exact HO.out.cell1
    have v2 : W.rangeAt g 0 (.int .i64 (k : Int) :: (co ++ cn)) := by
      refine range_all (t := 63) ?_
      rw [hW, setCells_block _ _ _ _ _ (by omega)]
      exact HBX.out
    have hgW : g < W.heap.size := by rw [hW, setCells_size]; exact (Array.getElem?_eq_some_iff.1 HBX.out).1
    have hwW : w.heap.size ≤ W.heap.size := by rw [hW, setCells_size]; exact HBW.out.size
    have hrow : (W.drew.alloc (.cells (.int .i64 (k : Int) :: (co ++ cn)).toArray 63)).ownsRow C 63 129 pv A.pend.length (pcells A.last A.pend) := by
      refine World.ownsRow.alloc ?_ _
      refine ⟨HO.out.row.1, ?_⟩
      rcases HO.out.row.2 with h1 | ⟨q, cap, cur, h1, h4, h5, h6⟩
      · exact .inl h1
      · refine .inr ⟨q, cap, cur, h1, h4, ?_, h6⟩
        have hqs : q ≠ s := fun e => HO.out.vs (by rw [h1, ← e]; rfl)
        have hqw := (Array.getElem?_eq_some_iff.1 h5).1
        show W.heap[q]? = _
        rw [hW, setCells_block _ _ _ _ _ hqs]
        exact (HBW.out.block q hqw).trans h5
    have HR := Lib.hid hrow
    have v3 : (W.alloc (.cells (.int .i64 (k : Int) :: (co ++ cn)).toArray 63)).cell? ⟨p, 1, none⟩ = some pv := cell_alloc_keep v1 _
    have HW := Lib.hid hW
    have HV1 := Lib.hid hv1
    obtain ⟨av, cv, hpv⟩ := HO.out.len
    have HPV := Lib.hid hpv
    have hbsw := fun W : World => run_bs W _ hwl
    obtain ⟨i0, hi0, hz0, hz1, hz2⟩ := info_parts info_wr
    have hCW : C ≤ W.heap.size := by have := HO.out.hp; omega
    clear hW hrow hv1 hpv
    have hiw : (Try.prog.info? 63).map (·.size) = some (.int .i64 (k : Int) :: (co ++ cn)).length := by rw [hwl]; exact size_wr
    refine wp_region_noPanic ?_
    refine wp_region_held_drew (S := (fun w' => w'.rangeAt g 0 (.int .i64 (k : Int) :: (co ++ cn)))) (by kernel_rfl) ?_ (fun hHeld => ?_)
    · ((try dsimp only); (try simp only [World.rangeAt_drew, World.cell?_drew]); (repeat' first | assumption | (refine World.rangeAt_alloc ?_ _)))
    refine wpAnyH_take (i := 0) (oi := { dst := some 59, op := Op.move (Operand.tmp 0), type := 24, pos := "disk.go:64", after := #[], guard := none }) (v := ptr p) rfl (by kernel_rfl) (by kernel_rfl) (by kernel_rfl) (fun _ _ _ h => h) (Or.inl ⟨by rfl, fun w' hSw => by ((try dsimp only at hSw); go_split_ands; go_simp)⟩) (by assumption) ?_
    (try simp only [Act.put, List.setIfInBounds_toArray, List.set_cons_zero, List.set_cons_succ])
    refine wpAnyH_take (i := 1) (oi := { dst := some 60, op := Op.move (Operand.tmp 0), type := 24, pos := "disk.go:64", after := #[], guard := none }) (v := ptr p) rfl (by kernel_rfl) (by kernel_rfl) (by kernel_rfl) (fun _ _ _ h => h) (Or.inl ⟨by rfl, fun w' hSw => by ((try dsimp only at hSw); go_split_ands; go_simp)⟩) (by assumption) ?_
    (try simp only [Act.put, List.setIfInBounds_toArray, List.set_cons_zero, List.set_cons_succ])
    refine wpAnyH_take (i := 2) (oi := { dst := some 61, op := Op.nilCheck (Operand.tmp 60), type := 0, pos := "disk.go:64", after := #[{ on := 1, ground := Ground.data }], guard := none }) (v := ptr p) rfl (by kernel_rfl) (by kernel_rfl) (by kernel_rfl) (fun _ _ _ h => h) (Or.inl ⟨by rfl, fun w' hSw => by ((try dsimp only at hSw); go_split_ands; go_simp)⟩) (by assumption) ?_
    (try simp only [Act.put, List.setIfInBounds_toArray, List.set_cons_zero, List.set_cons_succ])
    refine wpAnyH_take (i := 3) (oi := { dst := some 62, op := Op.fieldAddr 57 (Operand.tmp 61) 1, type := 0, pos := "disk.go:64", after := #[{ on := 2, ground := Ground.data }], guard := none }) (v := .pointer (some ⟨p, 1, none⟩)) rfl (by kernel_rfl) (by kernel_rfl) (by kernel_rfl) (fun _ _ _ h => h) (Or.inl ⟨by rfl, fun w' hSw => by ((try dsimp only at hSw); go_split_ands; go_simp)⟩) (by assumption) ?_
    (try simp only [Act.put, List.setIfInBounds_toArray, List.set_cons_zero, List.set_cons_succ])
    refine wpAnyH_take (i := 5) (oi := { dst := some 64, op := Op.load 63 (Operand.tmp 8), type := 63, pos := "disk.go:64", after := #[], guard := none }) (v := .agg (.int .i64 (k : Int) :: (co ++ cn)).toArray) rfl (by kernel_rfl) (by kernel_rfl) (by kernel_rfl) (fun _ _ _ h => h) (yieldsIf_load_mid (by rfl) _ _ rfl _ _ rfl _ _ (fun w' hSw => hSw) huw rfl hiw) (by assumption) ?_
    (try simp only [Act.put, List.setIfInBounds_toArray, List.set_cons_zero, List.set_cons_succ])
    refine wpAnyH_ready (rs := [4, 6]) (by kernel_rfl) (by simp) ?_
    refine AllReadyH.cons (o := { dst := some 63, op := Op.load 55 (Operand.tmp 62), type := 55, pos := "disk.go:64", after := #[{ on := 3, ground := Ground.data }], guard := none }) rfl (fun K hK => ?_) ?_
    · go_simp
      refine hK.out _ _ ?_ (fun hHeld => ?_)
      · ((try dsimp only); (try simp only [World.rangeAt_drew, World.cell?_drew]); (repeat' first | assumption | (refine World.rangeAt_alloc ?_ _)))
      clear hK K
      (try simp only [Act.put, List.setIfInBounds_toArray, List.set_cons_zero, List.set_cons_succ])
      refine wpAnyH_ready (rs := [6]) (by kernel_rfl) (by simp) ?_
      refine AllReadyH.cons (o := { dst := some 65, op := Op.buildSlice 55 1 #[(0, Operand.tmp 64)], type := 55, pos := "disk.go:64", after := #[{ on := 5, ground := Ground.data }], guard := none }) rfl (fun K hK => ?_) ?_
      · rw [if_pos (by rfl)]
        refine wp_val (run_next ((congrArg (fun x => (Instr.buildSlice 55 1 x).run Try.prog _) (show _ = (#[(0, .agg (.int .i64 (k : Int) :: (co ++ cn)).toArray)] : Array (Nat × Value)) by (simp only [List.map_toArray, List.map_cons, List.map_nil]; rfl))).trans (hbsw _))) ?_
        refine hK.out _ _ ?_ (fun hHeld => ?_)
        · ((try dsimp only); (try simp only [World.rangeAt_drew, World.cell?_drew]); (repeat' first | assumption | (refine World.rangeAt_alloc ?_ _)))
        clear hK K
        (try simp only [Act.put, List.setIfInBounds_toArray, List.set_cons_zero, List.set_cons_succ])
        refine wpAnyH_ready (rs := [7]) (by kernel_rfl) (by simp) ?_
        refine AllReadyH.cons (o := { dst := some 66, op := Op.call { callee := Callee.builtin Builtin.append, args := #[Operand.tmp 63, Operand.tmp 65], argTypes := #[55, 55] }, type := 55, pos := "disk.go:64", after := #[{ on := 4, ground := Ground.data }, { on := 6, ground := Ground.data }], guard := none }) rfl (fun K hK => ?_) ?_
        · rw [if_pos (by rfl)]
          refine wp_append_at _ _ _ 55 rfl C 63 i0 (.agg zeroW) 129 136 Try.underlying55 hi0 hz0 hz1 hz2 zeroW_size (by decide) pv A.pend.length (pcells A.last A.pend) rfl HR.out ⟨W.heap.size, 0, none⟩ 1 1 (.int .i64 (k : Int) :: (co ++ cn)) rfl (by rw [hwl]) (new_cells _ _) hw1 (by simp only [maxLen]; omega) (by omega) (by simp; omega) ?_
          intro pv' W4 hrow4 hgr4 hat4
          refine hK.out _ _ ?_ (fun hHeld => ?_)
          · exact range_grown hgr4 (World.rangeAt_alloc v2 _) (fun e => by have := (HO.out.ltv g e).2; omega)
          clear hK K
          (try simp only [Act.put, List.setIfInBounds_toArray, List.set_cons_zero, List.set_cons_succ])
          obtain ⟨av', cv', hpv'⟩ := own_slice hrow4
          have HPV' := Lib.hid hpv'
          have HR4 := Lib.hid hrow4
          have HG4 := Lib.hid hgr4
          have HA4 := Lib.hid hat4
          have q1 : W4.cell? ⟨p, 1, none⟩ = some pv := cell_grown hgr4 (cell_alloc_keep v1 _) HO.out.vp
          have q2 : W4.frozen? ⟨p, 1, none⟩ = false := free_grown hgr4 HV1.out HO.out.lt hwW (HO.out.free 1) HO.out.vp
          clear hrow4 hgr4 hat4
          subst hpv'
          refine wpAnyH_take (i := 8) (oi := { dst := some 67, op := Op.nilCheck (Operand.tmp 59), type := 0, pos := "disk.go:64", after := #[{ on := 0, ground := Ground.data }, { on := 0, ground := Ground.phase }, { on := 1, ground := Ground.phase }, { on := 2, ground := Ground.phase }, { on := 3, ground := Ground.phase }, { on := 4, ground := Ground.phase }, { on := 5, ground := Ground.phase }, { on := 6, ground := Ground.phase }, { on := 7, ground := Ground.phase }], guard := none }) (v := ptr p) rfl (by kernel_rfl) (by kernel_rfl) (by kernel_rfl) (fun _ _ _ h => h) (Or.inl ⟨by rfl, fun w' hSw => by ((try dsimp only at hSw); go_split_ands; go_simp)⟩) (by assumption) ?_
          (try simp only [Act.put, List.setIfInBounds_toArray, List.set_cons_zero, List.set_cons_succ])
          refine wpAnyH_take (i := 9) (oi := { dst := some 68, op := Op.fieldAddr 57 (Operand.tmp 67) 1, type := 0, pos := "disk.go:64", after := #[{ on := 8, ground := Ground.data }, { on := 0, ground := Ground.phase }, { on := 1, ground := Ground.phase }, { on := 2, ground := Ground.phase }, { on := 3, ground := Ground.phase }, { on := 4, ground := Ground.phase }, { on := 5, ground := Ground.phase }, { on := 6, ground := Ground.phase }, { on := 7, ground := Ground.phase }], guard := none }) (v := .pointer (some ⟨p, 1, none⟩)) rfl (by kernel_rfl) (by kernel_rfl) (by kernel_rfl) (fun _ _ _ h => h) (Or.inl ⟨by rfl, fun w' hSw => by ((try dsimp only at hSw); go_split_ands; go_simp)⟩) (by assumption) ?_
          (try simp only [Act.put, List.setIfInBounds_toArray, List.set_cons_zero, List.set_cons_succ])
          refine wpAnyH_ready (rs := [10]) (by kernel_rfl) (by simp) ?_
          refine AllReadyH.cons (o := { dst := none, op := Op.store 55 (Operand.tmp 68) (Operand.tmp 66), type := 0, pos := "disk.go:64", after := #[{ on := 9, ground := Ground.data }, { on := 7, ground := Ground.data }, { on := 7, ground := Ground.chain }, { on := 0, ground := Ground.phase }, { on := 1, ground := Ground.phase }, { on := 2, ground := Ground.phase }, { on := 3, ground := Ground.phase }, { on := 4, ground := Ground.phase }, { on := 5, ground := Ground.phase }, { on := 6, ground := Ground.phase }, { on := 7, ground := Ground.phase }], guard := none }) rfl (fun K hK => ?_) ?_
          · go_simp
            refine hK.out _ _ ?_ (fun hHeld => ?_)
            · exact range_setCell hHeld (by show p ≠ g; omega)
            clear hK K
            (try simp only [Act.put, List.setIfInBounds_toArray, List.set_cons_zero, List.set_cons_succ])
            refine wpAnyH_done (by kernel_rfl) ?_ _
            refine NoPanic.normal ?_
            go_wp2_with fail
            go_ret
            exact ⟨rfl, did_wrote HO.out HK.out HBL.out HBW.out HW.out HCO.out HCN.out HG4.out HA4.out HR4.out rfl⟩
          exact AllReadyH.nil
        exact AllReadyH.nil
      exact AllReadyH.nil
    refine AllReadyH.cons (o := { dst := some 65, op := Op.buildSlice 55 1 #[(0, Operand.tmp 64)], type := 55, pos := "disk.go:64", after := #[{ on := 5, ground := Ground.data }], guard := none }) rfl (fun K hK => ?_) ?_
    · rw [if_pos (by rfl)]
      refine wp_val (run_next ((congrArg (fun x => (Instr.buildSlice 55 1 x).run Try.prog _) (show _ = (#[(0, .agg (.int .i64 (k : Int) :: (co ++ cn)).toArray)] : Array (Nat × Value)) by (simp only [List.map_toArray, List.map_cons, List.map_nil]; rfl))).trans (hbsw _))) ?_
      refine hK.out _ _ ?_ (fun hHeld => ?_)
      · ((try dsimp only); (try simp only [World.rangeAt_drew, World.cell?_drew]); (repeat' first | assumption | (refine World.rangeAt_alloc ?_ _)))
      clear hK K
      (try simp only [Act.put, List.setIfInBounds_toArray, List.set_cons_zero, List.set_cons_succ])
      refine wpAnyH_ready (rs := [4]) (by kernel_rfl) (by simp) ?_
      refine AllReadyH.cons (o := { dst := some 63, op := Op.load 55 (Operand.tmp 62), type := 55, pos := "disk.go:64", after := #[{ on := 3, ground := Ground.data }], guard := none }) rfl (fun K hK => ?_) ?_
      · go_simp
        refine hK.out _ _ ?_ (fun hHeld => ?_)
        · ((try dsimp only); (try simp only [World.rangeAt_drew, World.cell?_drew]); (repeat' first | assumption | (refine World.rangeAt_alloc ?_ _)))
        clear hK K
        (try simp only [Act.put, List.setIfInBounds_toArray, List.set_cons_zero, List.set_cons_succ])
        refine wpAnyH_ready (rs := [7]) (by kernel_rfl) (by simp) ?_
        refine AllReadyH.cons (o := { dst := some 66, op := Op.call { callee := Callee.builtin Builtin.append, args := #[Operand.tmp 63, Operand.tmp 65], argTypes := #[55, 55] }, type := 55, pos := "disk.go:64", after := #[{ on := 4, ground := Ground.data }, { on := 6, ground := Ground.data }], guard := none }) rfl (fun K hK => ?_) ?_
        · rw [if_pos (by rfl)]
          refine wp_append_at _ _ _ 55 rfl C 63 i0 (.agg zeroW) 129 136 Try.underlying55 hi0 hz0 hz1 hz2 zeroW_size (by decide) pv A.pend.length (pcells A.last A.pend) rfl HR.out ⟨W.heap.size, 0, none⟩ 1 1 (.int .i64 (k : Int) :: (co ++ cn)) rfl (by rw [hwl]) (new_cells _ _) hw1 (by simp only [maxLen]; omega) (by omega) (by simp; omega) ?_
          intro pv' W4 hrow4 hgr4 hat4
          refine hK.out _ _ ?_ (fun hHeld => ?_)
          · exact range_grown hgr4 (World.rangeAt_alloc v2 _) (fun e => by have := (HO.out.ltv g e).2; omega)
          clear hK K
          (try simp only [Act.put, List.setIfInBounds_toArray, List.set_cons_zero, List.set_cons_succ])
          obtain ⟨av', cv', hpv'⟩ := own_slice hrow4
          have HPV' := Lib.hid hpv'
          have HR4 := Lib.hid hrow4
          have HG4 := Lib.hid hgr4
          have HA4 := Lib.hid hat4
          have q1 : W4.cell? ⟨p, 1, none⟩ = some pv := cell_grown hgr4 (cell_alloc_keep v1 _) HO.out.vp
          have q2 : W4.frozen? ⟨p, 1, none⟩ = false := free_grown hgr4 HV1.out HO.out.lt hwW (HO.out.free 1) HO.out.vp
          clear hrow4 hgr4 hat4
          subst hpv'
          refine wpAnyH_take (i := 8) (oi := { dst := some 67, op := Op.nilCheck (Operand.tmp 59), type := 0, pos := "disk.go:64", after := #[{ on := 0, ground := Ground.data }, { on := 0, ground := Ground.phase }, { on := 1, ground := Ground.phase }, { on := 2, ground := Ground.phase }, { on := 3, ground := Ground.phase }, { on := 4, ground := Ground.phase }, { on := 5, ground := Ground.phase }, { on := 6, ground := Ground.phase }, { on := 7, ground := Ground.phase }], guard := none }) (v := ptr p) rfl (by kernel_rfl) (by kernel_rfl) (by kernel_rfl) (fun _ _ _ h => h) (Or.inl ⟨by rfl, fun w' hSw => by ((try dsimp only at hSw); go_split_ands; go_simp)⟩) (by assumption) ?_
          (try simp only [Act.put, List.setIfInBounds_toArray, List.set_cons_zero, List.set_cons_succ])
          refine wpAnyH_take (i := 9) (oi := { dst := some 68, op := Op.fieldAddr 57 (Operand.tmp 67) 1, type := 0, pos := "disk.go:64", after := #[{ on := 8, ground := Ground.data }, { on := 0, ground := Ground.phase }, { on := 1, ground := Ground.phase }, { on := 2, ground := Ground.phase }, { on := 3, ground := Ground.phase }, { on := 4, ground := Ground.phase }, { on := 5, ground := Ground.phase }, { on := 6, ground := Ground.phase }, { on := 7, ground := Ground.phase }], guard := none }) (v := .pointer (some ⟨p, 1, none⟩)) rfl (by kernel_rfl) (by kernel_rfl) (by kernel_rfl) (fun _ _ _ h => h) (Or.inl ⟨by rfl, fun w' hSw => by ((try dsimp only at hSw); go_split_ands; go_simp)⟩) (by assumption) ?_
          (try simp only [Act.put, List.setIfInBounds_toArray, List.set_cons_zero, List.set_cons_succ])
          refine wpAnyH_ready (rs := [10]) (by kernel_rfl) (by simp) ?_
          refine AllReadyH.cons (o := { dst := none, op := Op.store 55 (Operand.tmp 68) (Operand.tmp 66), type := 0, pos := "disk.go:64", after := #[{ on := 9, ground := Ground.data }, { on := 7, ground := Ground.data }, { on := 7, ground := Ground.chain }, { on := 0, ground := Ground.phase }, { on := 1, ground := Ground.phase }, { on := 2, ground := Ground.phase }, { on := 3, ground := Ground.phase }, { on := 4, ground := Ground.phase }, { on := 5, ground := Ground.phase }, { on := 6, ground := Ground.phase }, { on := 7, ground := Ground.phase }], guard := none }) rfl (fun K hK => ?_) ?_
          · go_simp
            refine hK.out _ _ ?_ (fun hHeld => ?_)
            · exact range_setCell hHeld (by show p ≠ g; omega)
            clear hK K
            (try simp only [Act.put, List.setIfInBounds_toArray, List.set_cons_zero, List.set_cons_succ])
            refine wpAnyH_done (by kernel_rfl) ?_ _
            refine NoPanic.normal ?_
            go_wp2_with fail
            go_ret
            exact ⟨rfl, did_wrote HO.out HK.out HBL.out HBW.out HW.out HCO.out HCN.out HG4.out HA4.out HR4.out rfl⟩
          exact AllReadyH.nil
        exact AllReadyH.nil
      exact AllReadyH.nil
    exact AllReadyH.nil
set_option maxRecDepth 100000 in
set_option maxHeartbeats 2000000 in
theorem write_pos {v : World} {A0 : St} (hv : Own C p s c pv A0 v) (k : Nat) (b : BA) (hr0 : A0.runs = true) (hk0 : k < A0.last.length) (hb : b.length = 64) (hl : 0 < A0.left) (hm0 : A0.pend.length ≤ 1000000) :
    Calls Try.prog 17 #[ptr p, .int .i64 k, .string (str b)] v fun e w' => e = .returned (.int .i64 0) ∧ AddsP C p s c pv A0 k b v w' := by
  have hR := Lib.hid (refuse_ok hv k hr0 hk0)
  have hc3 := hv.cell3
  have hf3 := hv.free 3
  have hl2 := hv.l2
  obtain ⟨A, hA⟩ : ∃ A : St, A = { A0 with left := A0.left - 1 } := ⟨_, rfl⟩
  obtain ⟨w, hw⟩ : ∃ w, w = v.setCell ⟨p, 3, none⟩ (.int .i64 (A0.left - 1)) := ⟨_, rfl⟩
  have h : Own C p s c pv A w := by
    rw [hA, hw]
    exact hv.setHead pv _ 3 _ rfl rfl (.inl rfl) rfl hv.row hv.whole hv.fits (by show _ ≤ A0.left - 1; omega) (by show A0.left - 1 ≤ _; omega)
  have hk : k < A.last.length := by rw [hA]; exact hk0
  have hm : A.pend.length ≤ 1000000 := by rw [hA]; exact hm0
  have HA0 := Lib.hid hA
  have HW0 := Lib.hid hw
  clear hA hk0 hm0 hv hr0
  have hc0 := h.cell0
  have h2 := h.n2
  have hlt := h.lt
  have hlts := h.lts
  have hps := h.ps
  have hsec := h.sector hk
  have hthere := Lib.hid (h.there hk)
  have hol : (cb ((appl A.last A.pend).getD k [])).length = 64 := by rw [cb_length, h.lenNow hk]
  have ho1 := cb_one ((appl A.last A.pend).getD k [])
  have hb1 := cb_one b
  have hbl : (cb b).length = 64 := by rw [cb_length, hb]
  have hcv := fun W : World => convert_bytes W b hb
  have hat := fun (g cap : Nat) (W : World) => run_arrayAt (P := Try.prog) W 61 5 64 (some ⟨g, 0, none⟩) 64 cap Try.underlying61 (Nat.le_refl _)
  have hsz : (str b).size = 64 := by rw [str_size, hb]
  have HO := Lib.hid h
  have HK := Lib.hid hk
  have HBL := Lib.hid hb
  have hzw := zero_wr
  have hu := Try.underlying61
  have huw := Try.underlying63
  have hi : (Try.prog.info? 61).map (·.size) = some (cb ((appl A.last A.pend).getD k [])).length := by rw [hol]; exact size_sec
  have hi2 : (Try.prog.info? 61).map (·.size) = some (cb b).length := by rw [hbl]; exact size_sec
  clear h
  obtain ⟨n, hn⟩ : ∃ n, n = A.last.length := ⟨_, rfl⟩
  have k1 : (k : Int) < (n : Int) := by omega
  have h3 : n ≤ 10000 := by omega
  rw [← hn] at hc0
  have HN := Lib.hid hn
  clear hn h2 hk hb
  obtain ⟨co, hco⟩ : ∃ co, co = cb ((appl A.last A.pend).getD k []) := ⟨_, rfl⟩
  obtain ⟨cn, hcn⟩ : ∃ cn, cn = cb b := ⟨_, rfl⟩
  rw [← hco] at hsec hol ho1 hi
  rw [← hcn] at hbl hb1 hi2
  have hbd' := fun W : World => run_build_wr W k co cn hol hbl
  have x1 : (w.alloc (cObj w.drew b)).drew.drew.rangeAt w.heap.size 0 cn := by rw [hcn]; exact conv_in1 w b
  have x3 : ((w.alloc boxW).alloc (cObj (w.alloc boxW).drew b)).drew.drew.rangeAt (w.heap.size + 1) 0 cn := by rw [hcn]; exact conv_in3 w b
  have HCO := Lib.hid hco
  have HCN := Lib.hid hcn
  clear hco hcn
  have y1 : ((w.alloc (cObj w.drew b)).alloc boxW).drew.drew.there (w.heap.size + 1) 0 129 := box_in1 w b
  have y1' := Lib.hid (box_at1 w b)
  have y2' := Lib.hid (box_at2 w b)
  have y2 : ((w.alloc boxW).alloc (cObj (w.alloc boxW).drew b)).drew.drew.there w.heap.size 0 129 := box_in2 w b
  have hw1 : ∀ v ∈ (.int .i64 (k : Int) :: (co ++ cn)), v.oneCell' = true := fun v hv => by
    rcases List.mem_cons.1 hv with rfl | hv
    · rfl
    · rcases List.mem_append.1 hv with hv | hv
      · exact ho1 v hv
      · exact hb1 v hv
  have hwl : (.int .i64 (k : Int) :: (co ++ cn)).length = 129 := by simp [hol, hbl]
  have hws : ((.int .i64 (k : Int) :: (co ++ cn)).toArray : Array Value).size = 129 := by rw [List.size_toArray, hwl]
  have k0 : (0 : Int) ≤ (k : Int) := by omega
  have l0 : (A0.left == 0) = false := by simp; omega
  have l1 : 0 < A0.left := hl
  obtain ⟨lf, hlf⟩ : ∃ lf, lf = A0.left := ⟨_, rfl⟩
  rw [← hlf] at hc3 l0 l1 hl2 hw
  have HWW := Lib.hid hw
  clear hl hlf hw
  go_enter Try.func17, Try.ntmps17
  go_upto_region 11 with (go_at_call 31; refine hR.out.mono ?_; rintro e w' ⟨rfl, rfl⟩)
  rw [← HWW.out]
  go_cut [8] (fun s8 wx => ∃ g : Nat, s8 = .pointer (some ⟨g, 0, none⟩) ∧ w.heap.size ≤ g ∧ wx.heap[g]? = some (.cells (.int .i64 k :: (co ++ cn)).toArray 63 (0, 0)) ∧ Below w.heap.size w wx)
  case first =>
    refine wp_region_noPanic ?_
    refine wp_region_held_drew (S := (fun w' => w'.cell? ⟨p, 0, none⟩ = some (.slice (some ⟨s, 0, none⟩) n c) ∧ w'.rangeAt s (k * 64) co)) (by kernel_rfl) ?_ (fun hHeld => ?_)
    · ((try dsimp only); (try simp only [World.rangeAt_drew, World.cell?_drew]); constructor <;> (repeat' first | assumption | (refine cell_alloc_keep ?_ _) | (refine cell_setCells_keep ?_ _ _ _ (by simp; omega)) | (refine World.rangeAt_alloc ?_ _) | (refine World.rangeAt_setCells_apart ?_ _ _ _ (by omega))))
    refine wpAnyH_take (i := 0) (oi := { dst := some 38, op := Op.move (Operand.tmp 1), type := 3, pos := "disk.go:62", after := #[], guard := none }) (v := .int .i64 k) rfl (by kernel_rfl) (by kernel_rfl) (by kernel_rfl) (fun _ _ _ h => h) (Or.inl ⟨by rfl, fun w' hSw => by ((try dsimp only at hSw); go_split_ands; go_simp)⟩) (by assumption) ?_
    (try simp only [Act.put, List.setIfInBounds_toArray, List.set_cons_zero, List.set_cons_succ])
    refine wpAnyH_take (i := 1) (oi := { dst := some 39, op := Op.move (Operand.tmp 0), type := 24, pos := "disk.go:62", after := #[], guard := none }) (v := ptr p) rfl (by kernel_rfl) (by kernel_rfl) (by kernel_rfl) (fun _ _ _ h => h) (Or.inl ⟨by rfl, fun w' hSw => by ((try dsimp only at hSw); go_split_ands; go_simp)⟩) (by assumption) ?_
    (try simp only [Act.put, List.setIfInBounds_toArray, List.set_cons_zero, List.set_cons_succ])
    refine wpAnyH_take (i := 2) (oi := { dst := some 40, op := Op.nilCheck (Operand.tmp 39), type := 0, pos := "disk.go:62", after := #[{ on := 1, ground := Ground.data }], guard := none }) (v := ptr p) rfl (by kernel_rfl) (by kernel_rfl) (by kernel_rfl) (fun _ _ _ h => h) (Or.inl ⟨by rfl, fun w' hSw => by ((try dsimp only at hSw); go_split_ands; go_simp)⟩) (by assumption) ?_
    (try simp only [Act.put, List.setIfInBounds_toArray, List.set_cons_zero, List.set_cons_succ])
    refine wpAnyH_take (i := 3) (oi := { dst := some 41, op := Op.fieldAddr 57 (Operand.tmp 40) 0, type := 0, pos := "disk.go:62", after := #[{ on := 2, ground := Ground.data }], guard := none }) (v := .pointer (some ⟨p, 0, none⟩)) rfl (by kernel_rfl) (by kernel_rfl) (by kernel_rfl) (fun _ _ _ h => h) (Or.inl ⟨by rfl, fun w' hSw => by ((try dsimp only at hSw); go_split_ands; go_simp)⟩) (by assumption) ?_
    (try simp only [Act.put, List.setIfInBounds_toArray, List.set_cons_zero, List.set_cons_succ])
    refine wpAnyH_take (i := 4) (oi := { dst := some 42, op := Op.load 54 (Operand.tmp 41), type := 54, pos := "disk.go:62", after := #[{ on := 3, ground := Ground.data }], guard := none }) (v := .slice (some ⟨s, 0, none⟩) n c) rfl (by kernel_rfl) (by kernel_rfl) (by kernel_rfl) (fun _ _ _ h => h) (Or.inl ⟨by rfl, fun w' hSw => by ((try dsimp only at hSw); go_split_ands; go_simp)⟩) (by assumption) ?_
    (try simp only [Act.put, List.setIfInBounds_toArray, List.set_cons_zero, List.set_cons_succ])
    refine wpAnyH_take (i := 5) (oi := { dst := some 43, op := Op.move (Operand.tmp 1), type := 3, pos := "disk.go:62", after := #[], guard := none }) (v := .int .i64 k) rfl (by kernel_rfl) (by kernel_rfl) (by kernel_rfl) (fun _ _ _ h => h) (Or.inl ⟨by rfl, fun w' hSw => by ((try dsimp only at hSw); go_split_ands; go_simp)⟩) (by assumption) ?_
    (try simp only [Act.put, List.setIfInBounds_toArray, List.set_cons_zero, List.set_cons_succ])
    refine wpAnyH_take (i := 6) (oi := { dst := some 44, op := Op.indexAddr 54 (Operand.tmp 42) (Operand.tmp 43), type := 0, pos := "disk.go:62", after := #[{ on := 4, ground := Ground.data }, { on := 5, ground := Ground.data }], guard := none }) (v := .pointer (some ⟨s, k * 64, none⟩)) rfl (by kernel_rfl) (by kernel_rfl) (by kernel_rfl) (fun _ _ _ h => h) (Or.inl ⟨by rfl, fun w' hSw => by ((try dsimp only at hSw); go_split_ands; go_simp)⟩) (by assumption) ?_
    (try simp only [Act.put, List.setIfInBounds_toArray, List.set_cons_zero, List.set_cons_succ])
    refine wpAnyH_take (i := 7) (oi := { dst := some 45, op := Op.load 61 (Operand.tmp 44), type := 61, pos := "disk.go:62", after := #[{ on := 6, ground := Ground.data }], guard := none }) (v := .agg (co).toArray) rfl (by kernel_rfl) (by kernel_rfl) (by kernel_rfl) (fun _ _ _ h => h) (yieldsIf_load_mid (by rfl) _ _ rfl _ _ rfl _ _ (fun w' hSw => by ((try dsimp only at hSw); go_split_ands; assumption)) hu rfl hi) (by assumption) ?_
    (try simp only [Act.put, List.setIfInBounds_toArray, List.set_cons_zero, List.set_cons_succ])
    refine wpAnyH_take (i := 8) (oi := { dst := some 46, op := Op.move (Operand.tmp 2), type := 9, pos := "disk.go:62", after := #[], guard := none }) (v := .string (str b)) rfl (by kernel_rfl) (by kernel_rfl) (by kernel_rfl) (fun _ _ _ h => h) (Or.inl ⟨by rfl, fun w' hSw => by ((try dsimp only at hSw); go_split_ands; go_simp)⟩) (by assumption) ?_
    (try simp only [Act.put, List.setIfInBounds_toArray, List.set_cons_zero, List.set_cons_succ])
    refine wpAnyH_ready (rs := [9, 13]) (by kernel_rfl) (by simp) ?_
    refine AllReadyH.cons (o := { dst := some 47, op := Op.convert 9 49 (Operand.tmp 46), type := 49, pos := "disk.go:62", after := #[{ on := 8, ground := Ground.data }], guard := none }) rfl (fun K hK => ?_) ?_
    · go_simp
      refine hK.out _ _ ?_ (fun hHeld => ?_)
      · ((try dsimp only); (try simp only [World.rangeAt_drew, World.cell?_drew]); constructor <;> (repeat' first | assumption | (refine cell_alloc_keep ?_ _) | (refine cell_setCells_keep ?_ _ _ _ (by simp; omega)) | (refine World.rangeAt_alloc ?_ _) | (refine World.rangeAt_setCells_apart ?_ _ _ _ (by omega))))
      clear hK K
      (try simp only [Act.put, List.setIfInBounds_toArray, List.set_cons_zero, List.set_cons_succ])
      refine wpAnyH_mono (S' := (fun w' => (w'.cell? ⟨p, 0, none⟩ = some (.slice (some ⟨s, 0, none⟩) n c) ∧ w'.rangeAt s (k * 64) co) ∧ w'.rangeAt w.heap.size 0 cn)) (fun _ h => h.1) ?_
      replace hHeld := And.intro hHeld x1
      refine wpAnyH_take (i := 10) (oi := { dst := some 48, op := Op.sliceToArrayPointer 61 (Operand.tmp 47), type := 0, pos := "disk.go:62", after := #[{ on := 9, ground := Ground.data }], guard := none }) (v := .pointer (some ⟨w.heap.size, 0, none⟩)) rfl (by kernel_rfl) (by kernel_rfl) (by kernel_rfl) (fun _ _ _ h => h) (Or.inl ⟨by rfl, fun w' hSw => by ((try dsimp only at hSw); go_split_ands; exact run_next (hat _ _ _))⟩) (by assumption) ?_
      (try simp only [Act.put, List.setIfInBounds_toArray, List.set_cons_zero, List.set_cons_succ])
      refine wpAnyH_take (i := 11) (oi := { dst := some 49, op := Op.load 61 (Operand.tmp 48), type := 61, pos := "disk.go:62", after := #[{ on := 10, ground := Ground.data }], guard := none }) (v := .agg (cn).toArray) rfl (by kernel_rfl) (by kernel_rfl) (by kernel_rfl) (fun _ _ _ h => h) (yieldsIf_load_mid (by rfl) _ _ rfl _ _ rfl _ _ (fun w' hSw => by ((try dsimp only at hSw); go_split_ands; assumption)) hu rfl hi2) (by assumption) ?_
      (try simp only [Act.put, List.setIfInBounds_toArray, List.set_cons_zero, List.set_cons_succ])
      refine wpAnyH_take (i := 12) (oi := { dst := some 50, op := Op.build 63 #[(0, Operand.tmp 38), (1, Operand.tmp 45), (2, Operand.tmp 49)], type := 63, pos := "disk.go:62", after := #[{ on := 0, ground := Ground.data }, { on := 7, ground := Ground.data }, { on := 11, ground := Ground.data }], guard := none }) (v := .agg (.int .i64 (k : Int) :: (co ++ cn)).toArray) rfl (by kernel_rfl) (by kernel_rfl) (by kernel_rfl) (fun _ _ _ h => h) (Or.inl ⟨by rfl, fun w' hSw => by ((try dsimp only at hSw); go_split_ands; exact run_next ((congrArg (fun x => (Instr.build 63 x).run Try.prog w') (by (simp only [List.map_toArray, List.map_cons, List.map_nil]; rfl))).trans (hbd' _)))⟩) (by assumption) ?_
      (try simp only [Act.put, List.setIfInBounds_toArray, List.set_cons_zero, List.set_cons_succ])
      refine wpAnyH_ready (rs := [13]) (by kernel_rfl) (by simp) ?_
      refine AllReadyH.cons (o := { dst := some 8, op := Op.alloc 63, type := 0, pos := "disk.go:62", after := #[], guard := none }) rfl (fun K hK => ?_) ?_
      · go_simp
        refine hK.out _ _ ?_ (fun hHeld => ?_)
        · ((try dsimp only); (try simp only [World.rangeAt_drew, World.cell?_drew]); refine ⟨⟨?_, ?_⟩, ?_⟩ <;> (repeat' first | assumption | (refine cell_alloc_keep ?_ _) | (refine cell_setCells_keep ?_ _ _ _ (by simp; omega)) | (refine World.rangeAt_alloc ?_ _) | (refine World.rangeAt_setCells_apart ?_ _ _ _ (by omega))))
        clear hK K
        (try simp only [Act.put, List.setIfInBounds_toArray, List.set_cons_zero, List.set_cons_succ])
        refine wpAnyH_ready (rs := [14]) (by kernel_rfl) (by simp) ?_
        refine AllReadyH.cons (o := { dst := none, op := Op.store 63 (Operand.tmp 8) (Operand.tmp 50), type := 0, pos := "disk.go:62", after := #[{ on := 13, ground := Ground.data }, { on := 12, ground := Ground.data }, { on := 0, ground := Ground.phase }, { on := 1, ground := Ground.phase }, { on := 2, ground := Ground.phase }, { on := 3, ground := Ground.phase }, { on := 4, ground := Ground.phase }, { on := 5, ground := Ground.phase }, { on := 6, ground := Ground.phase }, { on := 7, ground := Ground.phase }, { on := 8, ground := Ground.phase }, { on := 9, ground := Ground.phase }, { on := 10, ground := Ground.phase }, { on := 11, ground := Ground.phase }, { on := 12, ground := Ground.phase }, { on := 13, ground := Ground.phase }], guard := none }) rfl (fun K hK => ?_) ?_
        · rw [if_pos (by rfl)]
          refine wp_store_mid _ _ _ rfl (w.heap.size + 1) 0 (List.toArray (.int .i64 (k : Int) :: (co ++ cn))) rfl rfl (by rw [hws]; exact y1) (by rw [hws]; exact size_wr) (all_oneCell_toArray hw1) ?_
          simp only [Act.put, List.toList_toArray]
          refine hK.out _ _ ?_ (fun hHeld => ?_)
          · ((try dsimp only); (try simp only [World.rangeAt_drew, World.cell?_drew]); refine ⟨⟨?_, ?_⟩, ?_⟩ <;> (repeat' first | assumption | (refine cell_alloc_keep ?_ _) | (refine cell_setCells_keep ?_ _ _ _ (by simp; omega)) | (refine World.rangeAt_alloc ?_ _) | (refine World.rangeAt_setCells_apart ?_ _ _ _ (by omega))))
          clear hK K
          (try simp only [Act.put, List.setIfInBounds_toArray, List.set_cons_zero, List.set_cons_succ])
          refine wpAnyH_done (by kernel_rfl) ?_ _
          refine NoPanic.normal ?_
          go_wp2_with fail
          go_meet
          exact ⟨w.heap.size + 1, rfl, by omega, box_out y1'.out hwl zeroW_size, below_out1 w _ _⟩
        exact AllReadyH.nil
      exact AllReadyH.nil
    refine AllReadyH.cons (o := { dst := some 8, op := Op.alloc 63, type := 0, pos := "disk.go:62", after := #[], guard := none }) rfl (fun K hK => ?_) ?_
    · go_simp
      refine hK.out _ _ ?_ (fun hHeld => ?_)
      · ((try dsimp only); (try simp only [World.rangeAt_drew, World.cell?_drew]); constructor <;> (repeat' first | assumption | (refine cell_alloc_keep ?_ _) | (refine cell_setCells_keep ?_ _ _ _ (by simp; omega)) | (refine World.rangeAt_alloc ?_ _) | (refine World.rangeAt_setCells_apart ?_ _ _ _ (by omega))))
      clear hK K
      (try simp only [Act.put, List.setIfInBounds_toArray, List.set_cons_zero, List.set_cons_succ])
      refine wpAnyH_ready (rs := [9]) (by kernel_rfl) (by simp) ?_
      refine AllReadyH.cons (o := { dst := some 47, op := Op.convert 9 49 (Operand.tmp 46), type := 49, pos := "disk.go:62", after := #[{ on := 8, ground := Ground.data }], guard := none }) rfl (fun K hK => ?_) ?_
      · go_simp
        refine hK.out _ _ ?_ (fun hHeld => ?_)
        · ((try dsimp only); (try simp only [World.rangeAt_drew, World.cell?_drew]); constructor <;> (repeat' first | assumption | (refine cell_alloc_keep ?_ _) | (refine cell_setCells_keep ?_ _ _ _ (by simp; omega)) | (refine World.rangeAt_alloc ?_ _) | (refine World.rangeAt_setCells_apart ?_ _ _ _ (by omega))))
        clear hK K
        (try simp only [Act.put, List.setIfInBounds_toArray, List.set_cons_zero, List.set_cons_succ])
        refine wpAnyH_mono (S' := (fun w' => (w'.cell? ⟨p, 0, none⟩ = some (.slice (some ⟨s, 0, none⟩) n c) ∧ w'.rangeAt s (k * 64) co) ∧ w'.rangeAt (w.heap.size + 1) 0 cn)) (fun _ h => h.1) ?_
        replace hHeld := And.intro hHeld x3
        refine wpAnyH_take (i := 10) (oi := { dst := some 48, op := Op.sliceToArrayPointer 61 (Operand.tmp 47), type := 0, pos := "disk.go:62", after := #[{ on := 9, ground := Ground.data }], guard := none }) (v := .pointer (some ⟨(w.heap.size + 1), 0, none⟩)) rfl (by kernel_rfl) (by kernel_rfl) (by kernel_rfl) (fun _ _ _ h => h) (Or.inl ⟨by rfl, fun w' hSw => by ((try dsimp only at hSw); go_split_ands; exact run_next (hat _ _ _))⟩) (by assumption) ?_
        (try simp only [Act.put, List.setIfInBounds_toArray, List.set_cons_zero, List.set_cons_succ])
        refine wpAnyH_take (i := 11) (oi := { dst := some 49, op := Op.load 61 (Operand.tmp 48), type := 61, pos := "disk.go:62", after := #[{ on := 10, ground := Ground.data }], guard := none }) (v := .agg (cn).toArray) rfl (by kernel_rfl) (by kernel_rfl) (by kernel_rfl) (fun _ _ _ h => h) (yieldsIf_load_mid (by rfl) _ _ rfl _ _ rfl _ _ (fun w' hSw => by ((try dsimp only at hSw); go_split_ands; assumption)) hu rfl hi2) (by assumption) ?_
        (try simp only [Act.put, List.setIfInBounds_toArray, List.set_cons_zero, List.set_cons_succ])
        refine wpAnyH_take (i := 12) (oi := { dst := some 50, op := Op.build 63 #[(0, Operand.tmp 38), (1, Operand.tmp 45), (2, Operand.tmp 49)], type := 63, pos := "disk.go:62", after := #[{ on := 0, ground := Ground.data }, { on := 7, ground := Ground.data }, { on := 11, ground := Ground.data }], guard := none }) (v := .agg (.int .i64 (k : Int) :: (co ++ cn)).toArray) rfl (by kernel_rfl) (by kernel_rfl) (by kernel_rfl) (fun _ _ _ h => h) (Or.inl ⟨by rfl, fun w' hSw => by ((try dsimp only at hSw); go_split_ands; exact run_next ((congrArg (fun x => (Instr.build 63 x).run Try.prog w') (by (simp only [List.map_toArray, List.map_cons, List.map_nil]; rfl))).trans (hbd' _)))⟩) (by assumption) ?_
        (try simp only [Act.put, List.setIfInBounds_toArray, List.set_cons_zero, List.set_cons_succ])
        refine wpAnyH_ready (rs := [14]) (by kernel_rfl) (by simp) ?_
        refine AllReadyH.cons (o := { dst := none, op := Op.store 63 (Operand.tmp 8) (Operand.tmp 50), type := 0, pos := "disk.go:62", after := #[{ on := 13, ground := Ground.data }, { on := 12, ground := Ground.data }, { on := 0, ground := Ground.phase }, { on := 1, ground := Ground.phase }, { on := 2, ground := Ground.phase }, { on := 3, ground := Ground.phase }, { on := 4, ground := Ground.phase }, { on := 5, ground := Ground.phase }, { on := 6, ground := Ground.phase }, { on := 7, ground := Ground.phase }, { on := 8, ground := Ground.phase }, { on := 9, ground := Ground.phase }, { on := 10, ground := Ground.phase }, { on := 11, ground := Ground.phase }, { on := 12, ground := Ground.phase }, { on := 13, ground := Ground.phase }], guard := none }) rfl (fun K hK => ?_) ?_
        · rw [if_pos (by rfl)]
          refine wp_store_mid _ _ _ rfl w.heap.size 0 (List.toArray (.int .i64 (k : Int) :: (co ++ cn))) rfl rfl (by rw [hws]; exact y2) (by rw [hws]; exact size_wr) (all_oneCell_toArray hw1) ?_
          simp only [Act.put, List.toList_toArray]
          refine hK.out _ _ ?_ (fun hHeld => ?_)
          · ((try dsimp only); (try simp only [World.rangeAt_drew, World.cell?_drew]); refine ⟨⟨?_, ?_⟩, ?_⟩ <;> (repeat' first | assumption | (refine cell_alloc_keep ?_ _) | (refine cell_setCells_keep ?_ _ _ _ (by simp; omega)) | (refine World.rangeAt_alloc ?_ _) | (refine World.rangeAt_setCells_apart ?_ _ _ _ (by omega))))
          clear hK K
          (try simp only [Act.put, List.setIfInBounds_toArray, List.set_cons_zero, List.set_cons_succ])
          refine wpAnyH_done (by kernel_rfl) ?_ _
          refine NoPanic.normal ?_
          go_wp2_with fail
          go_meet
          exact ⟨w.heap.size, rfl, Nat.le_refl _, box_out y2'.out hwl zeroW_size, below_out2 w _ _⟩
        exact AllReadyH.nil
      exact AllReadyH.nil
    exact AllReadyH.nil
  case rest =>
    clear x1 x3 y1 y1' y2' y2 hcv hat hzw hbd' hi hsec hc0 hsz
    obtain ⟨g, rfl, hg, hbox, hbelow⟩ := hcut
    have HBX := Lib.hid hbox
    have HBW := Lib.hid hbelow
    have z0 : wc.cell? ⟨p, 0, none⟩ = some (.slice (some ⟨s, 0, none⟩) n c) := by rw [hbelow.cell (p := ⟨p, 0, none⟩) hlt, HN.out]; exact HO.out.cell0
    have z1 : wc.rangeAt g 65 cn := range_mid hbox hol
    have z2 : wc.there s (k * 64) 64 := there_below hthere.out hbelow hlts
    clear hbox hbelow
    go_wp2_with fail
    go_region_held3 (fun w' => w'.cell? ⟨p, 0, none⟩ = some (.slice (some ⟨s, 0, none⟩) n c) ∧ w'.rangeAt g 65 cn ∧ w'.there s (k * 64) 64) (((try dsimp only); (try simp only [World.rangeAt_drew, World.there_drew, World.cell?_drew]); refine ⟨?_, ?_, ?_⟩ <;> (repeat' first | assumption | (refine cell_setCells_keep ?_ _ _ _ (by simp; omega)) | (refine World.there_setCells ?_ _ _ _) | (refine World.rangeAt_setCells_apart ?_ _ _ _ (by omega))))) (fail)
    clear z0 z1 z2 hi2
    go_wp2_with fail
    obtain ⟨W, hW⟩ : ∃ W, W = wc.drew.setCells s (k * 64) cn := ⟨_, rfl⟩
    rw [← hW]
    have hv1 : W.heap[p]? = w.heap[p]? := by
      rw [hW, setCells_block _ _ _ _ _ (by omega)]
      exact HBW.out.block p hlt
    have v1 : W.cell? ⟨p, 1, none⟩ = some pv := by rw [World.cell?_of_block (w := w) hv1]; exact HO.out.cell1
    have v2 : W.rangeAt g 0 (.int .i64 (k : Int) :: (co ++ cn)) := by
      refine range_all (t := 63) ?_
      rw [hW, setCells_block _ _ _ _ _ (by omega)]
      exact HBX.out
    have hgW : g < W.heap.size := by rw [hW, setCells_size]; exact (Array.getElem?_eq_some_iff.1 HBX.out).1
    have hwW : w.heap.size ≤ W.heap.size := by rw [hW, setCells_size]; exact HBW.out.size
    have hrow : (W.drew.alloc (.cells (.int .i64 (k : Int) :: (co ++ cn)).toArray 63)).ownsRow C 63 129 pv A.pend.length (pcells A.last A.pend) := by
      refine World.ownsRow.alloc ?_ _
      refine ⟨HO.out.row.1, ?_⟩
      rcases HO.out.row.2 with h1 | ⟨q, cap, cur, h1, h4, h5, h6⟩
      · exact .inl h1
      · refine .inr ⟨q, cap, cur, h1, h4, ?_, h6⟩
        have hqs : q ≠ s := fun e => HO.out.vs (by rw [h1, ← e]; rfl)
        have hqw := (Array.getElem?_eq_some_iff.1 h5).1
        show W.heap[q]? = _
        rw [hW, setCells_block _ _ _ _ _ hqs]
        exact (HBW.out.block q hqw).trans h5
    have HR := Lib.hid hrow
    have v3 : (W.alloc (.cells (.int .i64 (k : Int) :: (co ++ cn)).toArray 63)).cell? ⟨p, 1, none⟩ = some pv := cell_alloc_keep v1 _
    have HW := Lib.hid hW
    have HV1 := Lib.hid hv1
    obtain ⟨av, cv, hpv⟩ := HO.out.len
    have HPV := Lib.hid hpv
    have hbsw := fun W : World => run_bs W _ hwl
    obtain ⟨i0, hi0, hz0, hz1, hz2⟩ := info_parts info_wr
    have hCW : C ≤ W.heap.size := by have := HO.out.hp; omega
    clear hW hrow hv1 hpv
    have hiw : (Try.prog.info? 63).map (·.size) = some (.int .i64 (k : Int) :: (co ++ cn)).length := by rw [hwl]; exact size_wr
    refine wp_region_noPanic ?_
    refine wp_region_held_drew (S := (fun w' => w'.rangeAt g 0 (.int .i64 (k : Int) :: (co ++ cn)))) (by kernel_rfl) ?_ (fun hHeld => ?_)
    · ((try dsimp only); (try simp only [World.rangeAt_drew, World.cell?_drew]); (repeat' first | assumption | (refine World.rangeAt_alloc ?_ _)))
    refine wpAnyH_take (i := 0) (oi := { dst := some 59, op := Op.move (Operand.tmp 0), type := 24, pos := "disk.go:64", after := #[], guard := none }) (v := ptr p) rfl (by kernel_rfl) (by kernel_rfl) (by kernel_rfl) (fun _ _ _ h => h) (Or.inl ⟨by rfl, fun w' hSw => by ((try dsimp only at hSw); go_split_ands; go_simp)⟩) (by assumption) ?_
    (try simp only [Act.put, List.setIfInBounds_toArray, List.set_cons_zero, List.set_cons_succ])
    refine wpAnyH_take (i := 1) (oi := { dst := some 60, op := Op.move (Operand.tmp 0), type := 24, pos := "disk.go:64", after := #[], guard := none }) (v := ptr p) rfl (by kernel_rfl) (by kernel_rfl) (by kernel_rfl) (fun _ _ _ h => h) (Or.inl ⟨by rfl, fun w' hSw => by ((try dsimp only at hSw); go_split_ands; go_simp)⟩) (by assumption) ?_
    (try simp only [Act.put, List.setIfInBounds_toArray, List.set_cons_zero, List.set_cons_succ])
    refine wpAnyH_take (i := 2) (oi := { dst := some 61, op := Op.nilCheck (Operand.tmp 60), type := 0, pos := "disk.go:64", after := #[{ on := 1, ground := Ground.data }], guard := none }) (v := ptr p) rfl (by kernel_rfl) (by kernel_rfl) (by kernel_rfl) (fun _ _ _ h => h) (Or.inl ⟨by rfl, fun w' hSw => by ((try dsimp only at hSw); go_split_ands; go_simp)⟩) (by assumption) ?_
    (try simp only [Act.put, List.setIfInBounds_toArray, List.set_cons_zero, List.set_cons_succ])
    refine wpAnyH_take (i := 3) (oi := { dst := some 62, op := Op.fieldAddr 57 (Operand.tmp 61) 1, type := 0, pos := "disk.go:64", after := #[{ on := 2, ground := Ground.data }], guard := none }) (v := .pointer (some ⟨p, 1, none⟩)) rfl (by kernel_rfl) (by kernel_rfl) (by kernel_rfl) (fun _ _ _ h => h) (Or.inl ⟨by rfl, fun w' hSw => by ((try dsimp only at hSw); go_split_ands; go_simp)⟩) (by assumption) ?_
    (try simp only [Act.put, List.setIfInBounds_toArray, List.set_cons_zero, List.set_cons_succ])
    refine wpAnyH_take (i := 5) (oi := { dst := some 64, op := Op.load 63 (Operand.tmp 8), type := 63, pos := "disk.go:64", after := #[], guard := none }) (v := .agg (.int .i64 (k : Int) :: (co ++ cn)).toArray) rfl (by kernel_rfl) (by kernel_rfl) (by kernel_rfl) (fun _ _ _ h => h) (yieldsIf_load_mid (by rfl) _ _ rfl _ _ rfl _ _ (fun w' hSw => hSw) huw rfl hiw) (by assumption) ?_
    (try simp only [Act.put, List.setIfInBounds_toArray, List.set_cons_zero, List.set_cons_succ])
    refine wpAnyH_ready (rs := [4, 6]) (by kernel_rfl) (by simp) ?_
    refine AllReadyH.cons (o := { dst := some 63, op := Op.load 55 (Operand.tmp 62), type := 55, pos := "disk.go:64", after := #[{ on := 3, ground := Ground.data }], guard := none }) rfl (fun K hK => ?_) ?_
    · go_simp
      refine hK.out _ _ ?_ (fun hHeld => ?_)
      · ((try dsimp only); (try simp only [World.rangeAt_drew, World.cell?_drew]); (repeat' first | assumption | (refine World.rangeAt_alloc ?_ _)))
      clear hK K
      (try simp only [Act.put, List.setIfInBounds_toArray, List.set_cons_zero, List.set_cons_succ])
      refine wpAnyH_ready (rs := [6]) (by kernel_rfl) (by simp) ?_
      refine AllReadyH.cons (o := { dst := some 65, op := Op.buildSlice 55 1 #[(0, Operand.tmp 64)], type := 55, pos := "disk.go:64", after := #[{ on := 5, ground := Ground.data }], guard := none }) rfl (fun K hK => ?_) ?_
      · rw [if_pos (by rfl)]
        refine wp_val (run_next ((congrArg (fun x => (Instr.buildSlice 55 1 x).run Try.prog _) (show _ = (#[(0, .agg (.int .i64 (k : Int) :: (co ++ cn)).toArray)] : Array (Nat × Value)) by (simp only [List.map_toArray, List.map_cons, List.map_nil]; rfl))).trans (hbsw _))) ?_
        refine hK.out _ _ ?_ (fun hHeld => ?_)
        · ((try dsimp only); (try simp only [World.rangeAt_drew, World.cell?_drew]); (repeat' first | assumption | (refine World.rangeAt_alloc ?_ _)))
        clear hK K
        (try simp only [Act.put, List.setIfInBounds_toArray, List.set_cons_zero, List.set_cons_succ])
        refine wpAnyH_ready (rs := [7]) (by kernel_rfl) (by simp) ?_
        refine AllReadyH.cons (o := { dst := some 66, op := Op.call { callee := Callee.builtin Builtin.append, args := #[Operand.tmp 63, Operand.tmp 65], argTypes := #[55, 55] }, type := 55, pos := "disk.go:64", after := #[{ on := 4, ground := Ground.data }, { on := 6, ground := Ground.data }], guard := none }) rfl (fun K hK => ?_) ?_
        · rw [if_pos (by rfl)]
          refine wp_append_at _ _ _ 55 rfl C 63 i0 (.agg zeroW) 129 136 Try.underlying55 hi0 hz0 hz1 hz2 zeroW_size (by decide) pv A.pend.length (pcells A.last A.pend) rfl HR.out ⟨W.heap.size, 0, none⟩ 1 1 (.int .i64 (k : Int) :: (co ++ cn)) rfl (by rw [hwl]) (new_cells _ _) hw1 (by simp only [maxLen]; omega) (by omega) (by simp; omega) ?_
          intro pv' W4 hrow4 hgr4 hat4
          refine hK.out _ _ ?_ (fun hHeld => ?_)
          · exact range_grown hgr4 (World.rangeAt_alloc v2 _) (fun e => by have := (HO.out.ltv g e).2; omega)
          clear hK K
          (try simp only [Act.put, List.setIfInBounds_toArray, List.set_cons_zero, List.set_cons_succ])
          obtain ⟨av', cv', hpv'⟩ := own_slice hrow4
          have HPV' := Lib.hid hpv'
          have HR4 := Lib.hid hrow4
          have HG4 := Lib.hid hgr4
          have HA4 := Lib.hid hat4
          have q1 : W4.cell? ⟨p, 1, none⟩ = some pv := cell_grown hgr4 (cell_alloc_keep v1 _) HO.out.vp
          have q2 : W4.frozen? ⟨p, 1, none⟩ = false := free_grown hgr4 HV1.out HO.out.lt hwW (HO.out.free 1) HO.out.vp
          clear hrow4 hgr4 hat4
          subst hpv'
          refine wpAnyH_take (i := 8) (oi := { dst := some 67, op := Op.nilCheck (Operand.tmp 59), type := 0, pos := "disk.go:64", after := #[{ on := 0, ground := Ground.data }, { on := 0, ground := Ground.phase }, { on := 1, ground := Ground.phase }, { on := 2, ground := Ground.phase }, { on := 3, ground := Ground.phase }, { on := 4, ground := Ground.phase }, { on := 5, ground := Ground.phase }, { on := 6, ground := Ground.phase }, { on := 7, ground := Ground.phase }], guard := none }) (v := ptr p) rfl (by kernel_rfl) (by kernel_rfl) (by kernel_rfl) (fun _ _ _ h => h) (Or.inl ⟨by rfl, fun w' hSw => by ((try dsimp only at hSw); go_split_ands; go_simp)⟩) (by assumption) ?_
          (try simp only [Act.put, List.setIfInBounds_toArray, List.set_cons_zero, List.set_cons_succ])
          refine wpAnyH_take (i := 9) (oi := { dst := some 68, op := Op.fieldAddr 57 (Operand.tmp 67) 1, type := 0, pos := "disk.go:64", after := #[{ on := 8, ground := Ground.data }, { on := 0, ground := Ground.phase }, { on := 1, ground := Ground.phase }, { on := 2, ground := Ground.phase }, { on := 3, ground := Ground.phase }, { on := 4, ground := Ground.phase }, { on := 5, ground := Ground.phase }, { on := 6, ground := Ground.phase }, { on := 7, ground := Ground.phase }], guard := none }) (v := .pointer (some ⟨p, 1, none⟩)) rfl (by kernel_rfl) (by kernel_rfl) (by kernel_rfl) (fun _ _ _ h => h) (Or.inl ⟨by rfl, fun w' hSw => by ((try dsimp only at hSw); go_split_ands; go_simp)⟩) (by assumption) ?_
          (try simp only [Act.put, List.setIfInBounds_toArray, List.set_cons_zero, List.set_cons_succ])
          refine wpAnyH_ready (rs := [10]) (by kernel_rfl) (by simp) ?_
          refine AllReadyH.cons (o := { dst := none, op := Op.store 55 (Operand.tmp 68) (Operand.tmp 66), type := 0, pos := "disk.go:64", after := #[{ on := 9, ground := Ground.data }, { on := 7, ground := Ground.data }, { on := 7, ground := Ground.chain }, { on := 0, ground := Ground.phase }, { on := 1, ground := Ground.phase }, { on := 2, ground := Ground.phase }, { on := 3, ground := Ground.phase }, { on := 4, ground := Ground.phase }, { on := 5, ground := Ground.phase }, { on := 6, ground := Ground.phase }, { on := 7, ground := Ground.phase }], guard := none }) rfl (fun K hK => ?_) ?_
          · go_simp
            refine hK.out _ _ ?_ (fun hHeld => ?_)
            · exact range_setCell hHeld (by show p ≠ g; omega)
            clear hK K
            (try simp only [Act.put, List.setIfInBounds_toArray, List.set_cons_zero, List.set_cons_succ])
            refine wpAnyH_done (by kernel_rfl) ?_ _
            refine NoPanic.normal ?_
            go_wp2_with fail
            go_ret
            exact ⟨rfl, addsP_of HA0.out HW0.out (did_wrote HO.out HK.out HBL.out HBW.out HW.out HCO.out HCN.out HG4.out HA4.out HR4.out rfl)⟩
          exact AllReadyH.nil
        exact AllReadyH.nil
      exact AllReadyH.nil
    refine AllReadyH.cons (o := { dst := some 65, op := Op.buildSlice 55 1 #[(0, Operand.tmp 64)], type := 55, pos := "disk.go:64", after := #[{ on := 5, ground := Ground.data }], guard := none }) rfl (fun K hK => ?_) ?_
    · rw [if_pos (by rfl)]
      refine wp_val (run_next ((congrArg (fun x => (Instr.buildSlice 55 1 x).run Try.prog _) (show _ = (#[(0, .agg (.int .i64 (k : Int) :: (co ++ cn)).toArray)] : Array (Nat × Value)) by (simp only [List.map_toArray, List.map_cons, List.map_nil]; rfl))).trans (hbsw _))) ?_
      refine hK.out _ _ ?_ (fun hHeld => ?_)
      · ((try dsimp only); (try simp only [World.rangeAt_drew, World.cell?_drew]); (repeat' first | assumption | (refine World.rangeAt_alloc ?_ _)))
      clear hK K
      (try simp only [Act.put, List.setIfInBounds_toArray, List.set_cons_zero, List.set_cons_succ])
      refine wpAnyH_ready (rs := [4]) (by kernel_rfl) (by simp) ?_
      refine AllReadyH.cons (o := { dst := some 63, op := Op.load 55 (Operand.tmp 62), type := 55, pos := "disk.go:64", after := #[{ on := 3, ground := Ground.data }], guard := none }) rfl (fun K hK => ?_) ?_
      · go_simp
        refine hK.out _ _ ?_ (fun hHeld => ?_)
        · ((try dsimp only); (try simp only [World.rangeAt_drew, World.cell?_drew]); (repeat' first | assumption | (refine World.rangeAt_alloc ?_ _)))
        clear hK K
        (try simp only [Act.put, List.setIfInBounds_toArray, List.set_cons_zero, List.set_cons_succ])
        refine wpAnyH_ready (rs := [7]) (by kernel_rfl) (by simp) ?_
        refine AllReadyH.cons (o := { dst := some 66, op := Op.call { callee := Callee.builtin Builtin.append, args := #[Operand.tmp 63, Operand.tmp 65], argTypes := #[55, 55] }, type := 55, pos := "disk.go:64", after := #[{ on := 4, ground := Ground.data }, { on := 6, ground := Ground.data }], guard := none }) rfl (fun K hK => ?_) ?_
        · rw [if_pos (by rfl)]
          refine wp_append_at _ _ _ 55 rfl C 63 i0 (.agg zeroW) 129 136 Try.underlying55 hi0 hz0 hz1 hz2 zeroW_size (by decide) pv A.pend.length (pcells A.last A.pend) rfl HR.out ⟨W.heap.size, 0, none⟩ 1 1 (.int .i64 (k : Int) :: (co ++ cn)) rfl (by rw [hwl]) (new_cells _ _) hw1 (by simp only [maxLen]; omega) (by omega) (by simp; omega) ?_
          intro pv' W4 hrow4 hgr4 hat4
          refine hK.out _ _ ?_ (fun hHeld => ?_)
          · exact range_grown hgr4 (World.rangeAt_alloc v2 _) (fun e => by have := (HO.out.ltv g e).2; omega)
          clear hK K
          (try simp only [Act.put, List.setIfInBounds_toArray, List.set_cons_zero, List.set_cons_succ])
          obtain ⟨av', cv', hpv'⟩ := own_slice hrow4
          have HPV' := Lib.hid hpv'
          have HR4 := Lib.hid hrow4
          have HG4 := Lib.hid hgr4
          have HA4 := Lib.hid hat4
          have q1 : W4.cell? ⟨p, 1, none⟩ = some pv := cell_grown hgr4 (cell_alloc_keep v1 _) HO.out.vp
          have q2 : W4.frozen? ⟨p, 1, none⟩ = false := free_grown hgr4 HV1.out HO.out.lt hwW (HO.out.free 1) HO.out.vp
          clear hrow4 hgr4 hat4
          subst hpv'
          refine wpAnyH_take (i := 8) (oi := { dst := some 67, op := Op.nilCheck (Operand.tmp 59), type := 0, pos := "disk.go:64", after := #[{ on := 0, ground := Ground.data }, { on := 0, ground := Ground.phase }, { on := 1, ground := Ground.phase }, { on := 2, ground := Ground.phase }, { on := 3, ground := Ground.phase }, { on := 4, ground := Ground.phase }, { on := 5, ground := Ground.phase }, { on := 6, ground := Ground.phase }, { on := 7, ground := Ground.phase }], guard := none }) (v := ptr p) rfl (by kernel_rfl) (by kernel_rfl) (by kernel_rfl) (fun _ _ _ h => h) (Or.inl ⟨by rfl, fun w' hSw => by ((try dsimp only at hSw); go_split_ands; go_simp)⟩) (by assumption) ?_
          (try simp only [Act.put, List.setIfInBounds_toArray, List.set_cons_zero, List.set_cons_succ])
          refine wpAnyH_take (i := 9) (oi := { dst := some 68, op := Op.fieldAddr 57 (Operand.tmp 67) 1, type := 0, pos := "disk.go:64", after := #[{ on := 8, ground := Ground.data }, { on := 0, ground := Ground.phase }, { on := 1, ground := Ground.phase }, { on := 2, ground := Ground.phase }, { on := 3, ground := Ground.phase }, { on := 4, ground := Ground.phase }, { on := 5, ground := Ground.phase }, { on := 6, ground := Ground.phase }, { on := 7, ground := Ground.phase }], guard := none }) (v := .pointer (some ⟨p, 1, none⟩)) rfl (by kernel_rfl) (by kernel_rfl) (by kernel_rfl) (fun _ _ _ h => h) (Or.inl ⟨by rfl, fun w' hSw => by ((try dsimp only at hSw); go_split_ands; go_simp)⟩) (by assumption) ?_
          (try simp only [Act.put, List.setIfInBounds_toArray, List.set_cons_zero, List.set_cons_succ])
          refine wpAnyH_ready (rs := [10]) (by kernel_rfl) (by simp) ?_
          refine AllReadyH.cons (o := { dst := none, op := Op.store 55 (Operand.tmp 68) (Operand.tmp 66), type := 0, pos := "disk.go:64", after := #[{ on := 9, ground := Ground.data }, { on := 7, ground := Ground.data }, { on := 7, ground := Ground.chain }, { on := 0, ground := Ground.phase }, { on := 1, ground := Ground.phase }, { on := 2, ground := Ground.phase }, { on := 3, ground := Ground.phase }, { on := 4, ground := Ground.phase }, { on := 5, ground := Ground.phase }, { on := 6, ground := Ground.phase }, { on := 7, ground := Ground.phase }], guard := none }) rfl (fun K hK => ?_) ?_
          · go_simp
            refine hK.out _ _ ?_ (fun hHeld => ?_)
            · exact range_setCell hHeld (by show p ≠ g; omega)
            clear hK K
            (try simp only [Act.put, List.setIfInBounds_toArray, List.set_cons_zero, List.set_cons_succ])
            refine wpAnyH_done (by kernel_rfl) ?_ _
            refine NoPanic.normal ?_
            go_wp2_with fail
            go_ret
            exact ⟨rfl, addsP_of HA0.out HW0.out (did_wrote HO.out HK.out HBL.out HBW.out HW.out HCO.out HCN.out HG4.out HA4.out HR4.out rfl)⟩
          exact AllReadyH.nil
        exact AllReadyH.nil
      exact AllReadyH.nil
    exact AllReadyH.nil
/-- Write writes. -/
theorem write_ok (h : Own C p s c pv A w) (k : Nat) (b : BA) (hr : A.runs = true) (hk : k < A.last.length) (hb : b.length = 64) (hl : A.left ≠ 0) (hm : A.pend.length ≤ 1000000) :
    Calls Try.prog 17 #[ptr p, .int .i64 k, .string (str b)] w fun e w' => e = .returned (.int .i64 0) ∧ Did C p s c pv (wrote A k b) w w' := by
  by_cases h0 : 0 < A.left
  · refine (write_pos h k b hr hk hb h0 hm).mono fun e w' ⟨he, pv', h1, h2, h3⟩ => ⟨he, pv', ?_, (Turned.setCell p s pv w 3 _).trans h2 (Moved.refl _ _), fun q hq => ?_⟩
    · have e : wrote A k b = { A with left := A.left - 1, pend := A.pend ++ [(k, b)] } := by simp [wrote, h0]
      rw [e]; exact h1
    · rcases h3 q hq with h4 | h4
      · exact .inl h4
      · exact .inr (by simpa [World.setCell] using h4)
  · refine (write_neg h k b hr hk hb (by omega) hm).mono fun e w' ⟨he, pv', h1, h2, h3⟩ => ⟨he, pv', ?_, h2, h3⟩
    have e : wrote A k b = { A with pend := A.pend ++ [(k, b)] } := by simp [wrote, h0]
    rw [e]; exact h1
theorem write_err (q : Value) (k : Int) (x : Value) (e0 : Int) (w : World) (he : (e0 != 0) = true) (hR : Calls Try.prog 31 #[q, .int .i64 k] w fun e w' => e = .returned (.int .i64 e0) ∧ w = w') :
    Calls Try.prog 17 #[q, .int .i64 k, x] w fun e w' => e = .returned (.int .i64 e0) ∧ w = w' := by
  have HR := Lib.hid hR
  clear hR
  go_enter Try.func17, Try.ntmps17
  go_wp2_with fail
  refine HR.out.mono ?_; rintro e w' ⟨rfl, rfl⟩
  go_wp2_with fail
  go_ret
  exact ⟨rfl, rfl⟩
theorem write_dead (h : Own C p s c pv A w) (k : Int) (x : Value) (hr : A.runs = false) :
    Calls Try.prog 17 #[ptr p, .int .i64 k, x] w fun e w' => e = .returned (.int .i64 10) ∧ w = w' := write_err _ _ _ _ _ rfl (refuse_dead h k hr)
theorem write_nil (k : Int) (x : Value) (w : World) :
    Calls Try.prog 17 #[.pointer none, .int .i64 k, x] w fun e w' => e = .returned (.int .i64 10) ∧ w = w' := write_err _ _ _ _ _ rfl (refuse_nil k w)
theorem write_range (h : Own C p s c pv A w) (k : Int) (x : Value) (hr : A.runs = true) (hk : k < 0 ∨ (A.last.length : Int) ≤ k) :
    Calls Try.prog 17 #[ptr p, .int .i64 k, x] w fun e w' => e = .returned (.int .i64 12) ∧ w = w' := write_err _ _ _ _ _ rfl (refuse_range h k hr hk)
theorem write_arg (h : Own C p s c pv A w) (k : Nat) (x : ByteArray) (hr : A.runs = true) (hk : k < A.last.length) (hx : x.size ≠ 64) (hm : x.size ≤ maxLen) :
    Calls Try.prog 17 #[ptr p, .int .i64 k, .string x] w fun e w' => e = .returned (.int .i64 1) ∧ w = w' := by
  unfold maxLen at hm
  have HR := Lib.hid (refuse_ok h k hr hk)
  have x1 : ((x.size : Int) == 64) = false := by simp; omega
  have x2 : ((x.size : Int) != 64) = true := by simp; omega
  clear h hx hk hr
  go_enter Try.func17, Try.ntmps17
  go_wp2_with fail
  refine HR.out.mono ?_; rintro e w' ⟨rfl, rfl⟩
  go_wp2_with fail
  go_ret
  exact ⟨rfl, rfl⟩
/-- At this write the machine stops. -/
theorem write_stop (h : Own C p s c pv A w) (k : Nat) (b : BA) (hr : A.runs = true) (hk : k < A.last.length) (hb : b.length = 64) (hl : A.left = 0) :
    Calls Try.prog 17 #[ptr p, .int .i64 k, .string (str b)] w fun e w' => e = .returned (.int .i64 10) ∧ Own C p s c pv { A with runs := false } w' ∧ Turned p s pv w w' := by
  have HR := Lib.hid (refuse_ok h k hr hk)
  have hc3 := h.cell3
  have hc2 := h.cell2
  have hf2 := h.free 2
  have HO := Lib.hid h
  rw [hl] at hc3
  have hsz : (str b).size = 64 := by rw [str_size, hb]
  clear h hl hk hr
  go_enter Try.func17, Try.ntmps17
  go_wp2_with fail
  refine HR.out.mono ?_; rintro e w' ⟨rfl, rfl⟩
  go_wp2_with fail
  go_ret
  have h := HO.out
  exact ⟨rfl, h.setHead pv { A with runs := false } 2 _ rfl rfl (.inl rfl) rfl h.row h.whole h.fits h.l1 h.l2, Turned.setCell _ _ _ _ _ _⟩
end Go.Proofs.Ytnkhfgfiifadhaa
