/- What the record's reader reads: texts, flags, lists, patches, transactions, dirty pages. -/
import Derived.Test.YtbmnagfjpenemaaGreatDoorRecw
import Derived.Shelf.LaysM
import Derived.Shelf.Strconv.Clone
import Derived.Laws.AppendOwn
import Derived.RangeFuncBox
namespace Go.Proofs
open Go.Shelf
def Tryz.cloL_ren : Go.Shelf.Ren := ⟨fun | 316 => 173 | n => n, fun | 9 => 9 | 3 => 3 | 4 => 4 | 37 => 63 | 0 => 0 | 127 => 202 | 5 => 5 | n => n, fun | n => n⟩
theorem Tryz.cloL : Go.Proofs.LaysM.n316 Tryz.prog Tryz.cloL_ren := {
  mixed := by kernel_rfl
  f316 := Tryz.func173.trans (congrArg some (by kernel_rfl))
  t0 := Tryz.underlying0
  a0 := Tryz.isAgg0
  z0 := Tryz.sizeOf0
  v0 := Tryz.zeroValue0
  t3 := Tryz.underlying3
  a3 := Tryz.isAgg3
  z3 := Tryz.sizeOf3
  v3 := Tryz.zeroValue3
  t4 := Tryz.underlying4
  a4 := Tryz.isAgg4
  z4 := Tryz.sizeOf4
  v4 := Tryz.zeroValue4
  t9 := Tryz.underlying9
  a9 := Tryz.isAgg9
  z9 := Tryz.sizeOf9
  v9 := Tryz.zeroValue9
  t37 := Tryz.underlying63
  a37 := Tryz.isAgg63
  z37 := Tryz.sizeOf63
  v37 := Tryz.zeroValue63
  t127 := Tryz.underlying202
  a127 := Tryz.isAgg202
  z127 := Tryz.sizeOf202
  v127 := Tryz.zeroValue202
  t5 := Tryz.underlying5
  a5 := Tryz.isAgg5
  z5 := Tryz.sizeOf5
  v5 := Tryz.zeroValue5
  i0 := by kernel_rfl
  i3 := by kernel_rfl
  i4 := by kernel_rfl
  i5 := by kernel_rfl
  i9 := by kernel_rfl
  i37 := by kernel_rfl
  i127 := by kernel_rfl }
end Go.Proofs
namespace Go.Proofs.YtbmnagfjpenemaaGreatDoor
open Go.ChangeShapes Go.WideShapes Go.ChangeAt Go.RowKit Go.Shelf
set_option linter.unusedVariables false
set_option linter.unusedSimpArgs false
set_option maxRecDepth 100000
theorem clone_any (s : ByteArray) (hs : s.size ≤ 281474976710656) (w : World) : Calls Tryz.prog 160 #[.string s] w fun e w' => e = .returned (.string s) ∧ Below w.heap.size w w' := by
  have R := Lib.hid (fun w => Any.stringslite_Clone Tryz.cloL s w hs)
  go_enter Tryz.func160, Tryz.ntmps160
  go_wp2_with fail
  refine (R.out _).mono ?_; rintro e w1 ⟨rfl, hb⟩
  have HB := Lib.hid hb
  clear hb
  go_wp2_with fail
  go_ret
  exact ⟨rfl, HB.out⟩
theorem RdS.lt {w : World} {q : Nat} {s : RS} (h : RdS w q s) : q < w.heap.size := Rd.lt h
theorem RdS.alloc {w : World} {q : Nat} {s : RS} (h : RdS w q s) (o : Obj) : RdS (w.alloc o) q s := Rd.alloc h o
theorem RdS.drew {w : World} {q : Nat} {s : RS} (h : RdS w q s) : RdS w.drew q s := h
theorem ReadS.start {C q : Nat} {w : World} {s : RS} (h : RdS w q s) : ReadS C q w s w := ⟨h, Only.refl _ _ _⟩
theorem ReadS.alloc {C q : Nat} {w w1 : World} {s : RS} (h : ReadS C q w s w1) (hC : C ≤ w.heap.size) (o : Obj) : ReadS C q w s (w1.alloc o) := ⟨h.1.alloc o, h.2.alloc (Nat.le_trans hC h.2.size) o⟩
theorem ReadS.drew {C q : Nat} {w w1 : World} {s : RS} (h : ReadS C q w s w1) : ReadS C q w s w1.drew := ⟨h.1, h.2.drew⟩
theorem ReadS.below {C q : Nat} {w w1 w2 : World} {s : RS} (h : ReadS C q w s w1) (hC : C ≤ w.heap.size) (hb : Below w1.heap.size w1 w2) : ReadS C q w s w2 := Read.on h hC hb
/-- A block made since is written: what was there is as it was. -/
theorem ReadS.set {C q B i : Nat} {w w1 : World} {s : RS} {u : Value} (h : ReadS C q w s w1) (hC : C ≤ w.heap.size) (hB : w.heap.size ≤ B) (hq : q < w.heap.size) : ReadS C q w s (w1.setCell ⟨B, i, none⟩ u) := by
  refine ⟨(Below.heap_setCell w1 ⟨B, i, none⟩ u q (show q ≠ B by omega)).trans h.1, h.2.os, h.2.tape, h.2.output, by rw [World.size_setCell]; exact h.2.size, fun k hk hkq => ?_, fun k cs t fr hkq ht hh => ?_⟩
  · rw [Below.heap_setCell w1 ⟨B, i, none⟩ u k (show k ≠ B by omega)]
    exact h.2.block k hk hkq
  · have hk := block_of_heap hh
    rw [Below.heap_setCell w1 ⟨B, i, none⟩ u k (show k ≠ B by omega)]
    exact h.2.typed k cs t fr hkq ht hh
theorem Bx.set {w : World} {B i : Nat} {cs : Array Value} {t : TypeId} (h : Bx w B cs t) (u : Value) : Bx (w.setCell ⟨B, i, none⟩ u) B (cs.setIfInBounds i u) t := by
  unfold Bx
  rw [setCell_eq_setRow w B i cs t (0, 0) u h, setRow_heap w B _ _ _ _ h]
theorem Bx.other {w : World} {B D i : Nat} {cs : Array Value} {t : TypeId} (h : Bx w B cs t) (hne : B ≠ D) (u : Value) : Bx (w.setCell ⟨D, i, none⟩ u) B cs t := (Below.heap_setCell w ⟨D, i, none⟩ u B hne).trans h
section
variable {P : Program}
theorem step_store_row {ops : Array Oper} {o : Oper} {a : Act} {w : World} {K : Act → World → Prop} {Q : Exit → Act → World → Prop} {E : Prop} (hgd : o.guard = none) (ty : TypeId) (x y : Operand) (ho : o.op = .store ty x y)
    (g : Nat) (cells : Array Value) (hx : a.eval x = .pointer (some ⟨g, 0, none⟩)) (hy : a.eval y = .agg cells)
    (t : TypeId) (old : Array Value) (hg : Bx w g old t) (hi : (P.info? ty).map (·.size) = some cells.size)
    (hold : old.size = cells.size) (h1 : cells.all (·.oneCell') = true)
    (h : K (a.put o.dst undef) (w.setRow g cells)) : if Region.wanted o (yielded ops a.tmps) = true then Oper.wp P o a w K Q else E := by
  have hw : Region.wanted o (yielded ops a.tmps) = true := by simp [Region.wanted, hgd]
  rw [if_pos hw]
  exact wp_store_row ty x y ho g cells hx hy t old hg hi hold h1 h
end
theorem Bx.row {w : World} {B : Nat} {cs : Array Value} {t : TypeId} (h : Bx w B cs t) (ds : Array Value) : Bx (w.setRow B ds) B ds t := setRow_heap w B _ _ _ _ h
theorem row_other (w : World) (B k : Nat) (ds : Array Value) (h : k ≠ B) : (w.setRow B ds).heap[k]? = w.heap[k]? := by
  simp [World.setRow, Array.getElem?_modify, Ne.symm h]
theorem row_size (w : World) (B : Nat) (ds : Array Value) : (w.setRow B ds).heap.size = w.heap.size := by simp [World.setRow]
theorem Bx.orow {w : World} {B D : Nat} {cs : Array Value} {t : TypeId} (h : Bx w B cs t) (hne : B ≠ D) (ds : Array Value) : Bx (w.setRow D ds) B cs t := (row_other w D B ds hne).trans h
theorem ReadS.row {C q B : Nat} {w w1 : World} {s : RS} {ds : Array Value} (h : ReadS C q w s w1) (hC : C ≤ w.heap.size) (hB : w.heap.size ≤ B) (hq : q < w.heap.size) : ReadS C q w s (w1.setRow B ds) := by
  refine ⟨(row_other w1 B q ds (by omega)).trans h.1, h.2.os, h.2.tape, h.2.output, by rw [row_size]; exact h.2.size, fun k hk hkq => ?_, fun k cs t fr hkq ht hh => ?_⟩
  · rw [row_other w1 B k ds (by omega)]
    exact h.2.block k hk hkq
  · have hk := block_of_heap hh
    rw [row_other w1 B k ds (by omega)]
    exact h.2.typed k cs t fr hkq ht hh
theorem text_r (C q : Nat) (s : RS) (w : World) (hs : Few s) (hC : C ≤ w.heap.size) (hr : RdS w q s) : Calls Tryz.prog 114 #[.agg #[ptr q]] w fun e w' => e = .returned (.string (textR s).1) ∧ ReadS C q w (textR s).2 w' := by
  have H0 := Lib.hid (ReadS.start (C := C) hr |>.alloc hC (.cells #[ptr q] 89))
  have TX := Lib.hid (rtext_any C q s (w.alloc (.cells #[ptr q] 89)) hs (by simp; omega) H0.out.1)
  have CL := Lib.hid (fun w => clone_any (textR s).1 (by have := textR_in hs; omega) w)
  have HC := Lib.hid hC
  clear hs hC hr
  generalize (textR s).1 = x at *
  generalize (textR s).2 = s1 at *
  go_enter Tryz.func114, Tryz.ntmps114
  go_wp2_with fail
  refine TX.out.mono ?_; rintro e w1 ⟨rfl, hr⟩
  have H1 := Lib.hid (H0.out.then hr)
  clear hr
  go_wp2_with fail
  refine (CL.out _).mono ?_; rintro e w2 ⟨rfl, hb⟩
  have H2 := Lib.hid (H1.out.below HC.out hb)
  clear hb
  go_wp2_with fail
  go_ret
  exact ⟨rfl, H2.out⟩
theorem flag_r (C q : Nat) (s : RS) (w : World) (hs : Few s) (hC : C ≤ w.heap.size) (hr : RdS w q s) : Calls Tryz.prog 115 #[.agg #[ptr q]] w fun e w' => e = .returned (.bool (flagR s).1) ∧ ReadS C q w (flagR s).2 w' := by
  have H0 := Lib.hid (ReadS.start (C := C) hr |>.alloc hC (.cells #[ptr q] 89))
  have TX := Lib.hid (rnum_any C q s (w.alloc (.cells #[ptr q] 89)) hs (by simp; omega) H0.out.1)
  have HF := Lib.hid (show (flagR s).1 = ((numR s).1 == 1) from by unfold flagR; by_cases h : (numR s).1 = 1 <;> simp [h])
  rw [HF.out, show (flagR s).2 = (numR s).2 from rfl]
  clear hs hC hr HF
  generalize (numR s).1 = x at *
  generalize (numR s).2 = s1 at *
  by_cases hx : x = 1
  · subst hx
    go_enter Tryz.func115, Tryz.ntmps115
    go_wp2_with fail
    refine TX.out.mono ?_; rintro e w1 ⟨rfl, hr⟩
    have H1 := Lib.hid (H0.out.then hr)
    clear hr
    go_wp2_with fail
    go_ret
    exact ⟨rfl, H1.out⟩
  · have hx2 : (x == 1) = false := by rw [beq_eq_false_iff_ne]; exact hx
    rw [hx2]
    go_enter Tryz.func115, Tryz.ntmps115
    go_wp2_with fail
    refine TX.out.mono ?_; rintro e w1 ⟨rfl, hr⟩
    have H1 := Lib.hid (H0.out.then hr)
    clear hr
    go_wp2_with fail
    go_ret
    exact ⟨rfl, H1.out⟩
set_option maxHeartbeats 2000000 in
theorem dirty_r (C q : Nat) (s : RS) (w : World) (hs : Few s) (hC : C ≤ w.heap.size) (hr : RdS w q s) : Calls Tryz.prog 122 #[.agg #[ptr q]] w fun e w' => e = .returned (dyv (dyR s).1) ∧ ReadS C q w (dyR s).2 w' := by
  have N1 := Lib.hid (fun u (hu : RdS u q s) (hc : C ≤ u.heap.size) => rnum_any C q s u hs hc hu)
  have N2 := Lib.hid (fun u (hu : RdS u q (numR s).2) (hc : C ≤ u.heap.size) => rlong_any C q _ u (few_num hs) hc hu)
  unfold dyR dyv
  dsimp only
  generalize (longR (numR s).2).1 = v2 at *
  generalize (longR (numR s).2).2 = t2 at *
  generalize (numR s).1 = v1 at *
  generalize (numR s).2 = t1 at *
  have H0 := Lib.hid (ReadS.start (C := C) hr |>.alloc hC (.cells #[.pointer (some ⟨q, 0, none⟩)] 89) |>.alloc hC (.cells #[.int .i64 0, .int .i64 0] 74))
  have hb1 := (Bx.new w #[.pointer (some ⟨q, 0, none⟩)] 89).alloc (.cells #[.int .i64 0, .int .i64 0] 74)
  have hz0 := Bx.new (w.alloc (.cells #[.pointer (some ⟨q, 0, none⟩)] 89)) #[.int .i64 0, .int .i64 0] 74
  have hqw := hr.lt
  have HC := Lib.hid hC
  have hB2 : w.heap.size ≤ (w.alloc (.cells #[.pointer (some ⟨q, 0, none⟩)] 89)).heap.size := by simp
  have hne1 : w.heap.size ≠ q := by omega
  have hne2 : (w.alloc (.cells #[.pointer (some ⟨q, 0, none⟩)] 89)).heap.size ≠ q := by omega
  have hne12 : w.heap.size ≠ (w.alloc (.cells #[.pointer (some ⟨q, 0, none⟩)] 89)).heap.size := by simp
  clear hC hr hs
  go_enter Tryz.func122, Tryz.ntmps122
  go_upto_region 1 with fail
  rw [← World.size_alloc w (.cells #[.pointer (some ⟨q, 0, none⟩)] 89)]
  generalize hW : (w.alloc (.cells #[.pointer (some ⟨q, 0, none⟩)] 89)).alloc (.cells #[.int .i64 0, .int .i64 0] 74) = W at *
  obtain ⟨B2, hB⟩ : ∃ B, B = (w.alloc (.cells #[.pointer (some ⟨q, 0, none⟩)] 89)).heap.size := ⟨_, rfl⟩
  rw [← hB] at hz0 hB2 hne2 hne12 ⊢
  obtain ⟨B1, hB1⟩ : ∃ B, B = w.heap.size := ⟨_, rfl⟩
  rw [← hB1] at hb1 hne1 hne12 ⊢
  clear hB hB1 hW
  have HR0 := Lib.hid H0.out.drew
  have X0 := fun r (h : Bx r B1 #[.pointer (some ⟨q, 0, none⟩)] 89) => (h.cell 0).trans (show (#[.pointer (some ⟨q, 0, none⟩)] : Array Value)[0]? = some (.pointer (some ⟨q, 0, none⟩)) from rfl)
  clear H0
  refine wp_region_noPanic ?_
  refine wp_region_held_drew (S := fun w' => Bx w' B1 #[.pointer (some ⟨q, 0, none⟩)] 89) (by kernel_rfl) ?_ (fun hHeld => ?_)
  · exact hb1.drew
  refine wpAnyH_take (i := 0) (oi := { dst := some 3, op := Op.fieldAddr 89 (Operand.tmp 1) 0, type := 0, pos := "record.go:184", after := #[], guard := none }) (v := .pointer (some ⟨B1, 0, none⟩)) rfl (by kernel_rfl) (by kernel_rfl) (by kernel_rfl) (fun _ _ _ h => h) (Or.inl ⟨by rfl, fun w' hSw => by ((try dsimp only at hSw); have := X0 _ hSw; go_simp)⟩) (by assumption) ?_
  (try simp only [Act.put, List.setIfInBounds_toArray, List.set_cons_zero, List.set_cons_succ])
  refine wpAnyH_take (i := 1) (oi := { dst := some 4, op := Op.load 86 (Operand.tmp 3), type := 86, pos := "record.go:184", after := #[{ on := 0, ground := Ground.data }], guard := none }) (v := .pointer (some ⟨q, 0, none⟩)) rfl (by kernel_rfl) (by kernel_rfl) (by kernel_rfl) (fun _ _ _ h => h) (Or.inl ⟨by rfl, fun w' hSw => by ((try dsimp only at hSw); have := X0 _ hSw; go_simp)⟩) (by assumption) ?_
  (try simp only [Act.put, List.setIfInBounds_toArray, List.set_cons_zero, List.set_cons_succ])
  refine wpAnyH_take (i := 3) (oi := { dst := some 6, op := Op.fieldAddr 89 (Operand.tmp 1) 0, type := 0, pos := "record.go:184", after := #[], guard := none }) (v := .pointer (some ⟨B1, 0, none⟩)) rfl (by kernel_rfl) (by kernel_rfl) (by kernel_rfl) (fun _ _ _ h => h) (Or.inl ⟨by rfl, fun w' hSw => by ((try dsimp only at hSw); have := X0 _ hSw; go_simp)⟩) (by assumption) ?_
  (try simp only [Act.put, List.setIfInBounds_toArray, List.set_cons_zero, List.set_cons_succ])
  refine wpAnyH_take (i := 4) (oi := { dst := some 7, op := Op.load 86 (Operand.tmp 6), type := 86, pos := "record.go:184", after := #[{ on := 3, ground := Ground.data }], guard := none }) (v := .pointer (some ⟨q, 0, none⟩)) rfl (by kernel_rfl) (by kernel_rfl) (by kernel_rfl) (fun _ _ _ h => h) (Or.inl ⟨by rfl, fun w' hSw => by ((try dsimp only at hSw); have := X0 _ hSw; go_simp)⟩) (by assumption) ?_
  (try simp only [Act.put, List.setIfInBounds_toArray, List.set_cons_zero, List.set_cons_succ])
  refine wpAnyH_ready (rs := [2]) (by kernel_rfl) (by simp) ?_
  refine AllReadyH.cons (o := { dst := some 5, op := Op.call { callee := Callee.value (Operand.func 112), args := #[Operand.tmp 4], argTypes := #[86] }, type := 3, pos := "record.go:184", after := #[{ on := 1, ground := Ground.data }], guard := none }) rfl (fun K hK => ?_) ?_
  · go_simp; go_at_call 112; refine (N1.out _ HR0.out.1 (Nat.le_trans HC.out HR0.out.size)).mono ?_; rintro e u1 ⟨rfl, hr⟩; have hb2 := hb1.drew.only hr.2 hne1 (by decide); have hz1 := hz0.drew.only hr.2 hne2 (by decide); have HR1 := Lib.hid (HR0.out.then hr); clear hr
    refine hK.out _ _ ?_ (fun hHeld => ?_)
    · exact hb2
    clear hK K
    (try simp only [Act.put, List.setIfInBounds_toArray, List.set_cons_zero, List.set_cons_succ])
    refine wpAnyH_ready (rs := [5]) (by kernel_rfl) (by simp) ?_
    refine AllReadyH.cons (o := { dst := some 8, op := Op.call { callee := Callee.value (Operand.func 113), args := #[Operand.tmp 7], argTypes := #[86] }, type := 3, pos := "record.go:184", after := #[{ on := 4, ground := Ground.data }, { on := 2, ground := Ground.chain }], guard := none }) rfl (fun K hK => ?_) ?_
    · go_simp; go_at_call 113; refine (N2.out _ HR1.out.1 (Nat.le_trans HC.out HR1.out.size)).mono ?_; rintro e u2 ⟨rfl, hr⟩; have hb3 := hb2.only hr.2 hne1 (by decide); have hz2 := hz1.only hr.2 hne2 (by decide); have HR2 := Lib.hid (HR1.out.then hr); clear hr
      refine hK.out _ _ ?_ (fun hHeld => ?_)
      · exact hb3
      clear hK K
      (try simp only [Act.put, List.setIfInBounds_toArray, List.set_cons_zero, List.set_cons_succ])
      refine wpAnyH_take (i := 6) (oi := { dst := some 9, op := Op.build 74 #[(0, Operand.tmp 5), (1, Operand.tmp 8)], type := 74, pos := "record.go:184", after := #[{ on := 2, ground := Ground.data }, { on := 5, ground := Ground.data }], guard := none }) (v := .agg #[.int .i64 v1, .int .i64 v2]) rfl (by kernel_rfl) (by kernel_rfl) (by kernel_rfl) (fun _ _ _ h => h) (Or.inl ⟨by rfl, fun w' hSw => by ((try dsimp only at hSw); have := X0 _ hSw; go_simp)⟩) (by assumption) ?_
      (try simp only [Act.put, List.setIfInBounds_toArray, List.set_cons_zero, List.set_cons_succ])

      refine wpAnyH_ready (rs := [7]) (by kernel_rfl) (by simp) ?_
      refine AllReadyH.cons (o := { dst := none, op := Op.store 74 (Operand.tmp 2) (Operand.tmp 9), type := 0, pos := "record.go:184", after := #[{ on := 6, ground := Ground.data }, { on := 5, ground := Ground.chain }, { on := 0, ground := Ground.phase }, { on := 1, ground := Ground.phase }, { on := 2, ground := Ground.phase }, { on := 3, ground := Ground.phase }, { on := 4, ground := Ground.phase }, { on := 5, ground := Ground.phase }, { on := 6, ground := Ground.phase }], guard := none }) rfl (fun K hK => ?_) ?_
      · refine step_store_row rfl 74 (.tmp 2) (.tmp 9) rfl B2 #[.int .i64 v1, .int .i64 v2] rfl rfl 74 _ hz2 (by kernel_rfl) rfl (by simp [Value.oneCell']) ?_
        refine hK.out _ _ ?_ (fun hHeld => ?_)
        · exact hb3.orow hne12 _
        clear hK K
        (try simp only [Act.put, List.setIfInBounds_toArray, List.set_cons_zero, List.set_cons_succ])
        refine wpAnyH_done (by kernel_rfl) ?_ _
        refine NoPanic.normal ?_
        have HZ : Bx (u2.setRow B2 #[.int .i64 v1, .int .i64 v2]) B2 #[.int .i64 v1, .int .i64 v2] 74 := hz2.row _
        have HR := Lib.hid (ReadS.row HR2.out HC.out hB2 hqw : ReadS C q w t2 (u2.setRow B2 #[.int .i64 v1, .int .i64 v2]))
        clear hHeld
        generalize (u2.setRow B2 #[.int .i64 v1, .int .i64 v2]) = V at *
        have y0 : V.cell? ⟨B2, 0, none⟩ = some (.int .i64 v1) := HZ.cell 0
        have y1 : V.cell? ⟨B2, 1, none⟩ = some (.int .i64 v2) := HZ.cell 1
        clear HZ
        go_wp2_with fail
        refine bodyPost_ret (v := .agg #[.int .i64 v1, .int .i64 v2]) (by simp [results, Tryz.results122, go_sem, y0, y1]) rfl ⟨rfl, HR.out⟩
      exact AllReadyH.nil
    exact AllReadyH.nil
  exact AllReadyH.nil
set_option maxHeartbeats 2000000 in
theorem patch_r (C q : Nat) (s : RS) (w : World) (hs : Few s) (hC : C ≤ w.heap.size) (hr : RdS w q s) : Calls Tryz.prog 118 #[.agg #[ptr q]] w fun e w' => e = .returned (ptv (ptR s).1) ∧ ReadS C q w (ptR s).2 w' := by
  have N1 := Lib.hid (fun u (hu : RdS u q s) (hc : C ≤ u.heap.size) => rnum_any C q s u hs hc hu)
  have N2 := Lib.hid (fun u (hu : RdS u q (numR s).2) (hc : C ≤ u.heap.size) => rnum_any C q _ u (few_num hs) hc hu)
  have N3 := Lib.hid (fun u (hu : RdS u q (numR (numR s).2).2) (hc : C ≤ u.heap.size) => text_r C q _ u (few_num (few_num hs)) hc hu)
  unfold ptR ptv
  dsimp only
  generalize (textR (numR (numR s).2).2).1 = v3 at *
  generalize (textR (numR (numR s).2).2).2 = t3 at *
  generalize (numR (numR s).2).1 = v2 at *
  generalize (numR (numR s).2).2 = t2 at *
  generalize (numR s).1 = v1 at *
  generalize (numR s).2 = t1 at *
  have H0 := Lib.hid (ReadS.start (C := C) hr |>.alloc hC (.cells #[.pointer (some ⟨q, 0, none⟩)] 89) |>.alloc hC (.cells #[.int .i64 0, .int .i64 0, .string ⟨#[]⟩] 59))
  have hb1 := (Bx.new w #[.pointer (some ⟨q, 0, none⟩)] 89).alloc (.cells #[.int .i64 0, .int .i64 0, .string ⟨#[]⟩] 59)
  have hz0 := Bx.new (w.alloc (.cells #[.pointer (some ⟨q, 0, none⟩)] 89)) #[.int .i64 0, .int .i64 0, .string ⟨#[]⟩] 59
  have hqw := hr.lt
  have HC := Lib.hid hC
  have hB2 : w.heap.size ≤ (w.alloc (.cells #[.pointer (some ⟨q, 0, none⟩)] 89)).heap.size := by simp
  have hne1 : w.heap.size ≠ q := by omega
  have hne2 : (w.alloc (.cells #[.pointer (some ⟨q, 0, none⟩)] 89)).heap.size ≠ q := by omega
  have hne12 : w.heap.size ≠ (w.alloc (.cells #[.pointer (some ⟨q, 0, none⟩)] 89)).heap.size := by simp
  clear hC hr hs
  go_enter Tryz.func118, Tryz.ntmps118
  go_upto_region 1 with fail
  rw [← World.size_alloc w (.cells #[.pointer (some ⟨q, 0, none⟩)] 89)]
  generalize hW : (w.alloc (.cells #[.pointer (some ⟨q, 0, none⟩)] 89)).alloc (.cells #[.int .i64 0, .int .i64 0, .string ⟨#[]⟩] 59) = W at *
  obtain ⟨B2, hB⟩ : ∃ B, B = (w.alloc (.cells #[.pointer (some ⟨q, 0, none⟩)] 89)).heap.size := ⟨_, rfl⟩
  rw [← hB] at hz0 hB2 hne2 hne12 ⊢
  obtain ⟨B1, hB1⟩ : ∃ B, B = w.heap.size := ⟨_, rfl⟩
  rw [← hB1] at hb1 hne1 hne12 ⊢
  clear hB hB1 hW
  have HR0 := Lib.hid H0.out.drew
  have X0 := fun r (h : Bx r B1 #[.pointer (some ⟨q, 0, none⟩)] 89) => (h.cell 0).trans (show (#[.pointer (some ⟨q, 0, none⟩)] : Array Value)[0]? = some (.pointer (some ⟨q, 0, none⟩)) from rfl)
  clear H0
  refine wp_region_noPanic ?_
  refine wp_region_held_drew (S := fun w' => Bx w' B1 #[.pointer (some ⟨q, 0, none⟩)] 89) (by kernel_rfl) ?_ (fun hHeld => ?_)
  · exact hb1.drew
  refine wpAnyH_take (i := 0) (oi := { dst := some 3, op := Op.fieldAddr 89 (Operand.tmp 1) 0, type := 0, pos := "record.go:178", after := #[], guard := none }) (v := .pointer (some ⟨B1, 0, none⟩)) rfl (by kernel_rfl) (by kernel_rfl) (by kernel_rfl) (fun _ _ _ h => h) (Or.inl ⟨by rfl, fun w' hSw => by ((try dsimp only at hSw); have := X0 _ hSw; go_simp)⟩) (by assumption) ?_
  (try simp only [Act.put, List.setIfInBounds_toArray, List.set_cons_zero, List.set_cons_succ])
  refine wpAnyH_take (i := 1) (oi := { dst := some 4, op := Op.load 86 (Operand.tmp 3), type := 86, pos := "record.go:178", after := #[{ on := 0, ground := Ground.data }], guard := none }) (v := .pointer (some ⟨q, 0, none⟩)) rfl (by kernel_rfl) (by kernel_rfl) (by kernel_rfl) (fun _ _ _ h => h) (Or.inl ⟨by rfl, fun w' hSw => by ((try dsimp only at hSw); have := X0 _ hSw; go_simp)⟩) (by assumption) ?_
  (try simp only [Act.put, List.setIfInBounds_toArray, List.set_cons_zero, List.set_cons_succ])
  refine wpAnyH_take (i := 3) (oi := { dst := some 6, op := Op.fieldAddr 89 (Operand.tmp 1) 0, type := 0, pos := "record.go:178", after := #[], guard := none }) (v := .pointer (some ⟨B1, 0, none⟩)) rfl (by kernel_rfl) (by kernel_rfl) (by kernel_rfl) (fun _ _ _ h => h) (Or.inl ⟨by rfl, fun w' hSw => by ((try dsimp only at hSw); have := X0 _ hSw; go_simp)⟩) (by assumption) ?_
  (try simp only [Act.put, List.setIfInBounds_toArray, List.set_cons_zero, List.set_cons_succ])
  refine wpAnyH_take (i := 4) (oi := { dst := some 7, op := Op.load 86 (Operand.tmp 6), type := 86, pos := "record.go:178", after := #[{ on := 3, ground := Ground.data }], guard := none }) (v := .pointer (some ⟨q, 0, none⟩)) rfl (by kernel_rfl) (by kernel_rfl) (by kernel_rfl) (fun _ _ _ h => h) (Or.inl ⟨by rfl, fun w' hSw => by ((try dsimp only at hSw); have := X0 _ hSw; go_simp)⟩) (by assumption) ?_
  (try simp only [Act.put, List.setIfInBounds_toArray, List.set_cons_zero, List.set_cons_succ])
  refine wpAnyH_take (i := 6) (oi := { dst := some 9, op := Op.load 89 (Operand.tmp 1), type := 89, pos := "record.go:178", after := #[], guard := none }) (v := .agg #[.pointer (some ⟨q, 0, none⟩)]) rfl (by kernel_rfl) (by kernel_rfl) (by kernel_rfl) (fun _ _ _ h => h) (Or.inl ⟨by rfl, fun w' hSw => by ((try dsimp only at hSw); have := X0 _ hSw; go_simp)⟩) (by assumption) ?_
  (try simp only [Act.put, List.setIfInBounds_toArray, List.set_cons_zero, List.set_cons_succ])
  refine wpAnyH_ready (rs := [2]) (by kernel_rfl) (by simp) ?_
  refine AllReadyH.cons (o := { dst := some 5, op := Op.call { callee := Callee.value (Operand.func 112), args := #[Operand.tmp 4], argTypes := #[86] }, type := 3, pos := "record.go:178", after := #[{ on := 1, ground := Ground.data }], guard := none }) rfl (fun K hK => ?_) ?_
  · go_simp; go_at_call 112; refine (N1.out _ HR0.out.1 (Nat.le_trans HC.out HR0.out.size)).mono ?_; rintro e u1 ⟨rfl, hr⟩; have hb2 := hb1.drew.only hr.2 hne1 (by decide); have hz1 := hz0.drew.only hr.2 hne2 (by decide); have HR1 := Lib.hid (HR0.out.then hr); clear hr
    refine hK.out _ _ ?_ (fun hHeld => ?_)
    · exact hb2
    clear hK K
    (try simp only [Act.put, List.setIfInBounds_toArray, List.set_cons_zero, List.set_cons_succ])
    refine wpAnyH_ready (rs := [5]) (by kernel_rfl) (by simp) ?_
    refine AllReadyH.cons (o := { dst := some 8, op := Op.call { callee := Callee.value (Operand.func 112), args := #[Operand.tmp 7], argTypes := #[86] }, type := 3, pos := "record.go:178", after := #[{ on := 4, ground := Ground.data }, { on := 2, ground := Ground.chain }], guard := none }) rfl (fun K hK => ?_) ?_
    · go_simp; go_at_call 112; refine (N2.out _ HR1.out.1 (Nat.le_trans HC.out HR1.out.size)).mono ?_; rintro e u2 ⟨rfl, hr⟩; have hb3 := hb2.only hr.2 hne1 (by decide); have hz2 := hz1.only hr.2 hne2 (by decide); have HR2 := Lib.hid (HR1.out.then hr); clear hr
      refine hK.out _ _ ?_ (fun hHeld => ?_)
      · exact hb3
      clear hK K
      (try simp only [Act.put, List.setIfInBounds_toArray, List.set_cons_zero, List.set_cons_succ])
      refine wpAnyH_ready (rs := [7]) (by kernel_rfl) (by simp) ?_
      refine AllReadyH.cons (o := { dst := some 10, op := Op.call { callee := Callee.value (Operand.func 114), args := #[Operand.tmp 9], argTypes := #[89] }, type := 9, pos := "record.go:178", after := #[{ on := 6, ground := Ground.data }, { on := 5, ground := Ground.chain }], guard := none }) rfl (fun K hK => ?_) ?_
      · go_simp; go_at_call 114; refine (N3.out _ HR2.out.1 (Nat.le_trans HC.out HR2.out.size)).mono ?_; rintro e u3 ⟨rfl, hr⟩; have hb4 := hb3.only hr.2 hne1 (by decide); have hz3 := hz2.only hr.2 hne2 (by decide); have HR3 := Lib.hid (HR2.out.then hr); clear hr
        refine hK.out _ _ ?_ (fun hHeld => ?_)
        · exact hb4
        clear hK K
        (try simp only [Act.put, List.setIfInBounds_toArray, List.set_cons_zero, List.set_cons_succ])
        refine wpAnyH_take (i := 8) (oi := { dst := some 11, op := Op.build 59 #[(0, Operand.tmp 5), (1, Operand.tmp 8), (2, Operand.tmp 10)], type := 59, pos := "record.go:178", after := #[{ on := 2, ground := Ground.data }, { on := 5, ground := Ground.data }, { on := 7, ground := Ground.data }], guard := none }) (v := .agg #[.int .i64 v1, .int .i64 v2, .string v3]) rfl (by kernel_rfl) (by kernel_rfl) (by kernel_rfl) (fun _ _ _ h => h) (Or.inl ⟨by rfl, fun w' hSw => by ((try dsimp only at hSw); have := X0 _ hSw; go_simp)⟩) (by assumption) ?_
        (try simp only [Act.put, List.setIfInBounds_toArray, List.set_cons_zero, List.set_cons_succ])

        refine wpAnyH_ready (rs := [9]) (by kernel_rfl) (by simp) ?_
        refine AllReadyH.cons (o := { dst := none, op := Op.store 59 (Operand.tmp 2) (Operand.tmp 11), type := 0, pos := "record.go:178", after := #[{ on := 8, ground := Ground.data }, { on := 7, ground := Ground.chain }, { on := 0, ground := Ground.phase }, { on := 1, ground := Ground.phase }, { on := 2, ground := Ground.phase }, { on := 3, ground := Ground.phase }, { on := 4, ground := Ground.phase }, { on := 5, ground := Ground.phase }, { on := 6, ground := Ground.phase }, { on := 7, ground := Ground.phase }, { on := 8, ground := Ground.phase }], guard := none }) rfl (fun K hK => ?_) ?_
        · refine step_store_row rfl 59 (.tmp 2) (.tmp 11) rfl B2 #[.int .i64 v1, .int .i64 v2, .string v3] rfl rfl 59 _ hz3 (by kernel_rfl) rfl (by simp [Value.oneCell']) ?_
          refine hK.out _ _ ?_ (fun hHeld => ?_)
          · exact hb4.orow hne12 _
          clear hK K
          (try simp only [Act.put, List.setIfInBounds_toArray, List.set_cons_zero, List.set_cons_succ])
          refine wpAnyH_done (by kernel_rfl) ?_ _
          refine NoPanic.normal ?_
          have HZ : Bx (u3.setRow B2 #[.int .i64 v1, .int .i64 v2, .string v3]) B2 #[.int .i64 v1, .int .i64 v2, .string v3] 59 := hz3.row _
          have HR := Lib.hid (ReadS.row HR3.out HC.out hB2 hqw : ReadS C q w t3 (u3.setRow B2 #[.int .i64 v1, .int .i64 v2, .string v3]))
          clear hHeld
          generalize (u3.setRow B2 #[.int .i64 v1, .int .i64 v2, .string v3]) = V at *
          have y0 : V.cell? ⟨B2, 0, none⟩ = some (.int .i64 v1) := HZ.cell 0
          have y1 : V.cell? ⟨B2, 1, none⟩ = some (.int .i64 v2) := HZ.cell 1
          have y2 : V.cell? ⟨B2, 2, none⟩ = some (.string v3) := HZ.cell 2
          clear HZ
          go_wp2_with fail
          refine bodyPost_ret (v := .agg #[.int .i64 v1, .int .i64 v2, .string v3]) (by simp [results, Tryz.results118, go_sem, y0, y1, y2]) rfl ⟨rfl, HR.out⟩
        exact AllReadyH.nil
      exact AllReadyH.nil
    exact AllReadyH.nil
  exact AllReadyH.nil
end Go.Proofs.YtbmnagfjpenemaaGreatDoor
