/- The reference's disk: Write. -/
import Derived.Test.YtnkhfgfiifadhaaRefc
import Derived.Maps.AppendAt
namespace Go.Proofs.Ytnkhfgfiifadhaa
open Go.ChangeShapes Go.WideShapes Go.ChangeAt Go.RowKit
set_option linter.unusedVariables false
set_option maxRecDepth 100000

/-! append of a whole slice onto a row of the call's own; the source may be nil or empty. -/
def Src (w : World) (size : Nat) (A : Option Addr) (m : Nat) (news : List Value) : Prop :=
  news.length = m * size ∧ (0 < m → ∃ ad, A = some ad ∧ ∀ j u, news[j]? = some u → w.cell? (ad.add j) = some u)
section
variable {P : Program} (w : World)
theorem run_append_src (t ty e : TypeId) (i : TypeInfo) (z : Value) (size bytes : Nat) (ht : P.underlying t = some (.slice e)) (hi : P.info? e = some i) (hz : i.zero = some z)
    (hsize : i.size = size) (hby : i.bytes = bytes) (hzs : z.cells.size = size) (hsz : 0 < size) (base : Nat)
    (v : Value) (n : Nat) (xs : List Value) (hown : w.ownsRow base e size v n xs)
    (A : Option Addr) (m c : Nat) (news : List Value) (hs : Src w size A m news) (h1 : ∀ u ∈ news, u.oneCell' = true)
    (h63 : n + m ≤ maxLen) (hbytes : (n + m) * bytes ≤ 140737488355328) (hbase : base ≤ w.heap.size) :
    ∃ v' w', (Builtin.append_ #[t, t] ty #[v, .slice A m c]).run P w = .ok v' w' ∧ w'.ownsRow base e size v' (n + m) (xs ++ news) ∧ w.grownBy w' v.ownBlock ∧ (v'.ownBlock = v.ownBlock ∨ v'.ownBlock = some w.heap.size) := by
  cases A with
  | some ad =>
    have hc : ∀ j u, news[j]? = some u → w.cell? (ad.add j) = some u := by
      intro j u hu
      by_cases h0 : m = 0
      · subst h0
        have : news = [] := List.eq_nil_of_length_eq_zero (by simpa using hs.1)
        subst this
        simp at hu
      · obtain ⟨ad', h, hc⟩ := hs.2 (by omega)
        simp only [Option.some.injEq] at h
        subst h
        exact hc j u hu
    obtain ⟨v', w', r1, r2, r3, _, r5⟩ := run_append_own_at (P := P) w base t ty e i z size bytes ht hi hz hsize hby hzs hsz v n xs hown ad m c news hs.1 hc h1 h63 hbytes hbase
    exact ⟨v', w', r1, r2, r3, r5⟩
  | none =>
    have h0 : m = 0 := by
      by_cases h : 0 < m
      · obtain ⟨_, h, _⟩ := hs.2 h
        cases h
      · omega
    subst h0
    have hn : news = [] := List.eq_nil_of_length_eq_zero (by simpa using hs.1)
    subst hn
    refine ⟨v, w, ?_, by simpa using hown, ⟨rfl, rfl, rfl, Nat.le_refl _, fun _ _ _ => rfl⟩, .inl rfl⟩
    rcases hown.2 with ⟨rfl, rfl⟩ | ⟨g, cap, cur, rfl, _, _, hle, _⟩
    · simp [Builtin.append_, run_underlying ht, sizeOf, typeInfo, hi, Builtin.lenOf, Builtin.firstCells]
    · simp [Builtin.append_, run_underlying ht, sizeOf, typeInfo, hi, Builtin.lenOf, Builtin.firstCells, hle, storeCells]
theorem wp_append_src {o : Oper} {a : Act} {K : Act → World → Prop} {Q : Exit → Act → World → Prop} (s x : Operand) (t : TypeId) (ho : o.op = .call { callee := .builtin .append, args := #[s, x], argTypes := #[t, t] })
    (e : TypeId) (i : TypeInfo) (z : Value) (size bytes : Nat) (ht : P.underlying t = some (.slice e)) (hi : P.info? e = some i) (hz : i.zero = some z)
    (hsize : i.size = size) (hby : i.bytes = bytes) (hzs : z.cells.size = size) (hsz : 0 < size) (base : Nat)
    (v : Value) (n : Nat) (xs : List Value) (hv : a.eval s = v) (hown : w.ownsRow base e size v n xs)
    (A : Option Addr) (m c : Nat) (news : List Value) (hx : a.eval x = .slice A m c) (hs : Src w size A m news) (h1 : ∀ u ∈ news, u.oneCell' = true)
    (h63 : n + m ≤ maxLen) (hbytes : (n + m) * bytes ≤ 140737488355328) (hbase : base ≤ w.heap.size)
    (h : ∀ v' w', w'.ownsRow base e size v' (n + m) (xs ++ news) → w.grownBy w' v.ownBlock → (v'.ownBlock = v.ownBlock ∨ v'.ownBlock = some w.heap.size) → K (a.put o.dst v') w') : o.wp P a w K Q := by
  obtain ⟨v', w', r1, r2, r3, r4⟩ := run_append_src (P := P) w t o.type e i z size bytes ht hi hz hsize hby hzs hsz base v n xs hown A m c news hs h1 h63 hbytes hbase
  unfold Oper.wp execOp
  simp only [ho, resolve, invoke, builtin, Sem.run_bind, Sem.run_pure, Result.andThen_ok, List.map_toArray, List.map_cons, List.map_nil, hv, hx, r1]
  exact h v' w' r2 r3 r4
theorem wpList_append_src {ops : Array Oper} {rest : List Oper} {o : Oper} {a : Act} {Q : Exit → Act → World → Prop} (hg : o.guard = none) (s x : Operand) (t : TypeId) (ho : o.op = .call { callee := .builtin .append, args := #[s, x], argTypes := #[t, t] })
    (e : TypeId) (i : TypeInfo) (z : Value) (size bytes : Nat) (ht : P.underlying t = some (.slice e)) (hi : P.info? e = some i) (hz : i.zero = some z)
    (hsize : i.size = size) (hby : i.bytes = bytes) (hzs : z.cells.size = size) (hsz : 0 < size) (base : Nat)
    (v : Value) (n : Nat) (xs : List Value) (hv : a.eval s = v) (hown : w.ownsRow base e size v n xs)
    (A : Option Addr) (m c : Nat) (news : List Value) (hx : a.eval x = .slice A m c) (hs : Src w size A m news) (h1 : ∀ u ∈ news, u.oneCell' = true)
    (h63 : n + m ≤ maxLen) (hbytes : (n + m) * bytes ≤ 140737488355328) (hbase : base ≤ w.heap.size)
    (h : ∀ v' w', w'.ownsRow base e size v' (n + m) (xs ++ news) → w.grownBy w' v.ownBlock → (v'.ownBlock = v.ownBlock ∨ v'.ownBlock = some w.heap.size) → wpList P ops Q rest (a.put o.dst v') w') : wpList P ops Q (o :: rest) a w :=
  wpList_plain hg fun _ hK => wp_append_src w s x t ho e i z size bytes ht hi hz hsize hby hzs hsz base v n xs hv hown A m c news hx hs h1 h63 hbytes hbase fun v' w' a b c => hK _ _ (h v' w' a b c)
end
section
variable {C q : Nat} {lv pv : Value} {A : St} {w w' wr : World} {P : List PW}
theorem Ref.setPend (h : Ref C q lv pv A w) {pv' : Value} {A' : St} (hrow : w.ownsRow C 70 2 pv' A'.pend.length (rcells A'.pend)) (hl : A'.last = A.last) (hr : A'.runs = A.runs) (hf : clamp A'.left = clamp A.left) (hfits : Fits A.last.length A'.pend)
    (l1 : -9223372036854775808 ≤ A'.left) (l2 : A'.left ≤ 9223372036854775807) : Ref C q lv pv' A' (w.setCell ⟨q, 1, none⟩ pv') := by
  have hother : ∀ k, k ≠ q → (w.setCell ⟨q, 1, none⟩ pv').heap[k]? = w.heap[k]? := fun k hk => heap_setCell_other _ _ _ _ hk
  refine ⟨h.hq, (heap_setCell_same w q 1 _ _ pv' h.head).trans (by rw [hr, hf]; rfl), ?_, ⟨hrow.1, ?_⟩, by rw [hl]; exact hfits, by rw [hl]; exact h.n2, l1, l2⟩
  · rw [hl]
    refine ⟨h.rowL.1, ?_⟩
    rcases h.rowL.2 with h1 | ⟨g', cap, cur, h1, h2, h3, h4⟩
    · exact .inl h1
    · refine .inr ⟨g', cap, cur, h1, h2, (hother g' ?_).trans h3, h4⟩
      rintro rfl
      rw [h.head] at h3; simp at h3
  · rcases hrow.2 with h1 | ⟨g', cap, cur, h1, h2, h3, h4⟩
    · exact .inl h1
    · refine .inr ⟨g', cap, cur, h1, h2, (hother g' ?_).trans h3, h4⟩
      rintro rfl
      rw [h.head] at h3; simp at h3
theorem rwrite_mid {A1 : St} {X w3 w4 : World} {v3 : Value} {ob : Obj} (h : Ref C q lv pv A1 X) (g3 : X.grownBy w3 none) (e3 : v3.ownBlock = none ∨ v3.ownBlock = some X.heap.size) (g4 : (w3.alloc ob).grownBy w4 v3.ownBlock) :
    Ref C q lv pv A1 w4 ∧ RLeaves C X w4 := by
  have b3 : Below X.heap.size X w3 := (Below.refl _ X).grown g3 (Nat.le_refl _) (fun q e => by cases e)
  have b4 : Below X.heap.size X w4 := (b3.alloc b3.size ob).grown g4 (by have := b3.size; simp; omega) (fun q e => by
    rcases e3 with e3 | e3
    · rw [e3] at e; cases e
    · rw [e3] at e; cases e; exact Nat.le_refl _)
  exact ⟨h.below b4 (Nat.le_refl _), RLeaves.of_below b4 (Nat.le_refl _) (by have := h.hq; have := h.lt; omega)⟩
theorem info_rw : (Try.prog.info? 70).map (fun i => (i.zero, i.size, i.bytes)) = some (some (.agg #[.int .i64 0, .string ⟨#[]⟩]), 2, 24) := by kernel_rfl
theorem rcells_one : ∀ (p : List PW), ∀ u ∈ rcells p, u.oneCell' = true
  | [], u, h => by simp [rcells] at h
  | x :: l, u, h => by
    simp only [rcells, List.mem_cons] at h
    rcases h with rfl | rfl | h
    · rfl
    · rfl
    · exact rcells_one l u h
theorem Ref.src (h : Ref C q lv pv A w) {a : Option Addr} {m c : Nat} (e : pv = .slice a m c) : Src w 2 a m (rcells A.pend) := by
  rcases h.rowP.2 with ⟨h1, h2⟩ | ⟨g', cap, cur, h1, h2, h3, h4, h5, h6, h7⟩
  · rw [e] at h1
    simp only [Value.slice.injEq] at h1
    obtain ⟨rfl, rfl, rfl⟩ := h1
    exact ⟨by rw [rcells_length, h2], fun h => by omega⟩
  · rw [e] at h1
    simp only [Value.slice.injEq] at h1
    obtain ⟨rfl, rfl, rfl⟩ := h1
    refine ⟨rcells_length _, fun _ => ⟨_, rfl, fun j u hu => ?_⟩⟩
    rw [← h7, List.getElem?_take] at hu
    split at hu
    · rw [add_plain, Nat.zero_add, cell_of_row _ _ _ _ _ _ h3]
      simpa using hu
    · simp at hu
/-! Write. -/
set_option maxHeartbeats 1000000 in
theorem rwrite_dead (h : Ref C q lv pv A w) (n : Int) (x : Value) (hr : A.runs = false) : Calls Try.prog 26 #[ptr q, .int .i64 n, x] w fun e w' => e = .returned (.int .i64 10) ∧ w = w' := by
  have h2 := h.cell.2.2.1
  rw [hr] at h2
  go_enter Try.func26, Try.ntmps26
  go_wp2_with fail
  go_ret
  exact ⟨rfl, rfl⟩
set_option maxHeartbeats 1000000 in
theorem rwrite_range (h : Ref C q lv pv A w) (n : Int) (x : Value) (hr : A.runs = true) (hn : n < 0 ∨ (A.last.length : Int) ≤ n) : Calls Try.prog 26 #[ptr q, .int .i64 n, x] w fun e w' => e = .returned (.int .i64 12) ∧ w = w' := by
  obtain ⟨h0, h1, h2, -⟩ := h.cell
  rw [hr] at h2
  obtain ⟨a, c, e⟩ := h.shapeL
  rw [e] at h0
  have hm := h.n2
  clear h e
  generalize A.last.length = m at *
  by_cases k0 : n < 0
  · clear hn
    go_enter Try.func26, Try.ntmps26
    go_wp2_with fail
    go_ret
    exact ⟨rfl, rfl⟩
  · have k1 : (m : Int) ≤ n := by omega
    have k2 : 0 ≤ n := by omega
    clear hn
    go_enter Try.func26, Try.ntmps26
    go_wp2_with fail
    go_ret
    exact ⟨rfl, rfl⟩
set_option maxHeartbeats 1000000 in
theorem rwrite_arg (h : Ref C q lv pv A w) (n : Nat) (x : ByteArray) (hr : A.runs = true) (hn : n < A.last.length) (hx : x.size ≠ 64) (hm : x.size ≤ maxLen) : Calls Try.prog 26 #[ptr q, .int .i64 n, .string x] w fun e w' => e = .returned (.int .i64 1) ∧ w = w' := by
  obtain ⟨h0, h1, h2, -⟩ := h.cell
  rw [hr] at h2
  obtain ⟨a, c, e⟩ := h.shapeL
  rw [e] at h0
  have hm2 := h.n2
  have hxb : ((x.size : Int) != 64) = true := by simp; omega
  clear h e
  generalize A.last.length = m at *
  have k0 : ¬ (n : Int) < 0 := by omega
  have k1 : ¬ (m : Int) ≤ (n : Int) := by omega
  unfold maxLen at hm
  go_enter Try.func26, Try.ntmps26
  go_wp2_with fail
  go_ret
  exact ⟨rfl, rfl⟩
set_option maxHeartbeats 1000000 in
theorem rwrite_stop (h : Ref C q lv pv A w) (n : Nat) (x : ByteArray) (hr : A.runs = true) (hn : n < A.last.length) (hx : x.size = 64) (hl : A.left = 0) : Calls Try.prog 26 #[ptr q, .int .i64 n, .string x] w fun e w' => e = .returned (.int .i64 10) ∧ Ref C q lv pv { A with runs := false } w' ∧ RLeaves C w w' := by
  obtain ⟨h0, h1, h2, h3⟩ := h.cell
  rw [hr] at h2
  rw [hl, show clamp 0 = 0 from rfl] at h3
  obtain ⟨a, c, e⟩ := h.shapeL
  rw [e] at h0
  have hm2 := h.n2
  have hf := h.free 2
  have hxb : ((x.size : Int) != 64) = false := by rw [hx]; rfl
  have HO := Lib.hid h
  have HLF := Lib.hid hl
  clear h e hr hl
  generalize A.last.length = m at *
  have k0 : ¬ (n : Int) < 0 := by omega
  have k1 : ¬ (m : Int) ≤ (n : Int) := by omega
  go_enter Try.func26, Try.ntmps26
  go_wp2_with fail
  go_ret
  have h := HO.out
  exact ⟨rfl, h.setHead rfl ((heap_setCell_same _ _ _ _ _ _ h.head).trans rfl) (fun k hk => heap_setCell_other _ _ _ _ hk) (.inl ⟨rfl, rfl⟩) h.l1 h.l2, RLeaves.setCell _ _ _ _ h.hq h.head (.inl rfl)⟩
set_option maxHeartbeats 4000000 in
theorem rwrite_ok (h : Ref C q lv pv A w) (k : Nat) (b : BA) (hr : A.runs = true) (hk : k < A.last.length) (hb : b.length = 64) (hl : A.left ≠ 0) (hm : A.pend.length ≤ 1000000) :
    Calls Try.prog 26 #[ptr q, .int .i64 k, .string (str b)] w fun e w' => e = .returned (.int .i64 0) ∧ RAfter C q (wrote A k b) w w' := by
  obtain ⟨h0, h1, h2, h3⟩ := h.cell
  rw [hr] at h2
  have hm2 := h.n2
  have hf3 := h.free 3
  obtain ⟨la, lc, hlv⟩ := h.shapeL
  obtain ⟨pa, pc, hpv⟩ := h.shapeP
  have HF := Lib.hid h.fits
  have HL := Lib.hid (show -9223372036854775808 ≤ A.left ∧ A.left ≤ 9223372036854775807 from ⟨h.l1, h.l2⟩)
  have hlb := HL.out
  have hys : (str b).size = 64 := by rw [str_size, hb]
  have HB := Lib.hid hb
  have HO := Lib.hid h
  clear h hr hb
  obtain ⟨m, hM⟩ : ∃ m, m = A.pend.length := ⟨_, rfl⟩
  obtain ⟨n, hN⟩ : ∃ n, n = A.last.length := ⟨_, rfl⟩
  obtain ⟨Y, hY⟩ : ∃ Y, Y = str b := ⟨_, rfl⟩
  have HM := Lib.hid hM
  have HN := Lib.hid hN
  have HY := Lib.hid hY.symm
  rw [hlv, hpv, ← hM, ← hN] at HO
  rw [hlv, ← hN] at h0
  rw [hpv, ← hM] at h1
  rw [← hM] at hm
  rw [← hN] at hk hm2
  rw [← hY] at hys ⊢
  clear hM hN hY hlv hpv
  have hxb : ((Y.size : Int) != 64) = false := by rw [hys]; rfl
  have k0 : ¬ (k : Int) < 0 := by omega
  have k1 : ¬ (n : Int) ≤ (k : Int) := by omega
  by_cases hpos : 0 < A.left
  · have hcl : clamp A.left = A.left := by unfold clamp; rw [if_neg (by omega)]
    have hcl2 : clamp (A.left - 1) = A.left - 1 := by unfold clamp; rw [if_neg (by omega)]
    rw [hcl] at h3
    have HX := Lib.hid (show Ref C q (.slice la n lc) (.slice pa m pc) { A with left := A.left - 1 } (w.setCell ⟨q, 3, none⟩ (.int .i64 (A.left - 1))) from
      HO.out.setHead rfl ((heap_setCell_same _ _ _ _ _ _ HO.out.head).trans (by show _ = some (Obj.cells #[_, _, _, .int .i64 (clamp (A.left - 1))] _ _); rw [hcl2]; rfl)) (fun k hk => heap_setCell_other _ _ _ _ hk) (.inl ⟨rfl, rfl⟩) (by show _ ≤ A.left - 1; omega) (by show A.left - 1 ≤ _; omega))
    have HWX := Lib.hid (show RLeaves C w (w.setCell ⟨q, 3, none⟩ (.int .i64 (A.left - 1))) from RLeaves.setCell _ _ _ _ HO.out.hq HO.out.head (.inl rfl))
    have HP := Lib.hid hpos
    clear hcl hcl2 hl hlb
    have hl0 : (A.left == (0 : Int)) = false := by simp; omega
    have hws : IntKind.i64.wrap (A.left - 1) = A.left - 1 := IntWalk.i64_in _ (by have := HL.out; omega)
    generalize hal : A.left = al at *
    have HAL := Lib.hid hal
    clear hal
    go_enter Try.func26, Try.ntmps26
    obtain ⟨i0, hi0, hz0, hz1, hz2⟩ := info_parts info_rw
    go_wp2_with (at_builtin; generalize w.setCell ⟨q, 3, none⟩ (.int .i64 (al - 1)) = X at *; have HS := Lib.hid (HX.out.src rfl); have HZ := Lib.hid (show C ≤ X.heap.size from by have := HX.out.hq; have := HX.out.lt; omega); refine wpList_append_src _ rfl (.const (.slice none 0 0)) (.tmp 53) 43 rfl 70 i0 (.agg #[.int .i64 0, .string ⟨#[]⟩]) 2 24 Try.underlying43 hi0 hz0 hz1 hz2 rfl (by decide) C _ 0 [] rfl (World.ownsRow_nil _ _ _ _) pa m pc (rcells A.pend) rfl HS.out (rcells_one _) (by unfold maxLen; omega) (by omega) HZ.out ?_)
    intro v3 w3 hown3 hgr3 hat3
    obtain ⟨a3, c3, rfl⟩ := own_shape hown3
    have H3 := Lib.hid hown3
    have G3 := Lib.hid hgr3
    have E3 := Lib.hid hat3
    have HZ3 := Lib.hid (show C ≤ w3.heap.size from Nat.le_trans HZ.out hgr3.size)
    clear hown3 hgr3 hat3
    go_wp2_with (at_builtin; refine wpList_append_src _ rfl (.tmp 54) (.tmp 58) 43 rfl 70 i0 (.agg #[.int .i64 0, .string ⟨#[]⟩]) 2 24 Try.underlying43 hi0 hz0 hz1 hz2 rfl (by decide) C _ m (rcells A.pend) rfl (World.ownsRow.alloc H3.out _) (some ⟨w3.heap.size, 0, none⟩) 1 1 [.int .i64 (k : Int), .string Y] rfl ?s1 ?s2 (by unfold maxLen; omega) (by omega) (by have := HZ3.out; simp; omega) ?_)
    case s1 => exact ⟨rfl, fun _ => ⟨_, rfl, fun j u hu => by rw [add_plain, Nat.zero_add, cell_of_row _ _ _ _ _ _ (heap_alloc_new w3 _)]; simpa using hu⟩⟩
    case s2 => intro u hu; simp at hu; rcases hu with rfl | rfl <;> rfl
    intro v4 w4 hown4 hgr4 _
    obtain ⟨a4, c4, rfl⟩ := own_shape hown4
    have HE := Lib.hid (rwrite_mid HX.out G3.out E3.out hgr4)
    obtain ⟨y0, y1, y2, y3⟩ := HE.out.1.cell
    have f1 := HE.out.1.free 1
    have HO4 := Lib.hid hown4
    clear hown4 hgr4
    go_wp2_with fail
    go_ret
    have hrow : w4.ownsRow C 70 2 (.slice a4 (m + 1) c4) (wrote A k b).pend.length (rcells (wrote A k b).pend) := by
      show w4.ownsRow C 70 2 (.slice a4 (m + 1) c4) (A.pend ++ [(k, b)]).length (rcells (A.pend ++ [(k, b)]))
      rw [rcells_append, List.length_append, ← HM.out]
      simp only [rcells, HY.out]
      exact HO4.out
    refine ⟨rfl, ⟨_, _, HE.out.1.setPend hrow rfl rfl (by show clamp (if 0 < A.left then A.left - 1 else A.left) = _; rw [HAL.out, if_pos HP.out]) (HF.out.snoc (by rw [← HN.out]; exact hk) HB.out) (by show _ ≤ (if 0 < A.left then A.left - 1 else A.left); have := HL.out; have := HAL.out; split <;> omega) (by show (if 0 < A.left then A.left - 1 else A.left) ≤ _; have := HL.out; have := HAL.out; split <;> omega)⟩, HWX.out.trans (HE.out.2.trans (RLeaves.setCell _ _ _ _ HE.out.1.hq HE.out.1.head (.inl rfl)))⟩
  · have hneg : A.left < 0 := by omega
    have HP := Lib.hid hpos
    have hl0 : (clamp A.left == (0 : Int)) = false := by
      have : clamp A.left ≠ 0 := by unfold clamp; split <;> omega
      simpa using this
    have hl1 : ¬ (0 : Int) < clamp A.left := by unfold clamp; split <;> omega
    have hl2 : clamp A.left ≤ (0 : Int) := by omega
    clear hpos hl hlb hneg
    have HX := HO
    generalize clamp A.left = al at *
    go_enter Try.func26, Try.ntmps26
    obtain ⟨i0, hi0, hz0, hz1, hz2⟩ := info_parts info_rw
    go_wp2_with (at_builtin; have HS := Lib.hid (HX.out.src rfl); have HZ := Lib.hid (show C ≤ w.heap.size from by have := HX.out.hq; have := HX.out.lt; omega); refine wpList_append_src _ rfl (.const (.slice none 0 0)) (.tmp 53) 43 rfl 70 i0 (.agg #[.int .i64 0, .string ⟨#[]⟩]) 2 24 Try.underlying43 hi0 hz0 hz1 hz2 rfl (by decide) C _ 0 [] rfl (World.ownsRow_nil _ _ _ _) pa m pc (rcells A.pend) rfl HS.out (rcells_one _) (by unfold maxLen; omega) (by omega) HZ.out ?_)
    intro v3 w3 hown3 hgr3 hat3
    obtain ⟨a3, c3, rfl⟩ := own_shape hown3
    have H3 := Lib.hid hown3
    have G3 := Lib.hid hgr3
    have E3 := Lib.hid hat3
    have HZ3 := Lib.hid (show C ≤ w3.heap.size from Nat.le_trans HZ.out hgr3.size)
    clear hown3 hgr3 hat3
    go_wp2_with (at_builtin; refine wpList_append_src _ rfl (.tmp 54) (.tmp 58) 43 rfl 70 i0 (.agg #[.int .i64 0, .string ⟨#[]⟩]) 2 24 Try.underlying43 hi0 hz0 hz1 hz2 rfl (by decide) C _ m (rcells A.pend) rfl (World.ownsRow.alloc H3.out _) (some ⟨w3.heap.size, 0, none⟩) 1 1 [.int .i64 (k : Int), .string Y] rfl ?s1 ?s2 (by unfold maxLen; omega) (by omega) (by have := HZ3.out; simp; omega) ?_)
    case s1 => exact ⟨rfl, fun _ => ⟨_, rfl, fun j u hu => by rw [add_plain, Nat.zero_add, cell_of_row _ _ _ _ _ _ (heap_alloc_new w3 _)]; simpa using hu⟩⟩
    case s2 => intro u hu; simp at hu; rcases hu with rfl | rfl <;> rfl
    intro v4 w4 hown4 hgr4 _
    obtain ⟨a4, c4, rfl⟩ := own_shape hown4
    have HE := Lib.hid (rwrite_mid HX.out G3.out E3.out hgr4)
    obtain ⟨y0, y1, y2, y3⟩ := HE.out.1.cell
    have f1 := HE.out.1.free 1
    have HO4 := Lib.hid hown4
    clear hown4 hgr4
    go_wp2_with fail
    go_ret
    have hrow : w4.ownsRow C 70 2 (.slice a4 (m + 1) c4) (wrote A k b).pend.length (rcells (wrote A k b).pend) := by
      show w4.ownsRow C 70 2 (.slice a4 (m + 1) c4) (A.pend ++ [(k, b)]).length (rcells (A.pend ++ [(k, b)]))
      rw [rcells_append, List.length_append, ← HM.out]
      simp only [rcells, HY.out]
      exact HO4.out
    refine ⟨rfl, ⟨_, _, HE.out.1.setPend hrow rfl rfl (by show clamp (if 0 < A.left then A.left - 1 else A.left) = _; rw [if_neg (by have := HP.out; omega)]) (HF.out.snoc (by rw [← HN.out]; exact hk) HB.out) (by show _ ≤ (if 0 < A.left then A.left - 1 else A.left); have := HL.out; split <;> omega) (by show (if 0 < A.left then A.left - 1 else A.left) ≤ _; have := HL.out; split <;> omega)⟩, HE.out.2.trans (RLeaves.setCell _ _ _ _ HE.out.1.hq HE.out.1.head (.inl rfl))⟩
end
end Go.Proofs.Ytnkhfgfiifadhaa
