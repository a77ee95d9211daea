/- The contracts of appendTwo, appendCell, Put. -/
import Derived.Test.YtljegjcajlkgiaaGreatZeros
import Derived.Test.YtljegjcajlkgiaaGreatFits
namespace Go.Proofs.YtljegjcajlkgiaaGreat
open Go.ChangeShapes Go.WideShapes Go.ChangeAt Go.RowKit
set_option linter.unusedVariables false
set_option linter.unusedSimpArgs false
set_option maxRecDepth 100000
/-- A row of bytes of a call's own. -/
def Bt (C : Nat) (w : World) (v : Value) (b : BA) : Prop := w.ownsRow C 5 1 v b.length (bcs b)
def Wrote (C : Nat) (v : Value) (b : BA) (w : World) (e : Ending) (w' : World) : Prop := ∃ v', e = .returned v' ∧ Bt C w' v' b ∧ w.grownBy w' v.ownBlock
theorem byte_val {n : Int} (h0 : 0 ≤ n) : (((UInt8.ofNat n.toNat).toNat : Nat) : Int) = n % 256 := by rw [UInt8.toNat_ofNat']; omega
theorem two_bcs {n : Int} (h0 : 0 ≤ n) (h1 : n < 65536) : bcs (two n) = [.int .u8 (n / 256), .int .u8 (n % 256)] := by
  have e1 : (((UInt8.ofNat (n.toNat / 256)).toNat : Nat) : Int) = n / 256 := by rw [UInt8.toNat_ofNat']; omega
  simp only [bcs, two, List.map_cons, List.map_nil, e1, byte_val h0]
theorem news_two (w : World) (a b : Value) (t : TypeId) : ∀ j u, [a, b][j]? = some u → (w.alloc (.cells #[a, b] t)).cell? ((⟨w.heap.size, 0, none⟩ : Addr).add j) = some u := by
  intro j u hu
  rw [add_plain, cell_of_row _ _ _ _ _ _ (heap_alloc_new w _), Nat.zero_add]
  simpa using hu
theorem news_one (w : World) (a : Value) (t : TypeId) : ∀ j u, [a][j]? = some u → (w.alloc (.cells #[a] t)).cell? ((⟨w.heap.size, 0, none⟩ : Addr).add j) = some u := by
  intro j u hu
  rw [add_plain, cell_of_row _ _ _ _ _ _ (heap_alloc_new w _), Nat.zero_add]
  simpa using hu
/-- Behind an append of a block laid for it. -/
theorem grown_alloc {w w1 : World} {o : Obj} {row : Option Nat} (h : (w.alloc o).grownBy w1 row) : w.grownBy w1 row :=
  ⟨h.os, h.tape, h.output, Nat.le_trans (by simp) h.size, fun k hk hne => (h.block k (by simp; omega) hne).trans (Below.heap_alloc w o k hk)⟩
theorem bt_add {C n : Nat} {w : World} {v : Value} {b d : BA} {xs : List Value} (h : w.ownsRow C 5 1 v n (bcs b ++ xs)) (hx : xs = bcs d) (hn : n = b.length + d.length) : Bt C w v (b ++ d) := by
  unfold Bt
  rw [bcs_append, List.length_append, ← hn, ← hx]
  exact h
set_option maxHeartbeats 1000000 in
theorem two_any (C : Nat) (n : Int) (b : BA) (v : Value) (w : World) (h0 : 0 ≤ n) (h1 : n < 65536) (hl : b.length ≤ 100000) (hC : C ≤ w.heap.size) (h : Bt C w v b) :
    Calls Tryz.prog 106 #[v, .int .i64 n] w fun e w' => Wrote C v (b ++ two n) w e w' := by
  obtain ⟨i0, hi, hz0, hz1, hz2⟩ := info_parts info_u
  obtain ⟨A, c, rfl⟩ := own_shape h
  have H := Lib.hid h
  clear h
  go_enter Tryz.func106, Tryz.ntmps106
  go_wp2_with (at_builtin; refine wpList_append_own _ rfl _ _ 70 rfl C 5 i0 (.int .u8 0) 1 1 Tryz.underlying70 hi hz0 hz1 hz2 rfl (by decide) _ _ _ rfl (World.ownsRow.alloc H.out _) ⟨w.heap.size, 0, none⟩ 2 2 [.int .u8 (n / 256), .int .u8 (n % 256)] rfl rfl (news_two _ _ _ _) (by simp [Value.oneCell']) (by unfold maxLen; omega) (by omega) (by simp; omega) ?_; intro v' w1 hown hgrow _)
  go_ret
  exact ⟨v', rfl, bt_add hown (two_bcs h0 h1).symm rfl, grown_alloc hgrow⟩
def kbyte (n : Nat) : BA := [UInt8.ofNat n]
theorem kbyte_bcs {n : Nat} (h : n < 256) : [Value.int .u8 (n : Int)] = bcs (kbyte n) := by
  simp only [bcs, kbyte, List.map_cons, List.map_nil, byte_nat h]
theorem own_any {w : World} {B e s n : Nat} {v : Value} {xs : List Value} (h : w.ownsRow B e s v n xs) : ∃ A m c, v = .slice A m c := by
  obtain ⟨A, c, h⟩ := own_shape h
  exact ⟨A, n, c, h⟩
structure St (C : Nat) (w W : World) (v : Value) (b : BA) (B : Nat) (x : Ce) : Prop where
  bt : Bt C W v b
  box : Box W B (.string x.key) (.string x.val) (.int .i64 x.blob) (.int .i64 x.size)
  bel : Below C w W
  le : C ≤ W.heap.size
theorem box_ne {w : World} {B C n : Nat} {v v0 v1 v2 v3 : Value} {xs : List Value} (h : Box w B v0 v1 v2 v3) (k : w.ownsRow C 5 1 v n xs) : v.ownBlock ≠ some B := by
  intro e
  rcases k.2 with ⟨rfl, _⟩ | ⟨g, cap, cur, rfl, _, hg, _⟩
  · cases e
  · simp only [Value.ownBlock, Option.some.injEq] at e
    subst e
    unfold Box at h
    rw [h] at hg
    simp at hg
theorem St.step {C : Nat} {w W w1 : World} {v v1 : Value} {b d : BA} {B : Nat} {x : Ce} (h : St C w W v b B x) (hg : W.grownBy w1 v.ownBlock) (hb : Bt C w1 v1 d) : St C w w1 v1 d B x :=
  ⟨hb, (hg.block B h.box.lt (fun e => box_ne h.box h.bt e.symm)).trans h.box, h.bel.grown hg h.le (fun k hk => (h.bt.lt k hk).1), Nat.le_trans h.le hg.size⟩
theorem St.start {C : Nat} {w : World} {v : Value} {b : BA} {x : Ce} (h : Bt C w v b) (hC : C ≤ w.heap.size) : St C w (w.alloc (.cells #[.string x.key, .string x.val, .int .i64 x.blob, .int .i64 x.size] 42)) v b w.heap.size x :=
  ⟨World.ownsRow.alloc h _, Box.new w _ _ _ _, (Below.refl _ _).alloc hC _, Nat.le_trans hC (by simp)⟩
theorem bcs_str (s : ByteArray) : Lib.strCells s = bcs s.data.toList := rfl
def WroteB (C : Nat) (b : BA) (w : World) (e : Ending) (w' : World) : Prop := ∃ v', e = .returned v' ∧ Bt C w' v' b ∧ Below C w w'
set_option maxHeartbeats 2000000 in
theorem appendCell_any (C : Nat) (x : Ce) (b : BA) (v : Value) (w : World) (hx : x.Ok) (hl : b.length ≤ 90000) (hC : C ≤ w.heap.size) (h : Bt C w v b) :
    Calls Tryz.prog 82 #[v, cvC x] w fun e w' => WroteB C (b ++ encC x) w e w' := by
  obtain ⟨i0, hi, hz0, hz1, hz2⟩ := info_parts info_u
  obtain ⟨A, n, c, rfl⟩ := own_any h
  have S0 := Lib.hid (St.start (x := x) h hC)
  have N0 := Lib.hid (fun t => news_one (w.alloc (.cells #[.string x.key, .string x.val, .int .i64 x.blob, .int .i64 x.size] 42)) (.int .u8 (x.key.size : Int)) t)
  rw [show (w.alloc (.cells #[.string x.key, .string x.val, .int .i64 x.blob, .int .i64 x.size] 42)).heap.size = w.heap.size + 1 by simp] at N0
  clear h
  obtain ⟨k, vl, bl, sz⟩ := x
  have hk1 : k.size ≤ 16 := hx.1.2
  have hk0 : (0 : Int) ≤ (k.size : Int) := by omega
  have hk2 : (k.size : Int) < 256 := by omega
  have hk3 : (k.size : Int) % 256 = (k.size : Int) := by omega
  have HK := Lib.hid (kbyte_bcs (n := k.size) (by omega))
  have HZ := Lib.hid (kbyte_bcs (n := 0) (by omega))
  have HO := Lib.hid (kbyte_bcs (n := 1) (by omega))
  unfold cvC cv
  dsimp only at S0 N0 ⊢
  by_cases hb : bl = 0
  · have hv : vl.size ≤ 40 := by
      obtain ⟨_, h | h⟩ := hx
      · exact h.2.1
      · have := h.1.1; dsimp only at this; omega
    subst hb
    have HL := Lib.hid (show b.length ≤ 90000 ∧ k.size ≤ 16 ∧ vl.size ≤ 40 ∧ k.data.size ≤ 16 ∧ vl.data.size ≤ 40 from ⟨hl, hk1, hv, hk1, hv⟩)
    have HV := Lib.hid (show (0 : Int) ≤ (vl.size : Int) ∧ (vl.size : Int) < 65536 by omega)
    have HE := Lib.hid (show (((b ++ kbyte k.size) ++ k.data.toList) ++ kbyte 0) ++ two vl.size ++ vl.data.toList = b ++ encC ⟨k, vl, 0, sz⟩ by unfold encC tailC; rw [if_pos rfl]; simp [kbyte, two])
    generalize b ++ encC ⟨k, vl, 0, sz⟩ = E at HE ⊢
    clear hx hv hl
    go_enter Tryz.func82, Tryz.ntmps82
    go_wp2_with (first
      | (at_builtin; refine Lib.wpList_append_own_string _ rfl _ _ 70 9 rfl C 5 i0 Tryz.underlying70 Tryz.underlying9 hi hz0 hz1 hz2 _ (List.length ((((b ++ kbyte k.size) ++ k.data.toList) ++ kbyte 0) ++ two vl.size)) _ rfl S4.out.bt vl rfl (by have := HL.out; unfold maxLen; simp [kbyte, two, size_data]; omega) (by have := HL.out; simp [kbyte, two, size_data]; omega) S4.out.le ?_; intro v5 w5 hown hgrow _; obtain ⟨A5, n5, c5, rfl⟩ := own_any hown; have S5 := Lib.hid (S4.out.step hgrow (bt_add (d := vl.data.toList) hown (bcs_str vl) (by rw [size_data]))); clear hown hgrow; obtain ⟨x0, x1, x2, x3⟩ := S5.out.box.cells)
      | (go_at_call 106; refine (two_any C (vl.size : Int) _ _ _ HV.out.1 HV.out.2 (by have := HL.out; simp [kbyte, two, size_data]; omega) S3.out.le S3.out.bt).mono ?_; rintro e w4 ⟨v4, rfl, hown, hgrow⟩; obtain ⟨A4, n4, c4, rfl⟩ := own_any hown; have S4 := Lib.hid (S3.out.step hgrow hown); clear hown hgrow; obtain ⟨x0, x1, x2, x3⟩ := S4.out.box.cells)
      | (at_builtin; refine wpList_append_own _ rfl _ _ 70 rfl C 5 i0 (.int .u8 0) 1 1 Tryz.underlying70 hi hz0 hz1 hz2 rfl (by decide) _ (List.length ((b ++ kbyte k.size) ++ k.data.toList)) _ rfl (World.ownsRow.alloc S2.out.bt _) ⟨_, 0, none⟩ 1 1 [.int .u8 0] rfl rfl (news_one _ _ _) (by simp [Value.oneCell']) (by have := HL.out; unfold maxLen; simp [kbyte]; omega) (by have := HL.out; simp [kbyte]; omega) (by have := S2.out.le; simp; omega) ?_; intro v3 w3 hown hgrow _; obtain ⟨A3, n3, c3, rfl⟩ := own_any hown; have S3 := Lib.hid (S2.out.step (grown_alloc hgrow) (bt_add (d := kbyte 0) hown HZ.out rfl)); clear hown hgrow; obtain ⟨x0, x1, x2, x3⟩ := S3.out.box.cells)
      | (at_builtin; refine Lib.wpList_append_own_string _ rfl _ _ 70 9 rfl C 5 i0 Tryz.underlying70 Tryz.underlying9 hi hz0 hz1 hz2 _ (List.length (b ++ kbyte k.size)) _ rfl S1.out.bt k rfl (by have := HL.out; unfold maxLen; simp [kbyte, two, size_data]; omega) (by have := HL.out; simp [kbyte, two, size_data]; omega) S1.out.le ?_; intro v2 w2 hown hgrow _; obtain ⟨A2, n2, c2, rfl⟩ := own_any hown; have S2 := Lib.hid (S1.out.step hgrow (bt_add (d := k.data.toList) hown (bcs_str k) (by rw [size_data]))); clear hown hgrow; obtain ⟨x0, x1, x2, x3⟩ := S2.out.box.cells)
      | (at_builtin; refine wpList_append_own _ rfl _ _ 70 rfl C 5 i0 (.int .u8 0) 1 1 Tryz.underlying70 hi hz0 hz1 hz2 rfl (by decide) _ (List.length (b)) _ rfl (World.ownsRow.alloc S0.out.bt _) ⟨_, 0, none⟩ 1 1 [.int .u8 (k.size : Int)] rfl rfl (N0.out _) (by simp [Value.oneCell']) (by have := HL.out; unfold maxLen; simp [kbyte]; omega) (by have := HL.out; simp [kbyte]; omega) (by have := S0.out.le; simp; omega) ?_; intro v1 w1 hown hgrow _; obtain ⟨A1, n1, c1, rfl⟩ := own_any hown; have S1 := Lib.hid (S0.out.step (grown_alloc hgrow) (bt_add (d := kbyte k.size) hown HK.out rfl)); clear hown hgrow; obtain ⟨x0, x1, x2, x3⟩ := S1.out.box.cells))
    go_ret
    exact ⟨.slice A5 n5 c5, rfl, by rw [← HE.out]; exact S5.out.bt, S5.out.bel⟩
  · have hv : (2 ≤ bl ∧ bl ≤ 63) ∧ 41 ≤ sz ∧ sz ≤ 400 := by
      obtain ⟨_, h | h⟩ := hx
      · exact absurd h.1 hb
      · exact ⟨h.1, h.2.2⟩
    have hb' : (bl == 0) = false := by rw [beq_eq_false_iff_ne]; exact hb
    have HL := Lib.hid (show b.length ≤ 90000 ∧ k.size ≤ 16 ∧ k.data.size ≤ 16 from ⟨hl, hk1, hk1⟩)
    have HV := Lib.hid (show (0 ≤ sz ∧ sz < 65536) ∧ 0 ≤ bl ∧ bl < 65536 by omega)
    have HE := Lib.hid (show (((b ++ kbyte k.size) ++ k.data.toList) ++ kbyte 1) ++ two sz ++ two bl = b ++ encC ⟨k, vl, bl, sz⟩ by unfold encC tailC; rw [if_neg hb]; simp [kbyte, two])
    generalize b ++ encC ⟨k, vl, bl, sz⟩ = E at HE ⊢
    clear hx hv hl
    go_enter Tryz.func82, Tryz.ntmps82
    go_wp2_with (first
      | (go_at_call 106; refine (two_any C bl _ _ _ HV.out.2.1 HV.out.2.2 (by have := HL.out; simp [kbyte, two, size_data]; omega) S4.out.le S4.out.bt).mono ?_; rintro e w5 ⟨v5, rfl, hown, hgrow⟩; obtain ⟨A5, n5, c5, rfl⟩ := own_any hown; have S5 := Lib.hid (S4.out.step hgrow hown); clear hown hgrow; obtain ⟨x0, x1, x2, x3⟩ := S5.out.box.cells)
      | (go_at_call 106; refine (two_any C sz _ _ _ HV.out.1.1 HV.out.1.2 (by have := HL.out; simp [kbyte, two, size_data]; omega) S3.out.le S3.out.bt).mono ?_; rintro e w4 ⟨v4, rfl, hown, hgrow⟩; obtain ⟨A4, n4, c4, rfl⟩ := own_any hown; have S4 := Lib.hid (S3.out.step hgrow hown); clear hown hgrow; obtain ⟨x0, x1, x2, x3⟩ := S4.out.box.cells)
      | (at_builtin; refine wpList_append_own _ rfl _ _ 70 rfl C 5 i0 (.int .u8 0) 1 1 Tryz.underlying70 hi hz0 hz1 hz2 rfl (by decide) _ (List.length ((b ++ kbyte k.size) ++ k.data.toList)) _ rfl (World.ownsRow.alloc S2.out.bt _) ⟨_, 0, none⟩ 1 1 [.int .u8 1] rfl rfl (news_one _ _ _) (by simp [Value.oneCell']) (by have := HL.out; unfold maxLen; simp [kbyte]; omega) (by have := HL.out; simp [kbyte]; omega) (by have := S2.out.le; simp; omega) ?_; intro v3 w3 hown hgrow _; obtain ⟨A3, n3, c3, rfl⟩ := own_any hown; have S3 := Lib.hid (S2.out.step (grown_alloc hgrow) (bt_add (d := kbyte 1) hown HO.out rfl)); clear hown hgrow; obtain ⟨x0, x1, x2, x3⟩ := S3.out.box.cells)
      | (at_builtin; refine Lib.wpList_append_own_string _ rfl _ _ 70 9 rfl C 5 i0 Tryz.underlying70 Tryz.underlying9 hi hz0 hz1 hz2 _ (List.length (b ++ kbyte k.size)) _ rfl S1.out.bt k rfl (by have := HL.out; unfold maxLen; simp [kbyte, two, size_data]; omega) (by have := HL.out; simp [kbyte, two, size_data]; omega) S1.out.le ?_; intro v2 w2 hown hgrow _; obtain ⟨A2, n2, c2, rfl⟩ := own_any hown; have S2 := Lib.hid (S1.out.step hgrow (bt_add (d := k.data.toList) hown (bcs_str k) (by rw [size_data]))); clear hown hgrow; obtain ⟨x0, x1, x2, x3⟩ := S2.out.box.cells)
      | (at_builtin; refine wpList_append_own _ rfl _ _ 70 rfl C 5 i0 (.int .u8 0) 1 1 Tryz.underlying70 hi hz0 hz1 hz2 rfl (by decide) _ (List.length (b)) _ rfl (World.ownsRow.alloc S0.out.bt _) ⟨_, 0, none⟩ 1 1 [.int .u8 (k.size : Int)] rfl rfl (N0.out _) (by simp [Value.oneCell']) (by have := HL.out; unfold maxLen; simp [kbyte]; omega) (by have := HL.out; simp [kbyte]; omega) (by have := S0.out.le; simp; omega) ?_; intro v1 w1 hown hgrow _; obtain ⟨A1, n1, c1, rfl⟩ := own_any hown; have S1 := Lib.hid (S0.out.step (grown_alloc hgrow) (bt_add (d := kbyte k.size) hown HK.out rfl)); clear hown hgrow; obtain ⟨x0, x1, x2, x3⟩ := S1.out.box.cells))
    go_ret
    exact ⟨.slice A5 n5 c5, rfl, by rw [← HE.out]; exact S5.out.bt, S5.out.bel⟩
theorem own_len {w : World} {B e s n : Nat} {v : Value} {xs : List Value} (h : w.ownsRow B e s v n xs) : ∃ A m c, v = .slice A m c ∧ m = n := by
  obtain ⟨A, c, h⟩ := own_shape h
  exact ⟨A, n, c, h, rfl⟩
theorem own_some {w : World} {B e s n : Nat} {v : Value} {xs : List Value} (h : w.ownsRow B e s v n xs) (h0 : 0 < n) : ∃ g c, v = .slice (some ⟨g, 0, none⟩) n c := by
  rcases h.2 with ⟨_, h1⟩ | ⟨g, cap, cur, rfl, _⟩
  · omega
  · exact ⟨g, cap, rfl⟩
theorem conv_back {C n m c g : Nat} {w : World} {b : BA} (h : w.ownsRow C 5 1 (.slice (some ⟨g, 0, none⟩) m c) n (bcs b)) (hm : b.length = m) :
    (convert 70 9 (.slice (some ⟨g, 0, none⟩) m c)).run Tryz.prog w = .ok (.string (str b)) w := by
  subst hm
  refine run_convert_bytes_back w 70 9 5 ⟨g, 0, none⟩ c b Tryz.underlying70 Tryz.underlying5 Tryz.underlying9 (fun j hj => ?_)
  exact h.cells rfl j _ (by simp [bcs, List.getElem?_eq_getElem hj])
theorem put_conv {C z m c : Nat} {A : Option Addr} {w : World} {b E : BA} {k : Nat} (h : w.ownsRow C 5 1 (.slice A m c) k (bcs b ++ List.replicate z zv)) (hm : m = k) (hl : (b ++ zs z).length = k) (hE : b ++ zs z = E) (h0 : 0 < k) :
    (convert 70 9 (.slice A m c)).run Tryz.prog w = .ok (.string (str E)) w := by
  subst hm hE
  rw [← bcs_zs, ← bcs_append] at h
  obtain ⟨g, c2, hg⟩ := own_some h h0
  simp only [Value.slice.injEq] at hg
  obtain ⟨rfl, _, rfl⟩ := hg
  exact conv_back h hl
theorem put_parts (l : List Ce) (n z : Nat) (hn : l.length = n) (hz : z = 239 - sums l) : (kbyte n ++ encs l) ++ zs z = bodyOf l := by
  subst hn hz
  rfl
theorem bt_start {D n : Nat} (w : World) (h : n < 256) (hD : D ≤ w.heap.size) : Bt D (w.alloc (.cells #[.int .u8 (n : Int)] 5)) (.slice (some ⟨w.heap.size, 0, none⟩) 1 1) (kbyte n) := by
  refine ⟨by rw [bcs_length]; rfl, .inr ⟨w.heap.size, 1, _, rfl, hD, heap_alloc_new w _, Nat.le_refl _, by unfold maxLen; omega, rfl, ?_⟩⟩
  rw [← kbyte_bcs h]
  rfl
set_option maxHeartbeats 2000000 in
theorem put_ok {C n c : Nat} {A : Option Addr} {l : List Ce} (w : World) (h : Ces C w A l) (hn : l.length = n) (hC : C ≤ w.heap.size) (ho : putOk l = true) :
    Calls Tryz.prog 28 #[.slice A n c] w fun e w' => e = .returned (.tuple #[.string (str (bodyOf l)), .bool true]) ∧ Below w.heap.size w w' := by
  obtain ⟨i0, hi, hz0, hz1, hz2⟩ := info_parts info_u
  have hf := putOk_fits ho
  have hm : n ≤ 47 := by have := fits_len hf; omega
  obtain ⟨hok, hsum, hr⟩ := putOk_iff.1 ho
  have FI := Lib.hid (fits_walk (c := c) w h hn (by omega) hC)
  rw [hf] at FI
  have AS := Lib.hid (fun w' (hb : Below w.heap.size w w') => asc_walk (c := c) w' (h.kept (hb.mono hC)) hn (by omega) (Nat.le_trans hC hb.size))
  rw [hr] at AS
  have HP := Lib.hid h
  have HN := Lib.hid hn
  have HC := Lib.hid hC
  have HOK := Lib.hid hok
  have HSUM := Lib.hid hsum
  have HM := Lib.hid hm
  have b0 : (0 : Int) ≤ (n : Int) := by omega
  have b1 : (n : Int) < 256 := by omega
  have b2 : (n : Int) % 256 = (n : Int) := by omega
  have HK := Lib.hid (kbyte_bcs (n := n) (by omega))
  have HE := Lib.hid (fun z => put_parts l n z hn)
  generalize bodyOf l = E at *
  clear h hn hC ho hf hok hr hm
  go_enter Tryz.func28, Tryz.ntmps28
  go_wp2_with fail
  refine FI.out.mono ?_; rintro e w1 ⟨rfl, hb⟩
  have H1 := Lib.hid hb
  clear hb FI
  go_wp2_with fail
  refine (AS.out _ H1.out).mono ?_; rintro e w2 ⟨rfl, hb⟩
  have H2 := Lib.hid (H1.out.trans (hb.mono H1.out.size))
  clear hb AS H1
  go_wp2_with fail
  have HS0 := Lib.hid (bt_start (D := w.heap.size) (n := n) w2 (by omega) H2.out.size)
  have HB0 := Lib.hid (H2.out.alloc H2.out.size (.cells #[.int .u8 (n : Int)] 5))
  generalize w2.alloc (.cells #[.int .u8 (n : Int)] 5) = W0 at *
  generalize w2.heap.size = G0 at *
  go_loopw [4, 21] (fun v x wr => ∃ k : Nat, k ≤ n ∧ x = .int .i64 k ∧ ∃ A m c, v = .slice A m c ∧ Hid (m = (kbyte n ++ encs (l.take k)).length) ∧ Hid (Bt w.heap.size wr (.slice A m c) (kbyte n ++ encs (l.take k)) ∧ Below w.heap.size w wr)) (fun _ x _ => n - (intOf x).toNat)
  case atStart => exact ⟨0, Nat.zero_le _, rfl, _, _, _, rfl, rfl, by rw [List.take_zero, encs_nil, List.append_nil]; exact HS0.out, HB0.out⟩
  case round =>
    obtain ⟨k, hk, rfl, A1, m1, c1, rfl, hm, hq⟩ := hrel
    have HQ := Lib.hid hq
    have HM1 := Lib.hid hm
    clear hq hm
    by_cases hlt : k < n
    · obtain ⟨b, off, rfl, hb, hp⟩ := HP.out.1 k (by rw [HN.out]; omega)
      have hbel := HQ.out.out.2
      obtain ⟨p0, p1, p2, p3⟩ := hp.kept (w' := wr) (Nat.lt_of_lt_of_le hb HC.out) hbel
      clear hbel hb hp
      have hko : (l.getD k nilC).Ok := HOK.out _ (getD_mem (by rw [HN.out]; exact hlt))
      have HT := Lib.hid (encs_take l k (by rw [HN.out]; exact hlt))
      have HLE := Lib.hid (show (kbyte n ++ encs (l.take k)).length ≤ 90000 by
        have := sums_le l k
        have := HSUM.out
        rw [List.length_append, encs_length]; simp only [kbyte, List.length_singleton]; omega)
      generalize l.getD k nilC = x at *
      have AC := Lib.hid (fun w' v (hC : w.heap.size ≤ w'.heap.size) (h : Bt w.heap.size w' v (kbyte n ++ encs (l.take k))) => appendCell_any w.heap.size x _ v w' hko HLE.out hC h)
      have HBA := Lib.hid (World.ownsRow.alloc HQ.out.out.1 (.cells #[.string x.key, .string x.val, .int .i64 x.blob, .int .i64 x.size] 42))
      have HBB := Lib.hid (HQ.out.out.2.alloc HQ.out.out.2.size (.cells #[.string x.key, .string x.val, .int .i64 x.blob, .int .i64 x.size] 42))
      unfold cvC cv at AC
      have q1 : (k : Int) < (n : Int) := by omega
      have q2 : (0 : Int) ≤ (k : Int) := by omega
      clear hko
      go_wp2_with fail
      refine (AC.out _ _ HBB.out.size HBA.out).mono ?_; rintro e w3 ⟨v3, rfl, hbt, hbl⟩
      obtain ⟨A3, m3, c3, rfl, hm3⟩ := own_len hbt
      have HM3 := Lib.hid hm3
      have HBT := Lib.hid hbt
      have HBL := Lib.hid (HBB.out.trans hbl)
      clear hm3 hbt hbl p0 p1 p2 p3
      go_wp2_with fail
      go_roundw
      case rel => exact ⟨k + 1, by omega, by go_num, A3, m3, c3, rfl, by rw [HT.out, ← List.append_assoc]; exact HM3.out, by rw [HT.out, ← List.append_assoc]; exact HBT.out, HBL.out⟩
      case measure => simp [intOf]; omega
    · obtain rfl : n = k := by omega
      have hall : l.take n = l := List.take_of_length_le (by rw [HN.out]; exact Nat.le_refl _)
      have hbt := HQ.out.out.1
      have hm1 : m1 = (kbyte n ++ encs (l.take n)).length := HM1.out
      rw [hall] at hbt hm1
      have hml : m1 = 1 + sums l := by rw [hm1, List.length_append, encs_length]; rfl
      have hml2 : 1 + sums l ≤ 240 := HSUM.out
      have hbt2 : wr.ownsRow w.heap.size 5 1 (.slice A1 m1 c1) m1 (bcs (kbyte n ++ encs l)) := by rw [hm1]; rw [hm1] at hbt; exact hbt
      obtain ⟨g, c2, hg⟩ := own_some hbt2 (by omega)
      simp only [Value.slice.injEq] at hg
      obtain ⟨rfl, _, rfl⟩ := hg
      obtain ⟨z, hz⟩ : ∃ z : Nat, z = 239 - sums l := ⟨_, rfl⟩
      have e1 : IntKind.i64.wrap (240 - (m1 : Int)) = (z : Int) := by rw [IntWalk.i64_in _ (by omega)]; omega
      have e2 : (240 : Int) - (m1 : Int) = (z : Int) := by omega
      have HEZ := Lib.hid (HE.out z hz)
      have HBT := Lib.hid hbt2
      have HZ := Lib.hid (show m1 + z ≤ 1000000 ∧ (kbyte n ++ encs l ++ zs z).length = m1 + z ∧ 0 < m1 + z from ⟨by omega, by rw [List.length_append, zs_length, ← hm1], by omega⟩)
      clear hall hbt hm1 hml hml2 hbt2 hz
      go_wp2_with (at_builtin; refine wpList_append_zeros _ rfl _ _ 70 3 rfl 5 i0 .i64 .i64 Tryz.underlying70 Tryz.underlying3 hi hz0 hz1 hz2 w.heap.size g m1 c1 _ rfl HBT.out z rfl HZ.out.1 HQ.out.out.2.size ?_; intro v4 w4 hown hgrow; obtain ⟨A4, m4, c4, rfl, hm4⟩ := own_len hown; have H4 := Lib.hid (And.intro hown hm4); have HB4 := Lib.hid (HQ.out.out.2.grown hgrow HQ.out.out.2.size (fun q hq => (HBT.out.lt q hq).1)); have hcv : (convert 70 9 (.slice A4 m4 c4)).run Tryz.prog w4 = .ok (.string (str E)) w4 := put_conv H4.out.1 H4.out.2 HZ.out.2.1 HEZ.out HZ.out.2.2; clear hown hgrow hm4)
      go_ret2
      exact ⟨rfl, HB4.out⟩
set_option maxHeartbeats 1000000 in
theorem put_bad {C n c : Nat} {A : Option Addr} {l : List Ce} (w : World) (h : Ces C w A l) (hn : l.length = n) (hm : n ≤ 1000000) (hC : C ≤ w.heap.size) (ho : putOk l = false) :
    Calls Tryz.prog 28 #[.slice A n c] w fun e w' => e = .returned (.tuple #[.string ⟨#[]⟩, .bool false]) ∧ Below w.heap.size w w' := by
  have FI := Lib.hid (fits_walk (c := c) w h hn hm hC)
  have AS := Lib.hid (fun w' (hb : Below w.heap.size w w') => asc_walk (c := c) w' (h.kept (hb.mono hC)) hn hm (Nat.le_trans hC hb.size))
  clear h hn hC
  unfold putOk at ho
  cases hf : fitsB l with
  | false =>
    rw [hf] at FI
    clear ho hf
    go_enter Tryz.func28, Tryz.ntmps28
    go_wp2_with fail
    refine FI.out.mono ?_; rintro e w1 ⟨rfl, hb⟩
    have H1 := Lib.hid hb
    clear hb FI
    go_wp2_with fail
    go_ret2
    exact ⟨rfl, H1.out⟩
  | true =>
    rw [hf] at FI ho
    rw [show risesB l = false from by simpa using ho] at AS
    clear ho hf
    go_enter Tryz.func28, Tryz.ntmps28
    go_wp2_with fail
    refine FI.out.mono ?_; rintro e w1 ⟨rfl, hb⟩
    have H1 := Lib.hid hb
    clear hb FI
    go_wp2_with fail
    refine (AS.out _ H1.out).mono ?_; rintro e w2 ⟨rfl, hb⟩
    have H2 := Lib.hid (H1.out.trans (hb.mono H1.out.size))
    clear hb AS H1
    go_wp2_with fail
    go_ret2
    exact ⟨rfl, H2.out⟩
theorem put_any {C n c : Nat} {A : Option Addr} {l : List Ce} (w : World) (h : Ces C w A l) (hn : l.length = n) (hm : n ≤ 1000000) (hC : C ≤ w.heap.size) :
    Calls Tryz.prog 28 #[.slice A n c] w fun e w' => e = .returned (.tuple #[.string (str (putS l)), .bool (putOk l)]) ∧ Below w.heap.size w w' := by
  unfold putS
  cases ho : putOk l with
  | false => exact put_bad w h hn hm hC ho
  | true => exact put_ok w h hn hC ho
end Go.Proofs.YtljegjcajlkgiaaGreat
