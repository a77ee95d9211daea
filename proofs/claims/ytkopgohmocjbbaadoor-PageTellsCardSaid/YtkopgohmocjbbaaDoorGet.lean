/- The contract of Get. -/
import Derived.Test.YtkopgohmocjbbaaDoorRput
import Derived.Deep.RegionHeld3
namespace Go.Proofs.YtkopgohmocjbbaaDoor
open Go.ChangeShapes Go.WideShapes Go.ChangeAt Go.RowKit
set_option linter.unusedVariables false
set_option linter.unusedSimpArgs false
def pvP (p : Pg) : Value := pv p.kind p.depth p.next (str p.body)
theorem get_len (b : ByteArray) (h : b.size ≠ 256) (hs : b.size ≤ maxLen) (w : World) : Calls Tryd.prog 12 #[.string b] w fun e w' => e = .returned (.tuple #[pvP nilP, .bool false]) ∧ Below w.heap.size w w' := by
  have h' : ((b.size : Int) == 256) = false := by rw [beq_eq_false_iff_ne]; omega
  unfold pvP pv nilP
  dsimp only
  rw [show str [] = ByteArray.mk #[] from rfl]
  go_enter Tryd.func12, Tryd.ntmps12
  go_wp2_with fail
  refine bodyPost_ret (v := .tuple #[.agg #[.int .i64 0, .int .i64 0, .int .i64 0, .string ⟨#[]⟩], .bool false]) (by simp [results, Tryd.results12, go_sem]) rfl ⟨rfl, ?_⟩
  exact (Below.refl _ _).alloc (Nat.le_refl _) _
theorem Box.kept {w w' : World} {b : Nat} {v0 v1 v2 v3 : Value} (h : Box w b v0 v1 v2 v3) (hb : Below w.heap.size w w') : Box w' b v0 v1 v2 v3 := h.below hb (Nat.le_refl _)
theorem below_four {w w' : World} {B b : Nat} (h : Below B w w') (hB : B ≤ b) (v0 v1 v2 v3 : Value) : Below B w ((((w'.setCell ⟨b, 0, none⟩ v0).setCell ⟨b, 1, none⟩ v1).setCell ⟨b, 2, none⟩ v2).setCell ⟨b, 3, none⟩ v3) :=
  (((h.setCell hB _).setCell hB _).setCell hB _).setCell hB _
set_option maxHeartbeats 1000000 in
theorem get_zero (w : World) : Calls Tryd.prog 12 #[.string (str (zs 256))] w fun e w' => e = .returned (.tuple #[pvP free, .bool true]) ∧ Below w.heap.size w w' := by
  have BL := Lib.hid (fun w => blank_any 256 (by omega) w)
  have EM := Lib.hid (fun w => empty_any 0 0 w)
  unfold pvP free
  dsimp only
  unfold pv at *
  obtain ⟨z, hz⟩ : ∃ z, z = str (zs 256) := ⟨_, rfl⟩
  rw [← hz] at BL ⊢
  obtain ⟨y, hy⟩ : ∃ y, y = str (zs 240) := ⟨_, rfl⟩
  rw [← hy] at EM ⊢
  have hzs : z.size = 256 := by rw [hz, str_size, zs_length]
  have hse : (z.toList == z.toList) = true := by simp
  clear hz hy
  have HX := Lib.hid (Box.new w (.int .i64 0) (.int .i64 0) (.int .i64 0) (.string ⟨#[]⟩))
  have HB := Lib.hid ((Below.refl w.heap.size w).alloc (Nat.le_refl _) (.cells #[.int .i64 0, .int .i64 0, .int .i64 0, .string ⟨#[]⟩] 23))
  go_enter Tryd.func12, Tryd.ntmps12
  go_wp2_with fail
  refine (BL.out _).mono ?_; rintro e w1 ⟨rfl, hb⟩
  have HX1 := Lib.hid (HX.out.kept hb)
  have HB1 := Lib.hid (HB.out.trans (hb.mono (Below.size HB.out)))
  clear hb HX HB
  go_wp2_with fail
  refine (EM.out _).mono ?_; rintro e w2 ⟨rfl, hb⟩
  have HX2 := Lib.hid (HX1.out.kept hb)
  have HB2 := Lib.hid (HB1.out.trans (hb.mono (Below.size HB1.out)))
  clear hb HX1 HB1
  obtain ⟨⟨x0, x1, x2, x3⟩, f0, f1, f2, f3⟩ := And.intro HX2.out.cells HX2.out.free
  go_wp2_with fail
  refine bodyPost_ret (v := .tuple #[.agg #[.int .i64 0, .int .i64 0, .int .i64 0, .string y], .bool true]) (by simp [results, Tryd.results12, go_sem, x0, x1, x2, x3]) rfl ⟨rfl, ?_⟩
  exact below_four HB2.out (Nat.le_refl _) _ _ _ _
/-! Numbers of two bytes. -/
theorem wrap_in (x : Int) (h0 : 0 ≤ x) (h1 : x ≤ 100000) : IntKind.i64.wrap x = x := IntWalk.i64_in _ (by omega)
theorem or_add (x y : Nat) (hx : x < 256) (hy : y < 256) : bits .or .i64 ((x : Int) * 256) (y : Int) = (x : Int) * 256 + (y : Int) := by
  have e1 : BitVec.ofInt 64 ((x : Int) * 256) = BitVec.ofNat 64 (x * 256) := by
    rw [show ((x : Int) * 256) = ((x * 256 : Nat) : Int) by omega, BitVec.ofInt_natCast]
  have e2 : BitVec.ofInt 64 (y : Int) = BitVec.ofNat 64 y := BitVec.ofInt_natCast ..
  show IntKind.i64.wrap ((BitVec.ofInt 64 ((x : Int) * 256) ||| BitVec.ofInt 64 (y : Int)).toNat : Int) = _
  rw [e1, e2, BitVec.toNat_or, BitVec.toNat_ofNat, BitVec.toNat_ofNat, Nat.mod_eq_of_lt (by omega), Nat.mod_eq_of_lt (by omega)]
  have := Nat.shiftLeft_add_eq_or_of_lt (i := 8) (b := y) hy x
  rw [Nat.shiftLeft_eq] at this
  rw [show (2 : Nat) ^ 8 = 256 from rfl] at this
  rw [← this, wrap_in _ (by omega) (by omega)]
  omega
theorem run_ix (b : ByteArray) (i : Nat) (hi : i < b.size) (w : World) : (Instr.index 9 (.string b) (.int .i64 i)).run Tryd.prog w = .ok (.int .u8 ((b.data.toList.getD i 0).toNat : Int)) w := by
  rw [run_index_string w 9 b .i64 (i : Int) Tryd.underlying9, dif_pos ⟨by omega, by omega⟩]
  have e : b[((i : Int)).toNat]'(by omega) = b.data.toList.getD i 0 := by
    rw [List.getD_eq_getElem?_getD, List.getElem?_eq_getElem (by simpa using hi)]
    rfl
  rw [e]
theorem extract_tail (b : ByteArray) (h : b.size = 256) : b.extract 16 256 = str (b.data.toList.drop 16) := by
  apply ByteArray.ext
  apply Array.ext'
  have : b.data.size = 256 := h
  simp [str, ByteArray.data_extract, this]
  rw [List.take_of_length_le (by simp [this])]
/-! A page's block, stored over. -/
theorem Box.set4 {w : World} {g : Nat} {a0 a1 a2 a3 : Value} (h : Box w g a0 a1 a2 a3) (v0 v1 v2 v3 : Value) : Box ((((w.setCell ⟨g, 0, none⟩ v0).setCell ⟨g, 1, none⟩ v1).setCell ⟨g, 2, none⟩ v2).setCell ⟨g, 3, none⟩ v3) g v0 v1 v2 v3 := by
  have h0 := heap_setCell_same w g 0 _ _ v0 h
  have h1 := heap_setCell_same _ g 1 _ _ v1 h0
  have h2 := heap_setCell_same _ g 2 _ _ v2 h1
  exact heap_setCell_same _ g 3 _ _ v3 h2
theorem Box.other4 {w : World} {g b : Nat} {a0 a1 a2 a3 : Value} (h : Box w b a0 a1 a2 a3) (hne : b ≠ g) (v0 v1 v2 v3 : Value) : Box ((((w.setCell ⟨g, 0, none⟩ v0).setCell ⟨g, 1, none⟩ v1).setCell ⟨g, 2, none⟩ v2).setCell ⟨g, 3, none⟩ v3) b a0 a1 a2 a3 := by
  unfold Box
  rw [Below.heap_setCell _ _ _ _ hne, Below.heap_setCell _ _ _ _ hne, Below.heap_setCell _ _ _ _ hne, Below.heap_setCell _ _ _ _ hne]
  exact h
theorem valB_none {l : BA} (h : getP l = none) : valB l = nilP := by unfold valB; rw [h]; rfl
theorem okB_none {l : BA} (h : getP l = none) : okB l = false := by unfold okB; rw [h]; rfl
theorem valB_some {l : BA} {p : Pg} (h : getP l = some p) : valB l = p := by unfold valB; rw [h]; rfl
theorem okB_some {l : BA} {p : Pg} (h : getP l = some p) : okB l = true := by unfold okB; rw [h]; rfl
theorem okV_ok {k d n : Int} {b : ByteArray} : okV k d n b = true ↔ (Pg.mk k d n b.data.toList).Ok := by
  unfold okV Pg.Ok
  rw [decide_eq_true_iff]
  simp only [Array.length_toList]
  rfl
set_option maxHeartbeats 4000000 in
theorem get_other (b : ByteArray) (h : b.size = 256) (hz : b ≠ str (zs 256)) (w : World) : Calls Tryd.prog 12 #[.string b] w fun e w' => e = .returned (.tuple #[pvP (valB b.data.toList), .bool (okB b.data.toList)]) ∧ Below w.heap.size w w' := by
  have BL := Lib.hid (fun w => blank_any 256 (by omega) w)
  have hne : (b.toList == (str (zs 256)).toList) = false := by
    rw [beq_eq_false_iff_ne]
    intro e
    apply hz
    rw [str_list, ByteArray.toList_eq] at e
    rw [← e, str_data]
  have hzl : b.data.toList ≠ zs 256 := fun e => hz (by rw [← str_data b, e])
  generalize str (zs 256) = z at BL hne
  -- the four numbers and the body
  have i2 : ∀ w : World, (Instr.index 9 (.string b) (.int .i64 2)).run Tryd.prog w = .ok (.int .u8 ((b.data.toList.getD 2 0).toNat : Int)) w := fun w => run_ix b 2 (by omega) w
  have i3 : ∀ w : World, (Instr.index 9 (.string b) (.int .i64 3)).run Tryd.prog w = .ok (.int .u8 ((b.data.toList.getD 3 0).toNat : Int)) w := fun w => run_ix b 3 (by omega) w
  have i4 : ∀ w : World, (Instr.index 9 (.string b) (.int .i64 4)).run Tryd.prog w = .ok (.int .u8 ((b.data.toList.getD 4 0).toNat : Int)) w := fun w => run_ix b 4 (by omega) w
  have i5 : ∀ w : World, (Instr.index 9 (.string b) (.int .i64 5)).run Tryd.prog w = .ok (.int .u8 ((b.data.toList.getD 5 0).toNat : Int)) w := fun w => run_ix b 5 (by omega) w
  have l2 := (b.data.toList.getD 2 0).toNat_lt
  have l3 := (b.data.toList.getD 3 0).toNat_lt
  have l4 := (b.data.toList.getD 4 0).toNat_lt
  have l5 := (b.data.toList.getD 5 0).toNat_lt
  have HL := Lib.hid (show b.data.toList.length = 256 by rw [Array.length_toList]; exact h)
  have ho := or_add _ _ l4 l5
  have HPG := Lib.hid (show ofB b.data.toList = ⟨((b.data.toList.getD 2 0).toNat : Int), ((b.data.toList.getD 3 0).toNat : Int), ((b.data.toList.getD 4 0).toNat : Int) * 256 + ((b.data.toList.getD 5 0).toNat : Int), b.data.toList.drop 16⟩ from rfl)
  generalize (b.data.toList.getD 2 0).toNat = c2 at *
  generalize (b.data.toList.getD 3 0).toNat = c3 at *
  generalize (b.data.toList.getD 4 0).toNat = c4 at *
  generalize (b.data.toList.getD 5 0).toNat = c5 at *
  have w2' := wrap_in c2 (by omega) (by omega)
  have w3' := wrap_in c3 (by omega) (by omega)
  have w4' := wrap_in c4 (by omega) (by omega)
  have w5' := wrap_in c5 (by omega) (by omega)
  have w6' := wrap_in ((c4 : Int) * 256) (by omega) (by omega)
  obtain ⟨body, hbody⟩ : ∃ body, body = b.extract 16 256 := ⟨_, rfl⟩
  have HBD := Lib.hid (show body.data.toList = b.data.toList.drop 16 by rw [hbody, extract_tail b h, str_toList])
  have hbs : body.size = 240 := by rw [hbody, extract_tail b h, str_size, List.length_drop, HL.out]
  have HBE := Lib.hid hbody.symm
  clear hbody
  obtain ⟨N, hN⟩ : ∃ N, N = (c4 : Int) * 256 + (c5 : Int) := ⟨_, rfl⟩
  rw [← hN] at ho HPG
  clear hN
  have CL := Lib.hid (fun w => clone_any body (by omega) w)
  have PU := Lib.hid (fun w => put_any c2 c3 N body w)
  have HX := Lib.hid (Box.new w (.int .i64 0) (.int .i64 0) (.int .i64 0) (.string ⟨#[]⟩))
  have HB := Lib.hid ((Below.refl w.heap.size w).alloc (Nat.le_refl _) (.cells #[.int .i64 0, .int .i64 0, .int .i64 0, .string ⟨#[]⟩] 23))
  clear hz
  have HZL := Lib.hid hzl
  clear hzl
  unfold pvP pv at *
  go_enter Tryd.func12, Tryd.ntmps12
  go_wp2_with fail
  refine (BL.out _).mono ?_; rintro e w1 ⟨rfl, hb⟩
  have HX1 := Lib.hid (HX.out.kept hb)
  have HB1 := Lib.hid (HB.out.trans (hb.mono (Below.size HB.out)))
  clear hb HX HB BL
  go_wp2_with fail
  refine wp_region_noPanic ?_
  refine wp_region_held_drew (S := Held w1) (by kernel_rfl) ?_ (fun hHeld => ?_)
  · exact (Below.refl _ _).drew
  refine wpAnyH_take (i := 0) (oi := { dst := some 15, op := Op.move (Operand.tmp 0), type := 9, pos := "page.go:41", after := #[], guard := none }) (v := .string b) rfl (by kernel_rfl) (by kernel_rfl) (by kernel_rfl) (fun _ _ _ h => h) (Or.inl ⟨by rfl, fun w' hSw => by ((try dsimp only at hSw); go_simp)⟩) (by assumption) ?_
  (try simp only [Act.put, List.setIfInBounds_toArray, List.set_cons_zero, List.set_cons_succ])
  refine wpAnyH_take (i := 1) (oi := { dst := some 16, op := Op.index 9 (Operand.tmp 15) (Operand.const (Value.int IntKind.i64 2)), type := 5, pos := "page.go:41", after := #[{ on := 0, ground := Ground.data }], guard := none }) (v := .int .u8 c2) rfl (by kernel_rfl) (by kernel_rfl) (by kernel_rfl) (fun _ _ _ h => h) (Or.inl ⟨by rfl, fun w' hSw => by ((try dsimp only at hSw); have := i2 w'; go_simp)⟩) (by assumption) ?_
  (try simp only [Act.put, List.setIfInBounds_toArray, List.set_cons_zero, List.set_cons_succ])
  refine wpAnyH_take (i := 2) (oi := { dst := some 17, op := Op.convert 5 3 (Operand.tmp 16), type := 3, pos := "page.go:41", after := #[{ on := 1, ground := Ground.data }], guard := none }) (v := .int .i64 c2) rfl (by kernel_rfl) (by kernel_rfl) (by kernel_rfl) (fun _ _ _ h => h) (Or.inl ⟨by rfl, fun w' hSw => by ((try dsimp only at hSw); go_simp)⟩) (by assumption) ?_
  (try simp only [Act.put, List.setIfInBounds_toArray, List.set_cons_zero, List.set_cons_succ])
  refine wpAnyH_take (i := 3) (oi := { dst := some 18, op := Op.move (Operand.tmp 0), type := 9, pos := "page.go:41", after := #[], guard := none }) (v := .string b) rfl (by kernel_rfl) (by kernel_rfl) (by kernel_rfl) (fun _ _ _ h => h) (Or.inl ⟨by rfl, fun w' hSw => by ((try dsimp only at hSw); go_simp)⟩) (by assumption) ?_
  (try simp only [Act.put, List.setIfInBounds_toArray, List.set_cons_zero, List.set_cons_succ])
  refine wpAnyH_take (i := 4) (oi := { dst := some 19, op := Op.index 9 (Operand.tmp 18) (Operand.const (Value.int IntKind.i64 3)), type := 5, pos := "page.go:41", after := #[{ on := 3, ground := Ground.data }], guard := none }) (v := .int .u8 c3) rfl (by kernel_rfl) (by kernel_rfl) (by kernel_rfl) (fun _ _ _ h => h) (Or.inl ⟨by rfl, fun w' hSw => by ((try dsimp only at hSw); have := i3 w'; go_simp)⟩) (by assumption) ?_
  (try simp only [Act.put, List.setIfInBounds_toArray, List.set_cons_zero, List.set_cons_succ])
  refine wpAnyH_take (i := 5) (oi := { dst := some 20, op := Op.convert 5 3 (Operand.tmp 19), type := 3, pos := "page.go:41", after := #[{ on := 4, ground := Ground.data }], guard := none }) (v := .int .i64 c3) rfl (by kernel_rfl) (by kernel_rfl) (by kernel_rfl) (fun _ _ _ h => h) (Or.inl ⟨by rfl, fun w' hSw => by ((try dsimp only at hSw); go_simp)⟩) (by assumption) ?_
  (try simp only [Act.put, List.setIfInBounds_toArray, List.set_cons_zero, List.set_cons_succ])
  refine wpAnyH_take (i := 6) (oi := { dst := some 21, op := Op.move (Operand.tmp 0), type := 9, pos := "page.go:41", after := #[], guard := none }) (v := .string b) rfl (by kernel_rfl) (by kernel_rfl) (by kernel_rfl) (fun _ _ _ h => h) (Or.inl ⟨by rfl, fun w' hSw => by ((try dsimp only at hSw); go_simp)⟩) (by assumption) ?_
  (try simp only [Act.put, List.setIfInBounds_toArray, List.set_cons_zero, List.set_cons_succ])
  refine wpAnyH_take (i := 7) (oi := { dst := some 22, op := Op.index 9 (Operand.tmp 21) (Operand.const (Value.int IntKind.i64 4)), type := 5, pos := "page.go:41", after := #[{ on := 6, ground := Ground.data }], guard := none }) (v := .int .u8 c4) rfl (by kernel_rfl) (by kernel_rfl) (by kernel_rfl) (fun _ _ _ h => h) (Or.inl ⟨by rfl, fun w' hSw => by ((try dsimp only at hSw); have := i4 w'; go_simp)⟩) (by assumption) ?_
  (try simp only [Act.put, List.setIfInBounds_toArray, List.set_cons_zero, List.set_cons_succ])
  refine wpAnyH_take (i := 8) (oi := { dst := some 23, op := Op.convert 5 3 (Operand.tmp 22), type := 3, pos := "page.go:41", after := #[{ on := 7, ground := Ground.data }], guard := none }) (v := .int .i64 c4) rfl (by kernel_rfl) (by kernel_rfl) (by kernel_rfl) (fun _ _ _ h => h) (Or.inl ⟨by rfl, fun w' hSw => by ((try dsimp only at hSw); go_simp)⟩) (by assumption) ?_
  (try simp only [Act.put, List.setIfInBounds_toArray, List.set_cons_zero, List.set_cons_succ])
  refine wpAnyH_take (i := 9) (oi := { dst := some 24, op := Op.binOp BinOp.shl 3 (Operand.tmp 23) (Operand.const (Value.int IntKind.u64 8)) 40, type := 3, pos := "page.go:41", after := #[{ on := 8, ground := Ground.data }], guard := none }) (v := .int .i64 ((c4 : Int) * 256)) rfl (by kernel_rfl) (by kernel_rfl) (by kernel_rfl) (fun _ _ _ h => h) (Or.inl ⟨by rfl, fun w' hSw => by ((try dsimp only at hSw); go_simp)⟩) (by assumption) ?_
  (try simp only [Act.put, List.setIfInBounds_toArray, List.set_cons_zero, List.set_cons_succ])
  refine wpAnyH_take (i := 10) (oi := { dst := some 25, op := Op.move (Operand.tmp 0), type := 9, pos := "page.go:41", after := #[], guard := none }) (v := .string b) rfl (by kernel_rfl) (by kernel_rfl) (by kernel_rfl) (fun _ _ _ h => h) (Or.inl ⟨by rfl, fun w' hSw => by ((try dsimp only at hSw); go_simp)⟩) (by assumption) ?_
  (try simp only [Act.put, List.setIfInBounds_toArray, List.set_cons_zero, List.set_cons_succ])
  refine wpAnyH_take (i := 11) (oi := { dst := some 26, op := Op.index 9 (Operand.tmp 25) (Operand.const (Value.int IntKind.i64 5)), type := 5, pos := "page.go:41", after := #[{ on := 10, ground := Ground.data }], guard := none }) (v := .int .u8 c5) rfl (by kernel_rfl) (by kernel_rfl) (by kernel_rfl) (fun _ _ _ h => h) (Or.inl ⟨by rfl, fun w' hSw => by ((try dsimp only at hSw); have := i5 w'; go_simp)⟩) (by assumption) ?_
  (try simp only [Act.put, List.setIfInBounds_toArray, List.set_cons_zero, List.set_cons_succ])
  refine wpAnyH_take (i := 12) (oi := { dst := some 27, op := Op.convert 5 3 (Operand.tmp 26), type := 3, pos := "page.go:41", after := #[{ on := 11, ground := Ground.data }], guard := none }) (v := .int .i64 c5) rfl (by kernel_rfl) (by kernel_rfl) (by kernel_rfl) (fun _ _ _ h => h) (Or.inl ⟨by rfl, fun w' hSw => by ((try dsimp only at hSw); go_simp)⟩) (by assumption) ?_
  (try simp only [Act.put, List.setIfInBounds_toArray, List.set_cons_zero, List.set_cons_succ])
  refine wpAnyH_take (i := 13) (oi := { dst := some 28, op := Op.binOp BinOp.or 3 (Operand.tmp 24) (Operand.tmp 27) 3, type := 3, pos := "page.go:41", after := #[{ on := 9, ground := Ground.data }, { on := 12, ground := Ground.data }], guard := none }) (v := .int .i64 N) rfl (by kernel_rfl) (by kernel_rfl) (by kernel_rfl) (fun _ _ _ h => h) (Or.inl ⟨by rfl, fun w' hSw => by ((try dsimp only at hSw); go_simp)⟩) (by assumption) ?_
  (try simp only [Act.put, List.setIfInBounds_toArray, List.set_cons_zero, List.set_cons_succ])
  refine wpAnyH_take (i := 14) (oi := { dst := some 29, op := Op.move (Operand.tmp 0), type := 9, pos := "page.go:41", after := #[], guard := none }) (v := .string b) rfl (by kernel_rfl) (by kernel_rfl) (by kernel_rfl) (fun _ _ _ h => h) (Or.inl ⟨by rfl, fun w' hSw => by ((try dsimp only at hSw); go_simp)⟩) (by assumption) ?_
  (try simp only [Act.put, List.setIfInBounds_toArray, List.set_cons_zero, List.set_cons_succ])
  refine wpAnyH_take (i := 15) (oi := { dst := some 30, op := Op.slice 9 (Operand.tmp 29) (some (Operand.const (Value.int IntKind.i64 16))) none none, type := 9, pos := "page.go:41", after := #[{ on := 14, ground := Ground.data }], guard := none }) (v := .string body) rfl (by kernel_rfl) (by kernel_rfl) (by kernel_rfl) (fun _ _ _ h => h) (Or.inl ⟨by rfl, fun w' hSw => by ((try dsimp only at hSw); have := HBE.out; go_simp)⟩) (by assumption) ?_
  (try simp only [Act.put, List.setIfInBounds_toArray, List.set_cons_zero, List.set_cons_succ])
  refine wpAnyH_ready (rs := [16, 18]) (by kernel_rfl) (by simp) ?_
  refine AllReadyH.cons (o := { dst := some 31, op := Op.call { callee := Callee.value (Operand.func 20), args := #[Operand.tmp 30], argTypes := #[9] }, type := 9, pos := "page.go:45", after := #[{ on := 15, ground := Ground.data }], guard := none }) rfl (fun K hK => ?_) ?_
  · go_simp; go_at_call 20; refine (CL.out _).mono ?_; rintro e w2 ⟨rfl, hb2⟩
    refine hK.out _ _ ?_ (fun hHeld => ?_)
    · exact Held.step (by assumption) hb2
    clear hK K
    (try simp only [Act.put, List.setIfInBounds_toArray, List.set_cons_zero, List.set_cons_succ])
    have hOld := hHeld
    refine wpAnyH_take (i := 17) (oi := { dst := some 32, op := Op.build 23 #[(0, Operand.tmp 17), (1, Operand.tmp 20), (2, Operand.tmp 28), (3, Operand.tmp 31)], type := 23, pos := "page.go:41", after := #[{ on := 2, ground := Ground.data }, { on := 5, ground := Ground.data }, { on := 13, ground := Ground.data }, { on := 16, ground := Ground.data }], guard := none }) (v := (.agg #[.int .i64 c2, .int .i64 c3, .int .i64 N, .string body])) rfl (by kernel_rfl) (by kernel_rfl) (by kernel_rfl) (fun _ _ _ h => h) (Or.inl ⟨by rfl, fun w' hSw => by ((try dsimp only at hSw); go_simp)⟩) (by assumption) ?_
    (try simp only [Act.put, List.setIfInBounds_toArray, List.set_cons_zero, List.set_cons_succ])
    refine wpAnyH_ready (rs := [18]) (by kernel_rfl) (by simp) ?_
    refine AllReadyH.cons (o := { dst := some 4, op := Op.alloc 23, type := 0, pos := "page.go:41", after := #[], guard := none }) rfl (fun K hK => ?_) ?_
    · go_simp
      refine hK.out _ _ ?_ (fun hHeld => ?_)
      · exact Held.step (by assumption) ((Below.refl _ _).alloc (Nat.le_refl _) _)
      clear hK K
      (try simp only [Act.put, List.setIfInBounds_toArray, List.set_cons_zero, List.set_cons_succ])
      refine wpAnyH_ready (rs := [19]) (by kernel_rfl) (by simp) ?_
      refine AllReadyH.cons (o := { dst := none, op := Op.store 23 (Operand.tmp 4) (Operand.tmp 32), type := 0, pos := "page.go:41", after := #[{ on := 18, ground := Ground.data }, { on := 17, ground := Ground.data }, { on := 16, ground := Ground.chain }, { on := 0, ground := Ground.phase }, { on := 1, ground := Ground.phase }, { on := 2, ground := Ground.phase }, { on := 3, ground := Ground.phase }, { on := 4, ground := Ground.phase }, { on := 5, ground := Ground.phase }, { on := 6, ground := Ground.phase }, { on := 7, ground := Ground.phase }, { on := 8, ground := Ground.phase }, { on := 9, ground := Ground.phase }, { on := 10, ground := Ground.phase }, { on := 11, ground := Ground.phase }, { on := 12, ground := Ground.phase }, { on := 13, ground := Ground.phase }, { on := 14, ground := Ground.phase }, { on := 15, ground := Ground.phase }, { on := 16, ground := Ground.phase }, { on := 17, ground := Ground.phase }, { on := 18, ground := Ground.phase }], guard := none }) rfl (fun K hK => ?_) ?_
      · go_simp
        refine hK.out _ _ ?_ (fun hHeld => ?_)
        · exact Held.step hOld ((Below.refl _ _).alloc (Nat.le_refl _) _)
        clear hK K
        (try simp only [Act.put, List.setIfInBounds_toArray, List.set_cons_zero, List.set_cons_succ])
        refine wpAnyH_done (by kernel_rfl) ?_ _
        refine NoPanic.normal ?_
        have HPB := Lib.hid (Box.new w2 (.int .i64 c2) (.int .i64 c3) (.int .i64 N) (.string body))
        have HRB := Lib.hid ((HX1.out.below hOld (Nat.le_refl _)).below ((Below.refl w2.heap.size w2).alloc (Nat.le_refl _) (.cells #[.int .i64 c2, .int .i64 c3, .int .i64 N, .string body] 23)) (Nat.le_refl _))
        have HBW := Lib.hid ((HB1.out.trans (Below.mono hOld (Below.size HB1.out))).alloc (Nat.le_trans (Below.size HB1.out) (Below.size hOld)) (.cells #[.int .i64 c2, .int .i64 c3, .int .i64 N, .string body] 23))
        have HGN := Lib.hid (Nat.ne_of_gt (Nat.lt_of_lt_of_le HX1.out.lt (Below.size hOld)))
        clear hHeld hOld HX1 HB1
        generalize w2.alloc (.cells #[.int .i64 c2, .int .i64 c3, .int .i64 N, .string body] 23) = V at *
        have hgn : w2.heap.size ≠ w.heap.size := HGN.out
        generalize w2.heap.size = g at *
        obtain ⟨p0, p1, p2, p3⟩ := HPB.out.cells
        cases hok : okV c2 c3 N body with
        | false =>
          rw [hok] at PU
          have HNO := Lib.hid (show ¬ ((Pg.mk c2 c3 N body.data.toList).Ok ∧ (Pg.mk c2 c3 N body.data.toList).bytes = b.data.toList) from fun hh => by rw [okV_ok.2 hh.1] at hok; cases hok)
          clear hok
          go_wp2_with fail
          refine (PU.out _).mono ?_; rintro e w3 ⟨rfl, hb3⟩
          have HRB3 := Lib.hid (HRB.out.kept hb3)
          have HPB3 := Lib.hid (HPB.out.kept hb3)
          have HB3 := Lib.hid (HBW.out.trans (hb3.mono (Below.size HBW.out)))
          clear hb3 HRB HPB HBW
          obtain ⟨⟨x0, x1, x2, x3⟩, f0, f1, f2, f3⟩ := And.intro HRB3.out.cells HRB3.out.free
          obtain ⟨y0, y1, y2, y3⟩ := HPB3.out.cells
          go_wp2_with fail
          have hnone : getP b.data.toList = none := getP_none HZL.out (by rw [HPG.out, ← HBD.out]; exact HNO.out)
          refine bodyPost_ret (v := .tuple #[.agg #[.int .i64 0, .int .i64 0, .int .i64 0, .string ⟨#[]⟩], .bool false]) (by simp [results, Tryd.results12, go_sem, x0, x1, x2, x3]) rfl ⟨by rw [valB_none hnone, okB_none hnone]; rfl, ?_⟩
          exact below_four HB3.out (Nat.le_refl _) _ _ _ _
        | true =>
          rw [hok, if_pos rfl] at PU
          have HOK := Lib.hid (okV_ok.1 hok)
          clear hok
          by_cases he : (Pg.mk c2 c3 N body.data.toList).bytes = b.data.toList
          · rw [he, str_data] at PU
            have hse : (b.toList == b.toList) = true := by simp
            have hsome := getP_one HL.out HZL.out (by rw [HPG.out, ← HBD.out]; exact HOK.out) (by rw [HPG.out, ← HBD.out]; exact he)
            rw [HPG.out, ← HBD.out] at hsome
            have HSM := Lib.hid hsome
            clear hsome he
            go_wp2_with fail
            refine (PU.out _).mono ?_; rintro e w3 ⟨rfl, hb3⟩
            have HRB3 := Lib.hid (HRB.out.kept hb3)
            have HPB3 := Lib.hid (HPB.out.kept hb3)
            have HB3 := Lib.hid (HBW.out.trans (hb3.mono (Below.size HBW.out)))
            clear hb3 HRB HPB HBW
            obtain ⟨⟨x0, x1, x2, x3⟩, f0, f1, f2, f3⟩ := And.intro HRB3.out.cells HRB3.out.free
            obtain ⟨y0, y1, y2, y3⟩ := HPB3.out.cells
            go_wp2_with fail
            refine bodyPost_ret (v := .tuple #[.agg #[.int .i64 c2, .int .i64 c3, .int .i64 N, .string body], .bool true]) (by simp [results, Tryd.results12, go_sem, x0, x1, x2, x3]) rfl ⟨by rw [valB_some HSM.out, okB_some HSM.out]; dsimp only; rw [str_data], ?_⟩
            exact below_four HB3.out (Nat.le_refl _) _ _ _ _
          · have HNO := Lib.hid (show ¬ ((Pg.mk c2 c3 N body.data.toList).Ok ∧ (Pg.mk c2 c3 N body.data.toList).bytes = b.data.toList) from fun hh => he hh.2)
            have hsn : ((str (Pg.mk c2 c3 N body.data.toList).bytes).toList == b.toList) = false := by
              rw [beq_eq_false_iff_ne, str_list, ByteArray.toList_eq]; exact he
            generalize str (Pg.mk c2 c3 N body.data.toList).bytes = sb at PU hsn
            clear he
            go_wp2_with fail
            refine (PU.out _).mono ?_; rintro e w3 ⟨rfl, hb3⟩
            have HRB3 := Lib.hid (HRB.out.kept hb3)
            have HPB3 := Lib.hid (HPB.out.kept hb3)
            have HB3 := Lib.hid (HBW.out.trans (hb3.mono (Below.size HBW.out)))
            clear hb3 HRB HPB HBW
            obtain ⟨⟨x0, x1, x2, x3⟩, f0, f1, f2, f3⟩ := And.intro HRB3.out.cells HRB3.out.free
            obtain ⟨y0, y1, y2, y3⟩ := HPB3.out.cells
            go_wp2_with fail
            have hnone : getP b.data.toList = none := getP_none HZL.out (by rw [HPG.out, ← HBD.out]; exact HNO.out)
            refine bodyPost_ret (v := .tuple #[.agg #[.int .i64 0, .int .i64 0, .int .i64 0, .string ⟨#[]⟩], .bool false]) (by simp [results, Tryd.results12, go_sem, x0, x1, x2, x3]) rfl ⟨by rw [valB_none hnone, okB_none hnone]; rfl, ?_⟩
            exact below_four HB3.out (Nat.le_refl _) _ _ _ _
      exact AllReadyH.nil
    exact AllReadyH.nil
  refine AllReadyH.cons (o := { dst := some 4, op := Op.alloc 23, type := 0, pos := "page.go:41", after := #[], guard := none }) rfl (fun K hK => ?_) ?_
  · go_simp
    refine hK.out _ _ ?_ (fun hHeld => ?_)
    · exact Held.step (by assumption) ((Below.refl _ _).alloc (Nat.le_refl _) _)
    clear hK K
    (try simp only [Act.put, List.setIfInBounds_toArray, List.set_cons_zero, List.set_cons_succ])
    have hOld := hHeld
    refine wpAnyH_ready (rs := [16]) (by kernel_rfl) (by simp) ?_
    refine AllReadyH.cons (o := { dst := some 31, op := Op.call { callee := Callee.value (Operand.func 20), args := #[Operand.tmp 30], argTypes := #[9] }, type := 9, pos := "page.go:45", after := #[{ on := 15, ground := Ground.data }], guard := none }) rfl (fun K hK => ?_) ?_
    · go_simp; go_at_call 20; refine (CL.out _).mono ?_; rintro e w2 ⟨rfl, hb2⟩
      refine hK.out _ _ ?_ (fun hHeld => ?_)
      · exact Held.step hOld hb2
      clear hK K
      (try simp only [Act.put, List.setIfInBounds_toArray, List.set_cons_zero, List.set_cons_succ])
      have hH2 : Held (w1.drew.alloc (.cells #[.int .i64 0, .int .i64 0, .int .i64 0, .string ⟨#[]⟩] 23)) w2 := hb2
      have HY := Lib.hid (show Box w2 w1.heap.size _ _ _ _ from (Box.new w1.drew (.int .i64 0) (.int .i64 0) (.int .i64 0) (.string ⟨#[]⟩)).below hH2 (Nat.le_refl _))
      obtain ⟨⟨z0, z1, z2, z3⟩, g0, g1, g2, g3⟩ := And.intro HY.out.cells HY.out.free
      refine wpAnyH_take (i := 17) (oi := { dst := some 32, op := Op.build 23 #[(0, Operand.tmp 17), (1, Operand.tmp 20), (2, Operand.tmp 28), (3, Operand.tmp 31)], type := 23, pos := "page.go:41", after := #[{ on := 2, ground := Ground.data }, { on := 5, ground := Ground.data }, { on := 13, ground := Ground.data }, { on := 16, ground := Ground.data }], guard := none }) (v := (.agg #[.int .i64 c2, .int .i64 c3, .int .i64 N, .string body])) rfl (by kernel_rfl) (by kernel_rfl) (by kernel_rfl) (fun _ _ _ h => h) (Or.inl ⟨by rfl, fun w' hSw => by ((try dsimp only at hSw); go_simp)⟩) (by assumption) ?_
      (try simp only [Act.put, List.setIfInBounds_toArray, List.set_cons_zero, List.set_cons_succ])
      refine wpAnyH_ready (rs := [19]) (by kernel_rfl) (by simp) ?_
      refine AllReadyH.cons (o := { dst := none, op := Op.store 23 (Operand.tmp 4) (Operand.tmp 32), type := 0, pos := "page.go:41", after := #[{ on := 18, ground := Ground.data }, { on := 17, ground := Ground.data }, { on := 16, ground := Ground.chain }, { on := 0, ground := Ground.phase }, { on := 1, ground := Ground.phase }, { on := 2, ground := Ground.phase }, { on := 3, ground := Ground.phase }, { on := 4, ground := Ground.phase }, { on := 5, ground := Ground.phase }, { on := 6, ground := Ground.phase }, { on := 7, ground := Ground.phase }, { on := 8, ground := Ground.phase }, { on := 9, ground := Ground.phase }, { on := 10, ground := Ground.phase }, { on := 11, ground := Ground.phase }, { on := 12, ground := Ground.phase }, { on := 13, ground := Ground.phase }, { on := 14, ground := Ground.phase }, { on := 15, ground := Ground.phase }, { on := 16, ground := Ground.phase }, { on := 17, ground := Ground.phase }, { on := 18, ground := Ground.phase }], guard := none }) rfl (fun K hK => ?_) ?_
      · go_simp
        refine hK.out _ _ ?_ (fun hHeld => ?_)
        · exact below_four (Held.trans hOld hH2) (Nat.le_refl _) _ _ _ _
        clear hK K
        (try simp only [Act.put, List.setIfInBounds_toArray, List.set_cons_zero, List.set_cons_succ])
        refine wpAnyH_done (by kernel_rfl) ?_ _
        refine NoPanic.normal ?_
        have HPB := Lib.hid (Box.set4 HY.out (.int .i64 c2) (.int .i64 c3) (.int .i64 N) (.string body))
        have HRB := Lib.hid (Box.other4 (HX1.out.below (Held.trans hOld hH2) (Nat.le_refl _)) (Nat.ne_of_lt HX1.out.lt) (.int .i64 c2) (.int .i64 c3) (.int .i64 N) (.string body))
        have HBW := Lib.hid (below_four (HB1.out.trans (Below.mono (Held.trans hOld hH2) (Below.size HB1.out))) (Below.size HB1.out) (.int .i64 c2) (.int .i64 c3) (.int .i64 N) (.string body))
        have HGN := Lib.hid (Nat.ne_of_gt HX1.out.lt)
        clear hHeld hOld hH2 HX1 HB1 HY z0 z1 z2 z3 g0 g1 g2 g3
        generalize (((w2.setCell ⟨w1.heap.size, 0, none⟩ (.int .i64 c2)).setCell ⟨w1.heap.size, 1, none⟩ (.int .i64 c3)).setCell ⟨w1.heap.size, 2, none⟩ (.int .i64 N)).setCell ⟨w1.heap.size, 3, none⟩ (.string body) = V at *
        have hgn : w1.heap.size ≠ w.heap.size := HGN.out
        generalize w1.heap.size = g at *
        obtain ⟨p0, p1, p2, p3⟩ := HPB.out.cells
        cases hok : okV c2 c3 N body with
        | false =>
          rw [hok] at PU
          have HNO := Lib.hid (show ¬ ((Pg.mk c2 c3 N body.data.toList).Ok ∧ (Pg.mk c2 c3 N body.data.toList).bytes = b.data.toList) from fun hh => by rw [okV_ok.2 hh.1] at hok; cases hok)
          clear hok
          go_wp2_with fail
          refine (PU.out _).mono ?_; rintro e w3 ⟨rfl, hb3⟩
          have HRB3 := Lib.hid (HRB.out.kept hb3)
          have HPB3 := Lib.hid (HPB.out.kept hb3)
          have HB3 := Lib.hid (HBW.out.trans (hb3.mono (Below.size HBW.out)))
          clear hb3 HRB HPB HBW
          obtain ⟨⟨x0, x1, x2, x3⟩, f0, f1, f2, f3⟩ := And.intro HRB3.out.cells HRB3.out.free
          obtain ⟨y0, y1, y2, y3⟩ := HPB3.out.cells
          go_wp2_with fail
          have hnone : getP b.data.toList = none := getP_none HZL.out (by rw [HPG.out, ← HBD.out]; exact HNO.out)
          refine bodyPost_ret (v := .tuple #[.agg #[.int .i64 0, .int .i64 0, .int .i64 0, .string ⟨#[]⟩], .bool false]) (by simp [results, Tryd.results12, go_sem, x0, x1, x2, x3]) rfl ⟨by rw [valB_none hnone, okB_none hnone]; rfl, ?_⟩
          exact below_four HB3.out (Nat.le_refl _) _ _ _ _
        | true =>
          rw [hok, if_pos rfl] at PU
          have HOK := Lib.hid (okV_ok.1 hok)
          clear hok
          by_cases he : (Pg.mk c2 c3 N body.data.toList).bytes = b.data.toList
          · rw [he, str_data] at PU
            have hse : (b.toList == b.toList) = true := by simp
            have hsome := getP_one HL.out HZL.out (by rw [HPG.out, ← HBD.out]; exact HOK.out) (by rw [HPG.out, ← HBD.out]; exact he)
            rw [HPG.out, ← HBD.out] at hsome
            have HSM := Lib.hid hsome
            clear hsome he
            go_wp2_with fail
            refine (PU.out _).mono ?_; rintro e w3 ⟨rfl, hb3⟩
            have HRB3 := Lib.hid (HRB.out.kept hb3)
            have HPB3 := Lib.hid (HPB.out.kept hb3)
            have HB3 := Lib.hid (HBW.out.trans (hb3.mono (Below.size HBW.out)))
            clear hb3 HRB HPB HBW
            obtain ⟨⟨x0, x1, x2, x3⟩, f0, f1, f2, f3⟩ := And.intro HRB3.out.cells HRB3.out.free
            obtain ⟨y0, y1, y2, y3⟩ := HPB3.out.cells
            go_wp2_with fail
            refine bodyPost_ret (v := .tuple #[.agg #[.int .i64 c2, .int .i64 c3, .int .i64 N, .string body], .bool true]) (by simp [results, Tryd.results12, go_sem, x0, x1, x2, x3]) rfl ⟨by rw [valB_some HSM.out, okB_some HSM.out]; dsimp only; rw [str_data], ?_⟩
            exact below_four HB3.out (Nat.le_refl _) _ _ _ _
          · have HNO := Lib.hid (show ¬ ((Pg.mk c2 c3 N body.data.toList).Ok ∧ (Pg.mk c2 c3 N body.data.toList).bytes = b.data.toList) from fun hh => he hh.2)
            have hsn : ((str (Pg.mk c2 c3 N body.data.toList).bytes).toList == b.toList) = false := by
              rw [beq_eq_false_iff_ne, str_list, ByteArray.toList_eq]; exact he
            generalize str (Pg.mk c2 c3 N body.data.toList).bytes = sb at PU hsn
            clear he
            go_wp2_with fail
            refine (PU.out _).mono ?_; rintro e w3 ⟨rfl, hb3⟩
            have HRB3 := Lib.hid (HRB.out.kept hb3)
            have HPB3 := Lib.hid (HPB.out.kept hb3)
            have HB3 := Lib.hid (HBW.out.trans (hb3.mono (Below.size HBW.out)))
            clear hb3 HRB HPB HBW
            obtain ⟨⟨x0, x1, x2, x3⟩, f0, f1, f2, f3⟩ := And.intro HRB3.out.cells HRB3.out.free
            obtain ⟨y0, y1, y2, y3⟩ := HPB3.out.cells
            go_wp2_with fail
            have hnone : getP b.data.toList = none := getP_none HZL.out (by rw [HPG.out, ← HBD.out]; exact HNO.out)
            refine bodyPost_ret (v := .tuple #[.agg #[.int .i64 0, .int .i64 0, .int .i64 0, .string ⟨#[]⟩], .bool false]) (by simp [results, Tryd.results12, go_sem, x0, x1, x2, x3]) rfl ⟨by rw [valB_none hnone, okB_none hnone]; rfl, ?_⟩
            exact below_four HB3.out (Nat.le_refl _) _ _ _ _
      exact AllReadyH.nil
    exact AllReadyH.nil
  exact AllReadyH.nil
theorem get_any (b : ByteArray) (hs : b.size ≤ maxLen) (w : World) : Calls Tryd.prog 12 #[.string b] w fun e w' => e = .returned (.tuple #[pvP (valB b.data.toList), .bool (okB b.data.toList)]) ∧ Below w.heap.size w w' := by
  by_cases h : b.size = 256
  · by_cases hz : b = str (zs 256)
    · have e : getP (str (zs 256)).data.toList = some free := by rw [str_toList]; exact getP_zero
      rw [hz, valB_some e, okB_some e]
      exact get_zero w
    · exact get_other b h hz w
  · have e : getP b.data.toList = none := getP_len (by rw [Array.length_toList]; exact h)
    rw [valB_none e, okB_none e]
    exact get_len b h hs w
end Go.Proofs.YtkopgohmocjbbaaDoor
