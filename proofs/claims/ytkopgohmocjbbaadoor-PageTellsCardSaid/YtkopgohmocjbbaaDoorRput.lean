/- The contracts of the document's own Put, and its Zeros. -/
import Derived.Test.YtkopgohmocjbbaaDoorPut
import Derived.Deep.RegionHeld3
namespace Go.Proofs.YtkopgohmocjbbaaDoor
open Go.ChangeShapes Go.WideShapes Go.ChangeAt Go.RowKit
set_option linter.unusedVariables false
set_option linter.unusedSimpArgs false
/-! Zeros. -/
abbrev zRow (n : Nat) : Obj := .cells (madeCells #[.int .u8 0] n) 5
theorem info_u8 : (Tryd.prog.info? 5).map (fun i => (i.zero, i.size, i.bytes)) = some (some (.int .u8 0), 1, 1) := by kernel_rfl
theorem zrow_get (n j : Nat) (h : j < n) : (madeCells #[Value.int .u8 0] n)[j]? = some (.int .u8 0) := by
  simp only [madeCells, Array.getElem?_map]
  rw [Array.getElem?_eq_getElem (by simpa using h)]
  simp [Nat.mod_one]
theorem convert_zeros (w : World) (n : Nat) : (convert 33 9 (.slice (some ⟨w.heap.size, 0, none⟩) n n)).run Tryd.prog (w.alloc (zRow n)) = .ok (.string (str (zs n))) (w.alloc (zRow n)) := by
  rw [← strOfNums_bytes]
  refine run_convert_bytes_arg (w.alloc (zRow n)) 33 5 Tryd.underlying33 Tryd.underlying5 w.heap.size 0 n n _ (by simp [zs]) (fun i hi => ?_) 9 Tryd.underlying9
  rw [getD_bytes, cell_of_row _ _ _ _ _ _ (heap_alloc_new w _), Nat.zero_add, zrow_get n i hi, zs, List.getD_eq_getElem?_getD, List.getElem?_replicate, if_pos hi]
  rfl
set_option maxHeartbeats 400000 in
theorem zeros_at (n : Nat) (hn : n ≤ 1000) (w : World) : Calls Tryd.prog 15 #[.int .i64 n] w fun e w' => e = .returned (.string (str (zs n))) ∧ w.alloc (zRow n) = w' := by
  obtain ⟨i0, hi, hz0, hz1, hz2⟩ := info_parts info_u8
  have hmk := fun w : World => run_make (P := Tryd.prog) w 33 5 i0 _ Tryd.underlying33 hi hz0 .i64 .i64 (n : Int) (n : Int) (by omega) (Int.le_refl _) (by rw [hz2]; omega) (by omega)
  rw [hz1] at hmk
  simp only [Int.toNat_natCast, Value.cells, Nat.mul_one] at hmk
  have hcv := convert_zeros w n
  unfold zRow at hcv ⊢
  obtain ⟨row, hrow⟩ : ∃ row, row = madeCells #[Value.int .u8 0] n := ⟨_, rfl⟩
  rw [← hrow] at hmk hcv ⊢
  obtain ⟨z, hz⟩ : ∃ z, z = str (zs n) := ⟨_, rfl⟩
  rw [← hz] at hcv ⊢
  clear hi hz0 hz1 hz2 hrow hz
  have k0 : (0 : Int) ≤ (n : Int) := by omega
  go_enter Tryd.func15, Tryd.ntmps15
  go_wp2_with fail
  go_ret
  exact ⟨rfl, rfl⟩
theorem zeros_ok (n : Nat) (hn : n ≤ 1000) (w : World) : Calls Tryd.prog 15 #[.int .i64 n] w fun e w' => e = .returned (.string (str (zs n))) ∧ Below w.heap.size w w' :=
  (zeros_at n hn w).mono fun e w' ⟨he, hw⟩ => ⟨he, hw ▸ (Below.refl _ _).alloc (Nat.le_refl _) _⟩
theorem Held.trans {a b c : World} (h : Held a b) (k : Held b c) : Held a c := Below.trans h (Below.mono k (Below.size h))
theorem wpAnyH_mono {P : Program} {md : Region.Mode} {ops : Array Oper} {Q : Exit → Act → World → Prop} {S S' : World → Prop} (hS : ∀ w, S' w → S w) : ∀ {fuel : Nat} {listed : Array Bool} {a : Act} {w : World}, wpAnyH P md ops Q S' fuel listed a w → wpAnyH P md ops Q S fuel listed a w
  | 0, _, _, _, h => h
  | fuel + 1, _, _, _, h => ⟨h.1, fun i hi => wpOp_mono (fun a' w' h' => ⟨hS _ h'.1, wpAnyH_mono hS h'.2⟩) (h.2 i hi)⟩
/-! The document's own Put. -/
theorem rright_any (k d n : Int) (b : ByteArray) (w : World) : Calls Tryd.prog 19 #[pv k d n b] w fun e w' => e = .returned (.bool (okV k d n b)) ∧ Below w.heap.size w w' := by
  unfold okV pv
  by_cases c0 : 0 ≤ k
  · by_cases c1 : k ≤ 5
    · by_cases c2 : 0 ≤ d
      · by_cases c3 : d ≤ 5
        · by_cases c4 : 0 ≤ n
          · by_cases c5 : n ≤ 63
            · have c5' : n < 64 := by omega
              by_cases c6 : b.size = 240
              · rw [decide_eq_true (p := _ ∧ _) ⟨⟨c0, c1⟩, ⟨c2, c3⟩, ⟨c4, c5⟩, c6⟩]
                have h3 : (b.size : Int) = 240 := by omega
                have HB := Lib.hid ((Below.refl w.heap.size w).alloc (Nat.le_refl _) (.cells #[.int .i64 k, .int .i64 d, .int .i64 n, .string b] 23))
                go_enter Tryd.func19, Tryd.ntmps19
                go_wp2_with fail
                go_ret
                exact ⟨rfl, HB.out⟩
              · rw [decide_eq_false (p := _ ∧ _) (fun h => c6 h.2.2.2)]
                have h3 : ((b.size : Int) == 240) = false := by rw [beq_eq_false_iff_ne]; omega
                have HB := Lib.hid ((Below.refl w.heap.size w).alloc (Nat.le_refl _) (.cells #[.int .i64 k, .int .i64 d, .int .i64 n, .string b] 23))
                go_enter Tryd.func19, Tryd.ntmps19
                go_wp2_with fail
                go_ret
                exact ⟨rfl, HB.out⟩
            · rw [decide_eq_false (p := _ ∧ _) (fun h => c5 h.2.2.1.2)]
              have c5' : ¬ n < 64 := by omega
              have HB := Lib.hid ((Below.refl w.heap.size w).alloc (Nat.le_refl _) (.cells #[.int .i64 k, .int .i64 d, .int .i64 n, .string b] 23))
              go_enter Tryd.func19, Tryd.ntmps19
              go_wp2_with fail
              go_ret
              exact ⟨rfl, HB.out⟩
          · rw [decide_eq_false (p := _ ∧ _) (fun h => c4 h.2.2.1.1)]
            have HB := Lib.hid ((Below.refl w.heap.size w).alloc (Nat.le_refl _) (.cells #[.int .i64 k, .int .i64 d, .int .i64 n, .string b] 23))
            go_enter Tryd.func19, Tryd.ntmps19
            go_wp2_with fail
            go_ret
            exact ⟨rfl, HB.out⟩
        · rw [decide_eq_false (p := _ ∧ _) (fun h => c3 h.2.1.2)]
          have HB := Lib.hid ((Below.refl w.heap.size w).alloc (Nat.le_refl _) (.cells #[.int .i64 k, .int .i64 d, .int .i64 n, .string b] 23))
          go_enter Tryd.func19, Tryd.ntmps19
          go_wp2_with fail
          go_ret
          exact ⟨rfl, HB.out⟩
      · rw [decide_eq_false (p := _ ∧ _) (fun h => c2 h.2.1.1)]
        have HB := Lib.hid ((Below.refl w.heap.size w).alloc (Nat.le_refl _) (.cells #[.int .i64 k, .int .i64 d, .int .i64 n, .string b] 23))
        go_enter Tryd.func19, Tryd.ntmps19
        go_wp2_with fail
        go_ret
        exact ⟨rfl, HB.out⟩
    · rw [decide_eq_false (p := _ ∧ _) (fun h => c1 h.1.2)]
      have HB := Lib.hid ((Below.refl w.heap.size w).alloc (Nat.le_refl _) (.cells #[.int .i64 k, .int .i64 d, .int .i64 n, .string b] 23))
      go_enter Tryd.func19, Tryd.ntmps19
      go_wp2_with fail
      go_ret
      exact ⟨rfl, HB.out⟩
  · rw [decide_eq_false (p := _ ∧ _) (fun h => c0 h.1.1)]
    have HB := Lib.hid ((Below.refl w.heap.size w).alloc (Nat.le_refl _) (.cells #[.int .i64 k, .int .i64 d, .int .i64 n, .string b] 23))
    go_enter Tryd.func19, Tryd.ntmps19
    go_wp2_with fail
    go_ret
    exact ⟨rfl, HB.out⟩
set_option maxHeartbeats 1000000 in
theorem rput_bad (k d n : Int) (b : ByteArray) (h : okV k d n b = false) (w : World) : Calls Tryd.prog 11 #[pv k d n b] w fun e w' => e = .returned (.tuple #[.string ⟨#[]⟩, .bool false]) ∧ Below w.heap.size w w' := by
  have V := Lib.hid (rright_any k d n b)
  rw [h] at V
  unfold pv at *
  clear h
  go_enter Tryd.func11, Tryd.ntmps11
  go_wp2_with fail
  refine (V.out _).mono ?_; rintro e w1 ⟨rfl, hb⟩
  have HB := Lib.hid (((Below.refl w.heap.size w).alloc (Nat.le_refl _) _).trans (hb.mono (by simp)))
  clear hb
  go_wp2_with fail
  go_ret2
  exact ⟨rfl, HB.out⟩
set_option maxHeartbeats 1000000 in
theorem rput_ok (k d n : Int) (b : ByteArray) (h : okV k d n b = true) (w : World) : Calls Tryd.prog 11 #[pv k d n b] w fun e w' => e = .returned (.tuple #[.string (str (Pg.bytes ⟨k, d, n, b.data.toList⟩)), .bool true]) ∧ Below w.heap.size w w' := by
  have V := Lib.hid (rright_any k d n b)
  rw [h] at V
  have BL := Lib.hid (fun w => zeros_ok 10 (by omega) w)
  obtain ⟨⟨a1, a2⟩, ⟨b1, b2⟩, ⟨c1, c2⟩, e1⟩ := okV_of h
  have uk : IntKind.u8.wrap k = k := u8_in a1 (by omega)
  have ud : IntKind.u8.wrap d = d := u8_in b1 (by omega)
  have un : IntKind.u8.wrap n = n := u8_in c1 (by omega)
  unfold pv at *
  clear h
  go_enter Tryd.func11, Tryd.ntmps11
  go_wp2_with fail
  refine (V.out _).mono ?_; rintro e w1 ⟨rfl, hb⟩
  have HB := Lib.hid (((Below.refl w.heap.size w).alloc (Nat.le_refl _) _).trans (hb.mono (by simp)))
  have hx := (Box.new w _ _ _ _).below hb (Nat.le_refl _)
  obtain ⟨x0, x1, x2, x3⟩ := hx.cells
  clear hb
  have HB2 := Lib.hid (Below.size HB.out)
  have hl : (Pg.nums ⟨k, d, n, b.data.toList⟩).map (fun c => (c.toNat : Int)) = [k, d, 0, n] := by
    have := u8_toNat a1 (show k ≤ 255 by omega)
    have := u8_toNat b1 (show d ≤ 255 by omega)
    have := u8_toNat c1 (show n ≤ 255 by omega)
    simp only [Pg.nums, List.map_cons, List.map_nil, *]; try rfl
  obtain ⟨num, hnum⟩ : ∃ num, num = str (Pg.nums ⟨k, d, n, b.data.toList⟩) := ⟨_, rfl⟩
  have hns : num.size = 4 := by rw [hnum, str_size]; rfl
  obtain ⟨z, hz⟩ : ∃ z, z = str (zs 10) := ⟨_, rfl⟩
  rw [← hz] at BL
  have hzs : z.size = 10 := by rw [hz, str_size, zs_length]
  have HE := Lib.hid (show (ByteArray.mk #[80, 71] ++ num ++ z) ++ b = str (Pg.bytes ⟨k, d, n, b.data.toList⟩) by
    rw [hnum, hz, str_append, str_append, ← str_data b, str_append]
    simp only [str_toList, Pg.bytes])
  have HNUM := Lib.hid hnum
  have hc0 := fun r (h : Held w1 r) => Held.cell h x0
  have hc1 := fun r (h : Held w1 r) => Held.cell h x1
  have hc2 := fun r (h : Held w1 r) => Held.cell h x2
  have hc3 := fun r (h : Held w1 r) => Held.cell h x3
  clear hnum hz hx a1 a2 b1 b2 c1 c2 V
  go_wp2_with fail
  refine wp_region_noPanic ?_
  refine wp_region_held_drew (S := Held w1) (by kernel_rfl) ?_ (fun hHeld => ?_)
  · exact (Below.refl _ _).drew
  refine wpAnyH_take (i := 0) (oi := { dst := some 7, op := Op.fieldAddr 23 (Operand.tmp 1) 0, type := 0, pos := "base.go:189", after := #[], guard := none }) (v := .pointer (some ⟨w.heap.size, 0, none⟩)) rfl (by kernel_rfl) (by kernel_rfl) (by kernel_rfl) (fun _ _ _ h => h) (Or.inl ⟨by rfl, fun w' hSw => by ((try dsimp only at hSw); go_simp)⟩) (by assumption) ?_
  (try simp only [Act.put, List.setIfInBounds_toArray, List.set_cons_zero, List.set_cons_succ])
  refine wpAnyH_take (i := 1) (oi := { dst := some 8, op := Op.load 3 (Operand.tmp 7), type := 3, pos := "base.go:189", after := #[{ on := 0, ground := Ground.data }], guard := none }) (v := .int .i64 k) rfl (by kernel_rfl) (by kernel_rfl) (by kernel_rfl) (fun _ _ _ h => h) (Or.inl ⟨by rfl, fun w' hSw => by ((try dsimp only at hSw); have := hc0 _ hSw; go_simp)⟩) (by assumption) ?_
  (try simp only [Act.put, List.setIfInBounds_toArray, List.set_cons_zero, List.set_cons_succ])
  refine wpAnyH_take (i := 2) (oi := { dst := some 9, op := Op.convert 3 5 (Operand.tmp 8), type := 5, pos := "base.go:189", after := #[{ on := 1, ground := Ground.data }], guard := none }) (v := .int .u8 k) rfl (by kernel_rfl) (by kernel_rfl) (by kernel_rfl) (fun _ _ _ h => h) (Or.inl ⟨by rfl, fun w' hSw => by ((try dsimp only at hSw); go_simp)⟩) (by assumption) ?_
  (try simp only [Act.put, List.setIfInBounds_toArray, List.set_cons_zero, List.set_cons_succ])
  refine wpAnyH_take (i := 3) (oi := { dst := some 10, op := Op.fieldAddr 23 (Operand.tmp 1) 1, type := 0, pos := "base.go:189", after := #[], guard := none }) (v := .pointer (some ⟨w.heap.size, 1, none⟩)) rfl (by kernel_rfl) (by kernel_rfl) (by kernel_rfl) (fun _ _ _ h => h) (Or.inl ⟨by rfl, fun w' hSw => by ((try dsimp only at hSw); go_simp)⟩) (by assumption) ?_
  (try simp only [Act.put, List.setIfInBounds_toArray, List.set_cons_zero, List.set_cons_succ])
  refine wpAnyH_take (i := 4) (oi := { dst := some 11, op := Op.load 3 (Operand.tmp 10), type := 3, pos := "base.go:189", after := #[{ on := 3, ground := Ground.data }], guard := none }) (v := .int .i64 d) rfl (by kernel_rfl) (by kernel_rfl) (by kernel_rfl) (fun _ _ _ h => h) (Or.inl ⟨by rfl, fun w' hSw => by ((try dsimp only at hSw); have := hc1 _ hSw; go_simp)⟩) (by assumption) ?_
  (try simp only [Act.put, List.setIfInBounds_toArray, List.set_cons_zero, List.set_cons_succ])
  refine wpAnyH_take (i := 5) (oi := { dst := some 12, op := Op.convert 3 5 (Operand.tmp 11), type := 5, pos := "base.go:189", after := #[{ on := 4, ground := Ground.data }], guard := none }) (v := .int .u8 d) rfl (by kernel_rfl) (by kernel_rfl) (by kernel_rfl) (fun _ _ _ h => h) (Or.inl ⟨by rfl, fun w' hSw => by ((try dsimp only at hSw); go_simp)⟩) (by assumption) ?_
  (try simp only [Act.put, List.setIfInBounds_toArray, List.set_cons_zero, List.set_cons_succ])
  refine wpAnyH_take (i := 6) (oi := { dst := some 13, op := Op.fieldAddr 23 (Operand.tmp 1) 2, type := 0, pos := "base.go:189", after := #[], guard := none }) (v := .pointer (some ⟨w.heap.size, 2, none⟩)) rfl (by kernel_rfl) (by kernel_rfl) (by kernel_rfl) (fun _ _ _ h => h) (Or.inl ⟨by rfl, fun w' hSw => by ((try dsimp only at hSw); go_simp)⟩) (by assumption) ?_
  (try simp only [Act.put, List.setIfInBounds_toArray, List.set_cons_zero, List.set_cons_succ])
  refine wpAnyH_take (i := 7) (oi := { dst := some 14, op := Op.load 3 (Operand.tmp 13), type := 3, pos := "base.go:189", after := #[{ on := 6, ground := Ground.data }], guard := none }) (v := .int .i64 n) rfl (by kernel_rfl) (by kernel_rfl) (by kernel_rfl) (fun _ _ _ h => h) (Or.inl ⟨by rfl, fun w' hSw => by ((try dsimp only at hSw); have := hc2 _ hSw; go_simp)⟩) (by assumption) ?_
  (try simp only [Act.put, List.setIfInBounds_toArray, List.set_cons_zero, List.set_cons_succ])
  refine wpAnyH_take (i := 8) (oi := { dst := some 15, op := Op.convert 3 5 (Operand.tmp 14), type := 5, pos := "base.go:189", after := #[{ on := 7, ground := Ground.data }], guard := none }) (v := .int .u8 n) rfl (by kernel_rfl) (by kernel_rfl) (by kernel_rfl) (fun _ _ _ h => h) (Or.inl ⟨by rfl, fun w' hSw => by ((try dsimp only at hSw); go_simp)⟩) (by assumption) ?_
  (try simp only [Act.put, List.setIfInBounds_toArray, List.set_cons_zero, List.set_cons_succ])
  refine wpAnyH_take (i := 14) (oi := { dst := some 21, op := Op.fieldAddr 23 (Operand.tmp 1) 3, type := 0, pos := "base.go:189", after := #[], guard := none }) (v := .pointer (some ⟨w.heap.size, 3, none⟩)) rfl (by kernel_rfl) (by kernel_rfl) (by kernel_rfl) (fun _ _ _ h => h) (Or.inl ⟨by rfl, fun w' hSw => by ((try dsimp only at hSw); go_simp)⟩) (by assumption) ?_
  (try simp only [Act.put, List.setIfInBounds_toArray, List.set_cons_zero, List.set_cons_succ])
  refine wpAnyH_take (i := 15) (oi := { dst := some 22, op := Op.load 9 (Operand.tmp 21), type := 9, pos := "base.go:189", after := #[{ on := 14, ground := Ground.data }], guard := none }) (v := .string b) rfl (by kernel_rfl) (by kernel_rfl) (by kernel_rfl) (fun _ _ _ h => h) (Or.inl ⟨by rfl, fun w' hSw => by ((try dsimp only at hSw); have := hc3 _ hSw; go_simp)⟩) (by assumption) ?_
  (try simp only [Act.put, List.setIfInBounds_toArray, List.set_cons_zero, List.set_cons_succ])
  refine wpAnyH_ready (rs := [9, 12]) (by kernel_rfl) (by simp) ?_
  refine AllReadyH.cons (o := { dst := some 16, op := Op.buildSlice 33 4 #[(0, Operand.tmp 9), (1, Operand.tmp 12), (2, Operand.const (Value.int IntKind.u8 0)), (3, Operand.tmp 15)], type := 33, pos := "base.go:189", after := #[{ on := 2, ground := Ground.data }, { on := 5, ground := Ground.data }, { on := 8, ground := Ground.data }], guard := none }) rfl (fun K hK => ?_) ?_
  · go_simp
    refine hK.out _ _ ?_ (fun hHeld => ?_)
    · exact Held.step (by assumption) ((Below.refl _ _).alloc (Nat.le_refl _) _)
    clear hK K
    (try simp only [Act.put, List.setIfInBounds_toArray, List.set_cons_zero, List.set_cons_succ])
    refine wpAnyH_mono (S' := Held (w1.drew.alloc (.cells #[.int .u8 k, .int .u8 d, .int .u8 0, .int .u8 n] 5))) (fun r h => Held.trans hHeld h) ?_
    have hOld := hHeld
    replace hHeld : Held (w1.drew.alloc (.cells #[.int .u8 k, .int .u8 d, .int .u8 0, .int .u8 n] 5)) (w1.drew.alloc (.cells #[.int .u8 k, .int .u8 d, .int .u8 0, .int .u8 n] 5)) := Below.refl _ _
    refine wpAnyH_take (i := 10) (oi := { dst := some 17, op := Op.convert 33 9 (Operand.tmp 16), type := 9, pos := "base.go:189", after := #[{ on := 9, ground := Ground.data }], guard := none }) (v := .string num) rfl (by kernel_rfl) (by kernel_rfl) (by kernel_rfl) (fun _ _ _ h => h) (Or.inl ⟨by rfl, fun w' hSw => by ((try dsimp only at hSw); have := convert4 (X := w1.drew.alloc (.cells #[.int .u8 k, .int .u8 d, .int .u8 0, .int .u8 n] 5)) (B := w1.heap.size) (heap_alloc_new w1.drew _) hl _ hSw; rw [HNUM.out]; go_simp)⟩) (by assumption) ?_
    (try simp only [Act.put, List.setIfInBounds_toArray, List.set_cons_zero, List.set_cons_succ])
    refine wpAnyH_take (i := 11) (oi := { dst := some 18, op := Op.binOp BinOp.add 9 (Operand.const (Value.string { data := #[80, 71] })) (Operand.tmp 17) 9, type := 9, pos := "base.go:189", after := #[{ on := 10, ground := Ground.data }], guard := none }) (v := .string (ByteArray.mk #[80, 71] ++ num)) rfl (by kernel_rfl) (by kernel_rfl) (by kernel_rfl) (fun _ _ _ h => h) (Or.inl ⟨by rfl, fun w' hSw => by ((try dsimp only at hSw); go_simp)⟩) (by assumption) ?_
    (try simp only [Act.put, List.setIfInBounds_toArray, List.set_cons_zero, List.set_cons_succ])
    refine wpAnyH_ready (rs := [12]) (by kernel_rfl) (by simp) ?_
    refine AllReadyH.cons (o := { dst := some 19, op := Op.call { callee := Callee.value (Operand.func 15), args := #[Operand.const (Value.int IntKind.i64 10)], argTypes := #[3] }, type := 9, pos := "base.go:189", after := #[], guard := none }) rfl (fun K hK => ?_) ?_
    · go_simp; go_at_call 15; refine (BL.out _).mono ?_; rintro e w2 ⟨rfl, hb2⟩
      refine hK.out _ _ ?_ (fun hHeld => ?_)
      · exact Held.step (by assumption) hb2
      clear hK K
      (try simp only [Act.put, List.setIfInBounds_toArray, List.set_cons_zero, List.set_cons_succ])
      refine wpAnyH_take (i := 13) (oi := { dst := some 20, op := Op.binOp BinOp.add 9 (Operand.tmp 18) (Operand.tmp 19) 9, type := 9, pos := "base.go:189", after := #[{ on := 11, ground := Ground.data }, { on := 12, ground := Ground.data }], guard := none }) (v := .string (ByteArray.mk #[80, 71] ++ num ++ z)) rfl (by kernel_rfl) (by kernel_rfl) (by kernel_rfl) (fun _ _ _ h => h) (Or.inl ⟨by rfl, fun w' hSw => by ((try dsimp only at hSw); go_simp)⟩) (by assumption) ?_
      (try simp only [Act.put, List.setIfInBounds_toArray, List.set_cons_zero, List.set_cons_succ])
      refine wpAnyH_take (i := 16) (oi := { dst := some 23, op := Op.binOp BinOp.add 9 (Operand.tmp 20) (Operand.tmp 22) 9, type := 9, pos := "base.go:189", after := #[{ on := 13, ground := Ground.data }, { on := 15, ground := Ground.data }], guard := none }) (v := .string (ByteArray.mk #[80, 71] ++ num ++ z ++ b)) rfl (by kernel_rfl) (by kernel_rfl) (by kernel_rfl) (fun _ _ _ h => h) (Or.inl ⟨by rfl, fun w' hSw => by ((try dsimp only at hSw); go_simp)⟩) (by assumption) ?_
      (try simp only [Act.put, List.setIfInBounds_toArray, List.set_cons_zero, List.set_cons_succ])
      refine wpAnyH_take (i := 17) (oi := { dst := some 2, op := Op.assign (Operand.tmp 23), type := 9, pos := "base.go:189", after := #[{ on := 16, ground := Ground.data }, { on := 12, ground := Ground.chain }, { on := 0, ground := Ground.phase }, { on := 1, ground := Ground.phase }, { on := 2, ground := Ground.phase }, { on := 3, ground := Ground.phase }, { on := 4, ground := Ground.phase }, { on := 5, ground := Ground.phase }, { on := 6, ground := Ground.phase }, { on := 7, ground := Ground.phase }, { on := 8, ground := Ground.phase }, { on := 9, ground := Ground.phase }, { on := 10, ground := Ground.phase }, { on := 11, ground := Ground.phase }, { on := 12, ground := Ground.phase }, { on := 13, ground := Ground.phase }, { on := 14, ground := Ground.phase }, { on := 15, ground := Ground.phase }, { on := 16, ground := Ground.phase }], guard := none }) (v := .string (ByteArray.mk #[80, 71] ++ num ++ z ++ b)) rfl (by kernel_rfl) (by kernel_rfl) (by kernel_rfl) (fun _ _ _ h => h) (Or.inl ⟨by rfl, fun w' hSw => by ((try dsimp only at hSw); go_simp)⟩) (by assumption) ?_
      (try simp only [Act.put, List.setIfInBounds_toArray, List.set_cons_zero, List.set_cons_succ])
      refine wpAnyH_take (i := 18) (oi := { dst := some 3, op := Op.assign (Operand.const (Value.bool true)), type := 4, pos := "base.go:189", after := #[{ on := 17, ground := Ground.chain }, { on := 0, ground := Ground.phase }, { on := 1, ground := Ground.phase }, { on := 2, ground := Ground.phase }, { on := 3, ground := Ground.phase }, { on := 4, ground := Ground.phase }, { on := 5, ground := Ground.phase }, { on := 6, ground := Ground.phase }, { on := 7, ground := Ground.phase }, { on := 8, ground := Ground.phase }, { on := 9, ground := Ground.phase }, { on := 10, ground := Ground.phase }, { on := 11, ground := Ground.phase }, { on := 12, ground := Ground.phase }, { on := 13, ground := Ground.phase }, { on := 14, ground := Ground.phase }, { on := 15, ground := Ground.phase }, { on := 16, ground := Ground.phase }, { on := 17, ground := Ground.phase }], guard := none }) (v := .bool true) rfl (by kernel_rfl) (by kernel_rfl) (by kernel_rfl) (fun _ _ _ h => h) (Or.inl ⟨by rfl, fun w' hSw => by ((try dsimp only at hSw); go_simp)⟩) (by assumption) ?_
      (try simp only [Act.put, List.setIfInBounds_toArray, List.set_cons_zero, List.set_cons_succ])
      refine wpAnyH_done (by kernel_rfl) ?_ _
      refine NoPanic.normal ?_
      go_wp2_with fail
      rw [HE.out]
      go_ret2
      exact ⟨rfl, HB.out.trans (Below.mono (Held.trans hOld hHeld) HB2.out)⟩
    exact AllReadyH.nil
  refine AllReadyH.cons (o := { dst := some 19, op := Op.call { callee := Callee.value (Operand.func 15), args := #[Operand.const (Value.int IntKind.i64 10)], argTypes := #[3] }, type := 9, pos := "base.go:189", after := #[], guard := none }) rfl (fun K hK => ?_) ?_
  · go_simp; go_at_call 15; refine (BL.out _).mono ?_; rintro e w2 ⟨rfl, hb2⟩
    refine hK.out _ _ ?_ (fun hHeld => ?_)
    · exact Held.step (by assumption) hb2
    clear hK K
    (try simp only [Act.put, List.setIfInBounds_toArray, List.set_cons_zero, List.set_cons_succ])
    refine wpAnyH_ready (rs := [9]) (by kernel_rfl) (by simp) ?_
    refine AllReadyH.cons (o := { dst := some 16, op := Op.buildSlice 33 4 #[(0, Operand.tmp 9), (1, Operand.tmp 12), (2, Operand.const (Value.int IntKind.u8 0)), (3, Operand.tmp 15)], type := 33, pos := "base.go:189", after := #[{ on := 2, ground := Ground.data }, { on := 5, ground := Ground.data }, { on := 8, ground := Ground.data }], guard := none }) rfl (fun K hK => ?_) ?_
    · go_simp
      refine hK.out _ _ ?_ (fun hHeld => ?_)
      · exact Held.step (by assumption) ((Below.refl _ _).alloc (Nat.le_refl _) _)
      clear hK K
      (try simp only [Act.put, List.setIfInBounds_toArray, List.set_cons_zero, List.set_cons_succ])
      refine wpAnyH_mono (S' := Held (w2.alloc (.cells #[.int .u8 k, .int .u8 d, .int .u8 0, .int .u8 n] 5))) (fun r h => Held.trans hHeld h) ?_
      have hOld := hHeld
      replace hHeld : Held (w2.alloc (.cells #[.int .u8 k, .int .u8 d, .int .u8 0, .int .u8 n] 5)) (w2.alloc (.cells #[.int .u8 k, .int .u8 d, .int .u8 0, .int .u8 n] 5)) := Below.refl _ _
      refine wpAnyH_take (i := 10) (oi := { dst := some 17, op := Op.convert 33 9 (Operand.tmp 16), type := 9, pos := "base.go:189", after := #[{ on := 9, ground := Ground.data }], guard := none }) (v := .string num) rfl (by kernel_rfl) (by kernel_rfl) (by kernel_rfl) (fun _ _ _ h => h) (Or.inl ⟨by rfl, fun w' hSw => by ((try dsimp only at hSw); have := convert4 (X := w2.alloc (.cells #[.int .u8 k, .int .u8 d, .int .u8 0, .int .u8 n] 5)) (B := w2.heap.size) (heap_alloc_new w2 _) hl _ hSw; rw [HNUM.out]; go_simp)⟩) (by assumption) ?_
      (try simp only [Act.put, List.setIfInBounds_toArray, List.set_cons_zero, List.set_cons_succ])
      refine wpAnyH_take (i := 11) (oi := { dst := some 18, op := Op.binOp BinOp.add 9 (Operand.const (Value.string { data := #[80, 71] })) (Operand.tmp 17) 9, type := 9, pos := "base.go:189", after := #[{ on := 10, ground := Ground.data }], guard := none }) (v := .string (ByteArray.mk #[80, 71] ++ num)) rfl (by kernel_rfl) (by kernel_rfl) (by kernel_rfl) (fun _ _ _ h => h) (Or.inl ⟨by rfl, fun w' hSw => by ((try dsimp only at hSw); go_simp)⟩) (by assumption) ?_
      (try simp only [Act.put, List.setIfInBounds_toArray, List.set_cons_zero, List.set_cons_succ])
      refine wpAnyH_take (i := 13) (oi := { dst := some 20, op := Op.binOp BinOp.add 9 (Operand.tmp 18) (Operand.tmp 19) 9, type := 9, pos := "base.go:189", after := #[{ on := 11, ground := Ground.data }, { on := 12, ground := Ground.data }], guard := none }) (v := .string (ByteArray.mk #[80, 71] ++ num ++ z)) rfl (by kernel_rfl) (by kernel_rfl) (by kernel_rfl) (fun _ _ _ h => h) (Or.inl ⟨by rfl, fun w' hSw => by ((try dsimp only at hSw); go_simp)⟩) (by assumption) ?_
      (try simp only [Act.put, List.setIfInBounds_toArray, List.set_cons_zero, List.set_cons_succ])
      refine wpAnyH_take (i := 16) (oi := { dst := some 23, op := Op.binOp BinOp.add 9 (Operand.tmp 20) (Operand.tmp 22) 9, type := 9, pos := "base.go:189", after := #[{ on := 13, ground := Ground.data }, { on := 15, ground := Ground.data }], guard := none }) (v := .string (ByteArray.mk #[80, 71] ++ num ++ z ++ b)) rfl (by kernel_rfl) (by kernel_rfl) (by kernel_rfl) (fun _ _ _ h => h) (Or.inl ⟨by rfl, fun w' hSw => by ((try dsimp only at hSw); go_simp)⟩) (by assumption) ?_
      (try simp only [Act.put, List.setIfInBounds_toArray, List.set_cons_zero, List.set_cons_succ])
      refine wpAnyH_take (i := 17) (oi := { dst := some 2, op := Op.assign (Operand.tmp 23), type := 9, pos := "base.go:189", after := #[{ on := 16, ground := Ground.data }, { on := 12, ground := Ground.chain }, { on := 0, ground := Ground.phase }, { on := 1, ground := Ground.phase }, { on := 2, ground := Ground.phase }, { on := 3, ground := Ground.phase }, { on := 4, ground := Ground.phase }, { on := 5, ground := Ground.phase }, { on := 6, ground := Ground.phase }, { on := 7, ground := Ground.phase }, { on := 8, ground := Ground.phase }, { on := 9, ground := Ground.phase }, { on := 10, ground := Ground.phase }, { on := 11, ground := Ground.phase }, { on := 12, ground := Ground.phase }, { on := 13, ground := Ground.phase }, { on := 14, ground := Ground.phase }, { on := 15, ground := Ground.phase }, { on := 16, ground := Ground.phase }], guard := none }) (v := .string (ByteArray.mk #[80, 71] ++ num ++ z ++ b)) rfl (by kernel_rfl) (by kernel_rfl) (by kernel_rfl) (fun _ _ _ h => h) (Or.inl ⟨by rfl, fun w' hSw => by ((try dsimp only at hSw); go_simp)⟩) (by assumption) ?_
      (try simp only [Act.put, List.setIfInBounds_toArray, List.set_cons_zero, List.set_cons_succ])
      refine wpAnyH_take (i := 18) (oi := { dst := some 3, op := Op.assign (Operand.const (Value.bool true)), type := 4, pos := "base.go:189", after := #[{ on := 17, ground := Ground.chain }, { on := 0, ground := Ground.phase }, { on := 1, ground := Ground.phase }, { on := 2, ground := Ground.phase }, { on := 3, ground := Ground.phase }, { on := 4, ground := Ground.phase }, { on := 5, ground := Ground.phase }, { on := 6, ground := Ground.phase }, { on := 7, ground := Ground.phase }, { on := 8, ground := Ground.phase }, { on := 9, ground := Ground.phase }, { on := 10, ground := Ground.phase }, { on := 11, ground := Ground.phase }, { on := 12, ground := Ground.phase }, { on := 13, ground := Ground.phase }, { on := 14, ground := Ground.phase }, { on := 15, ground := Ground.phase }, { on := 16, ground := Ground.phase }, { on := 17, ground := Ground.phase }], guard := none }) (v := .bool true) rfl (by kernel_rfl) (by kernel_rfl) (by kernel_rfl) (fun _ _ _ h => h) (Or.inl ⟨by rfl, fun w' hSw => by ((try dsimp only at hSw); go_simp)⟩) (by assumption) ?_
      (try simp only [Act.put, List.setIfInBounds_toArray, List.set_cons_zero, List.set_cons_succ])
      refine wpAnyH_done (by kernel_rfl) ?_ _
      refine NoPanic.normal ?_
      go_wp2_with fail
      rw [HE.out]
      go_ret2
      exact ⟨rfl, HB.out.trans (Below.mono (Held.trans hOld hHeld) HB2.out)⟩
    exact AllReadyH.nil
  exact AllReadyH.nil
theorem rput_any (k d n : Int) (b : ByteArray) (w : World) : Calls Tryd.prog 11 #[pv k d n b] w fun e w' => e = .returned (.tuple #[.string (if okV k d n b then str (Pg.bytes ⟨k, d, n, b.data.toList⟩) else ⟨#[]⟩), .bool (okV k d n b)]) ∧ Below w.heap.size w w' := by
  cases h : okV k d n b with
  | true => exact rput_ok k d n b h w
  | false => exact rput_bad k d n b h w
end Go.Proofs.YtkopgohmocjbbaaDoor
