/- The contract of the document's own Get. -/
import Derived.Test.YtkopgohmocjbbaaDoorGet
import Derived.LoopTactic
namespace Go.Proofs.YtkopgohmocjbbaaDoor
open Go.ChangeShapes Go.WideShapes Go.ChangeAt Go.RowKit
set_option linter.unusedVariables false
set_option linter.unusedSimpArgs false
theorem extract_two (b : ByteArray) (h : b.size = 256) : (b.extract 4 6).data.toList = [b.data.toList.getD 4 0, b.data.toList.getD 5 0] := by
  have hs : b.data.size = 256 := h
  have e : (b.extract 4 6).data.toList = (b.data.toList.drop 4).take 2 := by simp [ByteArray.data_extract]
  rw [e]
  apply List.ext_getElem
  · simp [hs]
  · intro i h1 h2
    simp at h2
    have : i = 0 ∨ i = 1 := by omega
    rcases this with rfl | rfl
    · simp [List.getD_eq_getElem?_getD, hs]
    · simp [List.getD_eq_getElem?_getD, hs]
set_option maxHeartbeats 1000000 in
theorem of_two (s : ByteArray) (x y : UInt8) (hs : s.data.toList = [x, y]) (w : World) : Calls Tryd.prog 21 #[.string s] w fun e w' => e = .returned (.int .i64 ((x.toNat : Int) * 256 + (y.toNat : Int))) ∧ w = w' := by
  have hsz : s.size = 2 := by rw [← ByteArray.size_data, ← Array.length_toList, hs]; rfl
  have i0 : ∀ w : World, (Instr.index 9 (.string s) (.int .i64 0)).run Tryd.prog w = .ok (.int .u8 (x.toNat : Int)) w := fun w => by
    have := run_ix s 0 (by omega) w
    rw [hs] at this
    exact this
  have i1 : ∀ w : World, (Instr.index 9 (.string s) (.int .i64 1)).run Tryd.prog w = .ok (.int .u8 (y.toNat : Int)) w := fun w => by
    have := run_ix s 1 (by omega) w
    rw [hs] at this
    exact this
  have l0 := x.toNat_lt
  have l1 := y.toNat_lt
  generalize x.toNat = a at *
  generalize y.toNat = c at *
  have e1 := wrap_in a (by omega) (by omega)
  have e2 := wrap_in c (by omega) (by omega)
  have e3 := wrap_in ((a : Int) * 256) (by omega) (by omega)
  have e4 := wrap_in ((a : Int) * 256 + c) (by omega) (by omega)
  clear hs
  go_enter Tryd.func21, Tryd.ntmps21
  go_wp2_with fail
  refine wp_loop_rounds 3 ?_
  rw [rounds_succ]
  go_wp2_with fail
  rw [rounds_succ]
  go_wp2_with fail
  rw [rounds_succ]
  go_wp2_with fail
  go_ret
  exact ⟨rfl, rfl⟩
theorem rget_len (b : ByteArray) (h : b.size ≠ 256) (hs : b.size ≤ maxLen) (w : World) : Calls Tryd.prog 13 #[.string b] w fun e w' => e = .returned (.tuple #[pvP nilP, .bool false]) ∧ Below w.heap.size w w' := by
  have h' : ((b.size : Int) == 256) = false := by rw [beq_eq_false_iff_ne]; omega
  have BL := Lib.hid (fun w => zeros_ok 256 (by omega) w)
  have hne : (b.toList == (str (zs 256)).toList) = false := by
    rw [beq_eq_false_iff_ne]
    intro e
    apply h
    rw [str_list, ByteArray.toList_eq] at e
    rw [← ByteArray.size_data, ← Array.length_toList, e, zs_length]
  generalize str (zs 256) = z at BL hne
  unfold pvP pv nilP
  dsimp only
  rw [show str [] = ByteArray.mk #[] from rfl]
  have HX := Lib.hid (Box.new w (.int .i64 0) (.int .i64 0) (.int .i64 0) (.string ⟨#[]⟩))
  have HB := Lib.hid ((Below.refl w.heap.size w).alloc (Nat.le_refl _) (.cells #[.int .i64 0, .int .i64 0, .int .i64 0, .string ⟨#[]⟩] 23))
  go_enter Tryd.func13, Tryd.ntmps13
  go_wp2_with fail
  refine (BL.out _).mono ?_; rintro e w1 ⟨rfl, hb⟩
  have HX1 := Lib.hid (HX.out.kept hb)
  have HB1 := Lib.hid (HB.out.trans (hb.mono (Below.size HB.out)))
  clear hb HX HB
  obtain ⟨⟨x0, x1, x2, x3⟩, f0, f1, f2, f3⟩ := And.intro HX1.out.cells HX1.out.free
  go_wp2_with fail
  refine bodyPost_ret (v := .tuple #[.agg #[.int .i64 0, .int .i64 0, .int .i64 0, .string ⟨#[]⟩], .bool false]) (by simp [results, Tryd.results13, go_sem, x0, x1, x2, x3]) rfl ⟨rfl, ?_⟩
  exact below_four HB1.out (Nat.le_refl _) _ _ _ _
set_option maxHeartbeats 1000000 in
theorem rget_zero (w : World) : Calls Tryd.prog 13 #[.string (str (zs 256))] w fun e w' => e = .returned (.tuple #[pvP free, .bool true]) ∧ Below w.heap.size w w' := by
  have BL := Lib.hid (fun w => zeros_ok 256 (by omega) w)
  have EM := Lib.hid (fun w => zeros_ok 240 (by omega) w)
  unfold pvP free
  dsimp only
  unfold pv at *
  obtain ⟨z, hz⟩ : ∃ z, z = str (zs 256) := ⟨_, rfl⟩
  rw [← hz] at BL ⊢
  obtain ⟨y, hy⟩ : ∃ y, y = str (zs 240) := ⟨_, rfl⟩
  rw [← hy] at EM ⊢
  have hzs : z.size = 256 := by rw [hz, str_size, zs_length]
  have hse : (z.toList == z.toList) = true := by simp
  clear hz hy
  have HX := Lib.hid (Box.new w (.int .i64 0) (.int .i64 0) (.int .i64 0) (.string ⟨#[]⟩))
  have HB := Lib.hid ((Below.refl w.heap.size w).alloc (Nat.le_refl _) (.cells #[.int .i64 0, .int .i64 0, .int .i64 0, .string ⟨#[]⟩] 23))
  go_enter Tryd.func13, Tryd.ntmps13
  go_wp2_with fail
  refine (BL.out _).mono ?_; rintro e w1 ⟨rfl, hb⟩
  have HX1 := Lib.hid (HX.out.kept hb)
  have HB1 := Lib.hid (HB.out.trans (hb.mono (Below.size HB.out)))
  clear hb HX HB
  go_wp2_with fail
  refine (EM.out _).mono ?_; rintro e w2 ⟨rfl, hb⟩
  have HX2 := Lib.hid (HX1.out.kept hb)
  have HB2 := Lib.hid (HB1.out.trans (hb.mono (Below.size HB1.out)))
  clear hb HX1 HB1
  obtain ⟨⟨x0, x1, x2, x3⟩, f0, f1, f2, f3⟩ := And.intro HX2.out.cells HX2.out.free
  go_wp2_with fail
  refine bodyPost_ret (v := .tuple #[.agg #[.int .i64 0, .int .i64 0, .int .i64 0, .string y], .bool true]) (by simp [results, Tryd.results13, go_sem, x0, x1, x2, x3]) rfl ⟨rfl, ?_⟩
  exact below_four HB2.out (Nat.le_refl _) _ _ _ _
set_option maxHeartbeats 4000000 in
theorem rget_other (b : ByteArray) (h : b.size = 256) (hz : b ≠ str (zs 256)) (w : World) : Calls Tryd.prog 13 #[.string b] w fun e w' => e = .returned (.tuple #[pvP (valB b.data.toList), .bool (okB b.data.toList)]) ∧ Below w.heap.size w w' := by
  have BL := Lib.hid (fun w => zeros_ok 256 (by omega) w)
  have hne : (b.toList == (str (zs 256)).toList) = false := by
    rw [beq_eq_false_iff_ne]
    intro e
    apply hz
    rw [str_list, ByteArray.toList_eq] at e
    rw [← e, str_data]
  have hzl : b.data.toList ≠ zs 256 := fun e => hz (by rw [← str_data b, e])
  generalize str (zs 256) = z at BL hne
  -- the four numbers and the body
  have i2 : ∀ w : World, (Instr.index 9 (.string b) (.int .i64 2)).run Tryd.prog w = .ok (.int .u8 ((b.data.toList.getD 2 0).toNat : Int)) w := fun w => run_ix b 2 (by omega) w
  have i3 : ∀ w : World, (Instr.index 9 (.string b) (.int .i64 3)).run Tryd.prog w = .ok (.int .u8 ((b.data.toList.getD 3 0).toNat : Int)) w := fun w => run_ix b 3 (by omega) w
  have i4 : ∀ w : World, (Instr.index 9 (.string b) (.int .i64 4)).run Tryd.prog w = .ok (.int .u8 ((b.data.toList.getD 4 0).toNat : Int)) w := fun w => run_ix b 4 (by omega) w
  have i5 : ∀ w : World, (Instr.index 9 (.string b) (.int .i64 5)).run Tryd.prog w = .ok (.int .u8 ((b.data.toList.getD 5 0).toNat : Int)) w := fun w => run_ix b 5 (by omega) w
  have l2 := (b.data.toList.getD 2 0).toNat_lt
  have l3 := (b.data.toList.getD 3 0).toNat_lt
  have l4 := (b.data.toList.getD 4 0).toNat_lt
  have l5 := (b.data.toList.getD 5 0).toNat_lt
  have HL := Lib.hid (show b.data.toList.length = 256 by rw [Array.length_toList]; exact h)
  have ho := or_add _ _ l4 l5
  have HPG := Lib.hid (show ofB b.data.toList = ⟨((b.data.toList.getD 2 0).toNat : Int), ((b.data.toList.getD 3 0).toNat : Int), ((b.data.toList.getD 4 0).toNat : Int) * 256 + ((b.data.toList.getD 5 0).toNat : Int), b.data.toList.drop 16⟩ from rfl)
  generalize (b.data.toList.getD 2 0).toNat = c2 at *
  generalize (b.data.toList.getD 3 0).toNat = c3 at *
  generalize hc4 : (b.data.toList.getD 4 0).toNat = c4 at *
  generalize hc5 : (b.data.toList.getD 5 0).toNat = c5 at *
  have HC4 := Lib.hid hc4
  have HC5 := Lib.hid hc5
  clear hc4 hc5
  obtain ⟨two, htwo⟩ : ∃ two, two = b.extract 4 6 := ⟨_, rfl⟩
  have HTB := Lib.hid (show two.data.toList = [b.data.toList.getD 4 0, b.data.toList.getD 5 0] by rw [htwo]; exact extract_two b h)
  have w2' := wrap_in c2 (by omega) (by omega)
  have w3' := wrap_in c3 (by omega) (by omega)
  have w4' := wrap_in c4 (by omega) (by omega)
  have w5' := wrap_in c5 (by omega) (by omega)
  have w6' := wrap_in ((c4 : Int) * 256) (by omega) (by omega)
  obtain ⟨body, hbody⟩ : ∃ body, body = b.extract 16 256 := ⟨_, rfl⟩
  have HBD := Lib.hid (show body.data.toList = b.data.toList.drop 16 by rw [hbody, extract_tail b h, str_toList])
  have hbs : body.size = 240 := by rw [hbody, extract_tail b h, str_size, List.length_drop, HL.out]
  have HBE := Lib.hid hbody.symm
  clear hbody
  obtain ⟨N, hN⟩ : ∃ N, N = (c4 : Int) * 256 + (c5 : Int) := ⟨_, rfl⟩
  rw [← hN] at ho HPG
  have HN := Lib.hid hN
  clear hN
  have OF := Lib.hid (fun w => of_two two _ _ HTB.out w)
  rw [HC4.out, HC5.out, ← HN.out] at OF
  have HTE := Lib.hid htwo.symm
  clear htwo
  have PU := Lib.hid (fun w => rput_any c2 c3 N body w)
  have HX := Lib.hid (Box.new w (.int .i64 0) (.int .i64 0) (.int .i64 0) (.string ⟨#[]⟩))
  have HB := Lib.hid ((Below.refl w.heap.size w).alloc (Nat.le_refl _) (.cells #[.int .i64 0, .int .i64 0, .int .i64 0, .string ⟨#[]⟩] 23))
  clear hz
  have HZL := Lib.hid hzl
  clear hzl
  unfold pvP pv at *
  go_enter Tryd.func13, Tryd.ntmps13
  go_wp2_with fail
  refine (BL.out _).mono ?_; rintro e w1 ⟨rfl, hb⟩
  have HX1 := Lib.hid (HX.out.kept hb)
  have HB1 := Lib.hid (HB.out.trans (hb.mono (Below.size HB.out)))
  clear hb HX HB BL
  go_wp2_with fail
  refine wp_region_noPanic ?_
  refine wp_region_held_drew (S := Held w1) (by kernel_rfl) ?_ (fun hHeld => ?_)
  · exact (Below.refl _ _).drew
  refine wpAnyH_take (i := 0) (oi := { dst := some 16, op := Op.move (Operand.tmp 0), type := 9, pos := "base.go:199", after := #[], guard := none }) (v := .string b) rfl (by kernel_rfl) (by kernel_rfl) (by kernel_rfl) (fun _ _ _ h => h) (Or.inl ⟨by rfl, fun w' hSw => by ((try dsimp only at hSw); go_simp)⟩) (by assumption) ?_
  (try simp only [Act.put, List.setIfInBounds_toArray, List.set_cons_zero, List.set_cons_succ])
  refine wpAnyH_take (i := 1) (oi := { dst := some 17, op := Op.index 9 (Operand.tmp 16) (Operand.const (Value.int IntKind.i64 2)), type := 5, pos := "base.go:199", after := #[{ on := 0, ground := Ground.data }], guard := none }) (v := .int .u8 c2) rfl (by kernel_rfl) (by kernel_rfl) (by kernel_rfl) (fun _ _ _ h => h) (Or.inl ⟨by rfl, fun w' hSw => by ((try dsimp only at hSw); have := i2 w'; go_simp)⟩) (by assumption) ?_
  (try simp only [Act.put, List.setIfInBounds_toArray, List.set_cons_zero, List.set_cons_succ])
  refine wpAnyH_take (i := 2) (oi := { dst := some 18, op := Op.convert 5 3 (Operand.tmp 17), type := 3, pos := "base.go:199", after := #[{ on := 1, ground := Ground.data }], guard := none }) (v := .int .i64 c2) rfl (by kernel_rfl) (by kernel_rfl) (by kernel_rfl) (fun _ _ _ h => h) (Or.inl ⟨by rfl, fun w' hSw => by ((try dsimp only at hSw); go_simp)⟩) (by assumption) ?_
  (try simp only [Act.put, List.setIfInBounds_toArray, List.set_cons_zero, List.set_cons_succ])
  refine wpAnyH_take (i := 3) (oi := { dst := some 19, op := Op.move (Operand.tmp 0), type := 9, pos := "base.go:199", after := #[], guard := none }) (v := .string b) rfl (by kernel_rfl) (by kernel_rfl) (by kernel_rfl) (fun _ _ _ h => h) (Or.inl ⟨by rfl, fun w' hSw => by ((try dsimp only at hSw); go_simp)⟩) (by assumption) ?_
  (try simp only [Act.put, List.setIfInBounds_toArray, List.set_cons_zero, List.set_cons_succ])
  refine wpAnyH_take (i := 4) (oi := { dst := some 20, op := Op.index 9 (Operand.tmp 19) (Operand.const (Value.int IntKind.i64 3)), type := 5, pos := "base.go:199", after := #[{ on := 3, ground := Ground.data }], guard := none }) (v := .int .u8 c3) rfl (by kernel_rfl) (by kernel_rfl) (by kernel_rfl) (fun _ _ _ h => h) (Or.inl ⟨by rfl, fun w' hSw => by ((try dsimp only at hSw); have := i3 w'; go_simp)⟩) (by assumption) ?_
  (try simp only [Act.put, List.setIfInBounds_toArray, List.set_cons_zero, List.set_cons_succ])
  refine wpAnyH_take (i := 5) (oi := { dst := some 21, op := Op.convert 5 3 (Operand.tmp 20), type := 3, pos := "base.go:199", after := #[{ on := 4, ground := Ground.data }], guard := none }) (v := .int .i64 c3) rfl (by kernel_rfl) (by kernel_rfl) (by kernel_rfl) (fun _ _ _ h => h) (Or.inl ⟨by rfl, fun w' hSw => by ((try dsimp only at hSw); go_simp)⟩) (by assumption) ?_
  (try simp only [Act.put, List.setIfInBounds_toArray, List.set_cons_zero, List.set_cons_succ])
  refine wpAnyH_take (i := 6) (oi := { dst := some 22, op := Op.move (Operand.tmp 0), type := 9, pos := "base.go:199", after := #[], guard := none }) (v := .string b) rfl (by kernel_rfl) (by kernel_rfl) (by kernel_rfl) (fun _ _ _ h => h) (Or.inl ⟨by rfl, fun w' hSw => by ((try dsimp only at hSw); go_simp)⟩) (by assumption) ?_
  (try simp only [Act.put, List.setIfInBounds_toArray, List.set_cons_zero, List.set_cons_succ])
  refine wpAnyH_take (i := 7) (oi := { dst := some 23, op := Op.slice 9 (Operand.tmp 22) (some (Operand.const (Value.int IntKind.i64 4))) (some (Operand.const (Value.int IntKind.i64 6))) none, type := 9, pos := "base.go:199", after := #[{ on := 6, ground := Ground.data }], guard := none }) (v := .string two) rfl (by kernel_rfl) (by kernel_rfl) (by kernel_rfl) (fun _ _ _ h => h) (Or.inl ⟨by rfl, fun w' hSw => by ((try dsimp only at hSw); have := HTE.out; go_simp)⟩) (by assumption) ?_
  (try simp only [Act.put, List.setIfInBounds_toArray, List.set_cons_zero, List.set_cons_succ])
  refine wpAnyH_take (i := 9) (oi := { dst := some 25, op := Op.move (Operand.tmp 0), type := 9, pos := "base.go:199", after := #[], guard := none }) (v := .string b) rfl (by kernel_rfl) (by kernel_rfl) (by kernel_rfl) (fun _ _ _ h => h) (Or.inl ⟨by rfl, fun w' hSw => by ((try dsimp only at hSw); go_simp)⟩) (by assumption) ?_
  (try simp only [Act.put, List.setIfInBounds_toArray, List.set_cons_zero, List.set_cons_succ])
  refine wpAnyH_take (i := 10) (oi := { dst := some 26, op := Op.slice 9 (Operand.tmp 25) (some (Operand.const (Value.int IntKind.i64 16))) none none, type := 9, pos := "base.go:199", after := #[{ on := 9, ground := Ground.data }], guard := none }) (v := .string body) rfl (by kernel_rfl) (by kernel_rfl) (by kernel_rfl) (fun _ _ _ h => h) (Or.inl ⟨by rfl, fun w' hSw => by ((try dsimp only at hSw); have := HBE.out; go_simp)⟩) (by assumption) ?_
  (try simp only [Act.put, List.setIfInBounds_toArray, List.set_cons_zero, List.set_cons_succ])
  refine wpAnyH_ready (rs := [8, 12]) (by kernel_rfl) (by simp) ?_
  refine AllReadyH.cons (o := { dst := some 24, op := Op.call { callee := Callee.value (Operand.func 21), args := #[Operand.tmp 23], argTypes := #[9] }, type := 3, pos := "base.go:199", after := #[{ on := 7, ground := Ground.data }], guard := none }) rfl (fun K hK => ?_) ?_
  · go_simp; go_at_call 21; refine (OF.out _).mono ?_; rintro e w2 ⟨rfl, rfl⟩
    refine hK.out _ _ ?_ (fun hHeld => ?_)
    · exact (Below.refl w1.heap.size w1).drew
    clear hK K
    (try simp only [Act.put, List.setIfInBounds_toArray, List.set_cons_zero, List.set_cons_succ])
    refine wpAnyH_take (i := 11) (oi := { dst := some 27, op := Op.build 23 #[(0, Operand.tmp 18), (1, Operand.tmp 21), (2, Operand.tmp 24), (3, Operand.tmp 26)], type := 23, pos := "base.go:199", after := #[{ on := 2, ground := Ground.data }, { on := 5, ground := Ground.data }, { on := 8, ground := Ground.data }, { on := 10, ground := Ground.data }], guard := none }) (v := (.agg #[.int .i64 c2, .int .i64 c3, .int .i64 N, .string body])) rfl (by kernel_rfl) (by kernel_rfl) (by kernel_rfl) (fun _ _ _ h => h) (Or.inl ⟨by rfl, fun w' hSw => by ((try dsimp only at hSw); go_simp)⟩) (by assumption) ?_
    (try simp only [Act.put, List.setIfInBounds_toArray, List.set_cons_zero, List.set_cons_succ])
    refine wpAnyH_ready (rs := [12]) (by kernel_rfl) (by simp) ?_
    refine AllReadyH.cons (o := { dst := some 4, op := Op.alloc 23, type := 0, pos := "base.go:199", after := #[], guard := none }) rfl (fun K hK => ?_) ?_
    · go_simp
      refine hK.out _ _ ?_ (fun hHeld => ?_)
      · exact (Below.refl w1.heap.size w1).drew.alloc (Nat.le_refl _) _
      clear hK K
      (try simp only [Act.put, List.setIfInBounds_toArray, List.set_cons_zero, List.set_cons_succ])
      refine wpAnyH_ready (rs := [13]) (by kernel_rfl) (by simp) ?_
      refine AllReadyH.cons (o := { dst := none, op := Op.store 23 (Operand.tmp 4) (Operand.tmp 27), type := 0, pos := "base.go:199", after := #[{ on := 12, ground := Ground.data }, { on := 11, ground := Ground.data }, { on := 8, ground := Ground.chain }, { on := 0, ground := Ground.phase }, { on := 1, ground := Ground.phase }, { on := 2, ground := Ground.phase }, { on := 3, ground := Ground.phase }, { on := 4, ground := Ground.phase }, { on := 5, ground := Ground.phase }, { on := 6, ground := Ground.phase }, { on := 7, ground := Ground.phase }, { on := 8, ground := Ground.phase }, { on := 9, ground := Ground.phase }, { on := 10, ground := Ground.phase }, { on := 11, ground := Ground.phase }, { on := 12, ground := Ground.phase }], guard := none }) rfl (fun K hK => ?_) ?_
      · go_simp
        refine hK.out _ _ ?_ (fun hHeld => ?_)
        · exact (Below.refl w1.heap.size w1).drew.alloc (Nat.le_refl _) _
        clear hK K
        (try simp only [Act.put, List.setIfInBounds_toArray, List.set_cons_zero, List.set_cons_succ])
        refine wpAnyH_done (by kernel_rfl) ?_ _
        refine NoPanic.normal ?_
        have HPB := Lib.hid (show Box (w1.alloc (.cells #[.int .i64 c2, .int .i64 c3, .int .i64 N, .string body] 23)).drew w1.heap.size _ _ _ _ from Box.new w1 (.int .i64 c2) (.int .i64 c3) (.int .i64 N) (.string body))
        have HRB := Lib.hid (HX1.out.below (Below.drew ((Below.refl w1.heap.size w1).alloc (Nat.le_refl _) (.cells #[.int .i64 c2, .int .i64 c3, .int .i64 N, .string body] 23))) (Nat.le_refl _))
        have HBW := Lib.hid (Below.drew (HB1.out.alloc (Below.size HB1.out) (.cells #[.int .i64 c2, .int .i64 c3, .int .i64 N, .string body] 23)))
        have HGN := Lib.hid (Nat.ne_of_gt HX1.out.lt)
        clear hHeld HX1 HB1
        generalize (w1.alloc (.cells #[.int .i64 c2, .int .i64 c3, .int .i64 N, .string body] 23)).drew = V at *
        have hgn : w1.heap.size ≠ w.heap.size := HGN.out
        generalize w1.heap.size = g at *
        obtain ⟨p0, p1, p2, p3⟩ := HPB.out.cells
        cases hok : okV c2 c3 N body with
        | false =>
          rw [hok] at PU
          have HNO := Lib.hid (show ¬ ((Pg.mk c2 c3 N body.data.toList).Ok ∧ (Pg.mk c2 c3 N body.data.toList).bytes = b.data.toList) from fun hh => by rw [okV_ok.2 hh.1] at hok; cases hok)
          clear hok
          go_wp2_with fail
          refine (PU.out _).mono ?_; rintro e w3 ⟨rfl, hb3⟩
          have HRB3 := Lib.hid (HRB.out.kept hb3)
          have HPB3 := Lib.hid (HPB.out.kept hb3)
          have HB3 := Lib.hid (HBW.out.trans (hb3.mono (Below.size HBW.out)))
          clear hb3 HRB HPB HBW
          obtain ⟨⟨x0, x1, x2, x3⟩, f0, f1, f2, f3⟩ := And.intro HRB3.out.cells HRB3.out.free
          obtain ⟨y0, y1, y2, y3⟩ := HPB3.out.cells
          go_wp2_with fail
          have hnone : getP b.data.toList = none := getP_none HZL.out (by rw [HPG.out, ← HBD.out]; exact HNO.out)
          refine bodyPost_ret (v := .tuple #[.agg #[.int .i64 0, .int .i64 0, .int .i64 0, .string ⟨#[]⟩], .bool false]) (by simp [results, Tryd.results13, go_sem, x0, x1, x2, x3]) rfl ⟨by rw [valB_none hnone, okB_none hnone]; rfl, ?_⟩
          exact below_four HB3.out (Nat.le_refl _) _ _ _ _
        | true =>
          rw [hok, if_pos rfl] at PU
          have HOK := Lib.hid (okV_ok.1 hok)
          clear hok
          by_cases he : (Pg.mk c2 c3 N body.data.toList).bytes = b.data.toList
          · rw [he, str_data] at PU
            have hse : (b.toList == b.toList) = true := by simp
            have hsome := getP_one HL.out HZL.out (by rw [HPG.out, ← HBD.out]; exact HOK.out) (by rw [HPG.out, ← HBD.out]; exact he)
            rw [HPG.out, ← HBD.out] at hsome
            have HSM := Lib.hid hsome
            clear hsome he
            go_wp2_with fail
            refine (PU.out _).mono ?_; rintro e w3 ⟨rfl, hb3⟩
            have HRB3 := Lib.hid (HRB.out.kept hb3)
            have HPB3 := Lib.hid (HPB.out.kept hb3)
            have HB3 := Lib.hid (HBW.out.trans (hb3.mono (Below.size HBW.out)))
            clear hb3 HRB HPB HBW
            obtain ⟨⟨x0, x1, x2, x3⟩, f0, f1, f2, f3⟩ := And.intro HRB3.out.cells HRB3.out.free
            obtain ⟨y0, y1, y2, y3⟩ := HPB3.out.cells
            go_wp2_with fail
            refine bodyPost_ret (v := .tuple #[.agg #[.int .i64 c2, .int .i64 c3, .int .i64 N, .string body], .bool true]) (by simp [results, Tryd.results13, go_sem, x0, x1, x2, x3]) rfl ⟨by rw [valB_some HSM.out, okB_some HSM.out]; dsimp only; rw [str_data], ?_⟩
            exact below_four HB3.out (Nat.le_refl _) _ _ _ _
          · have HNO := Lib.hid (show ¬ ((Pg.mk c2 c3 N body.data.toList).Ok ∧ (Pg.mk c2 c3 N body.data.toList).bytes = b.data.toList) from fun hh => he hh.2)
            have hsn : ((str (Pg.mk c2 c3 N body.data.toList).bytes).toList == b.toList) = false := by
              rw [beq_eq_false_iff_ne, str_list, ByteArray.toList_eq]; exact he
            generalize str (Pg.mk c2 c3 N body.data.toList).bytes = sb at PU hsn
            clear he
            go_wp2_with fail
            refine (PU.out _).mono ?_; rintro e w3 ⟨rfl, hb3⟩
            have HRB3 := Lib.hid (HRB.out.kept hb3)
            have HPB3 := Lib.hid (HPB.out.kept hb3)
            have HB3 := Lib.hid (HBW.out.trans (hb3.mono (Below.size HBW.out)))
            clear hb3 HRB HPB HBW
            obtain ⟨⟨x0, x1, x2, x3⟩, f0, f1, f2, f3⟩ := And.intro HRB3.out.cells HRB3.out.free
            obtain ⟨y0, y1, y2, y3⟩ := HPB3.out.cells
            go_wp2_with fail
            have hnone : getP b.data.toList = none := getP_none HZL.out (by rw [HPG.out, ← HBD.out]; exact HNO.out)
            refine bodyPost_ret (v := .tuple #[.agg #[.int .i64 0, .int .i64 0, .int .i64 0, .string ⟨#[]⟩], .bool false]) (by simp [results, Tryd.results13, go_sem, x0, x1, x2, x3]) rfl ⟨by rw [valB_none hnone, okB_none hnone]; rfl, ?_⟩
            exact below_four HB3.out (Nat.le_refl _) _ _ _ _
      exact AllReadyH.nil
    exact AllReadyH.nil
  refine AllReadyH.cons (o := { dst := some 4, op := Op.alloc 23, type := 0, pos := "base.go:199", after := #[], guard := none }) rfl (fun K hK => ?_) ?_
  · go_simp
    refine hK.out _ _ ?_ (fun hHeld => ?_)
    · exact (Below.refl w1.heap.size w1).drew.alloc (Nat.le_refl _) _
    clear hK K
    (try simp only [Act.put, List.setIfInBounds_toArray, List.set_cons_zero, List.set_cons_succ])
    refine wpAnyH_ready (rs := [8]) (by kernel_rfl) (by simp) ?_
    refine AllReadyH.cons (o := { dst := some 24, op := Op.call { callee := Callee.value (Operand.func 21), args := #[Operand.tmp 23], argTypes := #[9] }, type := 3, pos := "base.go:199", after := #[{ on := 7, ground := Ground.data }], guard := none }) rfl (fun K hK => ?_) ?_
    · go_simp; go_at_call 21; refine (OF.out _).mono ?_; rintro e w2 ⟨rfl, rfl⟩
      refine hK.out _ _ ?_ (fun hHeld => ?_)
      · exact (Below.refl w1.heap.size w1).drew.alloc (Nat.le_refl _) _
      clear hK K
      (try simp only [Act.put, List.setIfInBounds_toArray, List.set_cons_zero, List.set_cons_succ])
      refine wpAnyH_take (i := 11) (oi := { dst := some 27, op := Op.build 23 #[(0, Operand.tmp 18), (1, Operand.tmp 21), (2, Operand.tmp 24), (3, Operand.tmp 26)], type := 23, pos := "base.go:199", after := #[{ on := 2, ground := Ground.data }, { on := 5, ground := Ground.data }, { on := 8, ground := Ground.data }, { on := 10, ground := Ground.data }], guard := none }) (v := (.agg #[.int .i64 c2, .int .i64 c3, .int .i64 N, .string body])) rfl (by kernel_rfl) (by kernel_rfl) (by kernel_rfl) (fun _ _ _ h => h) (Or.inl ⟨by rfl, fun w' hSw => by ((try dsimp only at hSw); go_simp)⟩) (by assumption) ?_
      (try simp only [Act.put, List.setIfInBounds_toArray, List.set_cons_zero, List.set_cons_succ])
      refine wpAnyH_ready (rs := [13]) (by kernel_rfl) (by simp) ?_
      refine AllReadyH.cons (o := { dst := none, op := Op.store 23 (Operand.tmp 4) (Operand.tmp 27), type := 0, pos := "base.go:199", after := #[{ on := 12, ground := Ground.data }, { on := 11, ground := Ground.data }, { on := 8, ground := Ground.chain }, { on := 0, ground := Ground.phase }, { on := 1, ground := Ground.phase }, { on := 2, ground := Ground.phase }, { on := 3, ground := Ground.phase }, { on := 4, ground := Ground.phase }, { on := 5, ground := Ground.phase }, { on := 6, ground := Ground.phase }, { on := 7, ground := Ground.phase }, { on := 8, ground := Ground.phase }, { on := 9, ground := Ground.phase }, { on := 10, ground := Ground.phase }, { on := 11, ground := Ground.phase }, { on := 12, ground := Ground.phase }], guard := none }) rfl (fun K hK => ?_) ?_
      · go_simp
        refine hK.out _ _ ?_ (fun hHeld => ?_)
        · exact (Below.refl w1.heap.size w1).drew.alloc (Nat.le_refl _) _
        clear hK K
        (try simp only [Act.put, List.setIfInBounds_toArray, List.set_cons_zero, List.set_cons_succ])
        refine wpAnyH_done (by kernel_rfl) ?_ _
        refine NoPanic.normal ?_
        have HPB := Lib.hid (show Box (w1.alloc (.cells #[.int .i64 c2, .int .i64 c3, .int .i64 N, .string body] 23)).drew w1.heap.size _ _ _ _ from Box.new w1 (.int .i64 c2) (.int .i64 c3) (.int .i64 N) (.string body))
        have HRB := Lib.hid (HX1.out.below (Below.drew ((Below.refl w1.heap.size w1).alloc (Nat.le_refl _) (.cells #[.int .i64 c2, .int .i64 c3, .int .i64 N, .string body] 23))) (Nat.le_refl _))
        have HBW := Lib.hid (Below.drew (HB1.out.alloc (Below.size HB1.out) (.cells #[.int .i64 c2, .int .i64 c3, .int .i64 N, .string body] 23)))
        have HGN := Lib.hid (Nat.ne_of_gt HX1.out.lt)
        clear hHeld HX1 HB1
        generalize (w1.alloc (.cells #[.int .i64 c2, .int .i64 c3, .int .i64 N, .string body] 23)).drew = V at *
        have hgn : w1.heap.size ≠ w.heap.size := HGN.out
        generalize w1.heap.size = g at *
        obtain ⟨p0, p1, p2, p3⟩ := HPB.out.cells
        cases hok : okV c2 c3 N body with
        | false =>
          rw [hok] at PU
          have HNO := Lib.hid (show ¬ ((Pg.mk c2 c3 N body.data.toList).Ok ∧ (Pg.mk c2 c3 N body.data.toList).bytes = b.data.toList) from fun hh => by rw [okV_ok.2 hh.1] at hok; cases hok)
          clear hok
          go_wp2_with fail
          refine (PU.out _).mono ?_; rintro e w3 ⟨rfl, hb3⟩
          have HRB3 := Lib.hid (HRB.out.kept hb3)
          have HPB3 := Lib.hid (HPB.out.kept hb3)
          have HB3 := Lib.hid (HBW.out.trans (hb3.mono (Below.size HBW.out)))
          clear hb3 HRB HPB HBW
          obtain ⟨⟨x0, x1, x2, x3⟩, f0, f1, f2, f3⟩ := And.intro HRB3.out.cells HRB3.out.free
          obtain ⟨y0, y1, y2, y3⟩ := HPB3.out.cells
          go_wp2_with fail
          have hnone : getP b.data.toList = none := getP_none HZL.out (by rw [HPG.out, ← HBD.out]; exact HNO.out)
          refine bodyPost_ret (v := .tuple #[.agg #[.int .i64 0, .int .i64 0, .int .i64 0, .string ⟨#[]⟩], .bool false]) (by simp [results, Tryd.results13, go_sem, x0, x1, x2, x3]) rfl ⟨by rw [valB_none hnone, okB_none hnone]; rfl, ?_⟩
          exact below_four HB3.out (Nat.le_refl _) _ _ _ _
        | true =>
          rw [hok, if_pos rfl] at PU
          have HOK := Lib.hid (okV_ok.1 hok)
          clear hok
          by_cases he : (Pg.mk c2 c3 N body.data.toList).bytes = b.data.toList
          · rw [he, str_data] at PU
            have hse : (b.toList == b.toList) = true := by simp
            have hsome := getP_one HL.out HZL.out (by rw [HPG.out, ← HBD.out]; exact HOK.out) (by rw [HPG.out, ← HBD.out]; exact he)
            rw [HPG.out, ← HBD.out] at hsome
            have HSM := Lib.hid hsome
            clear hsome he
            go_wp2_with fail
            refine (PU.out _).mono ?_; rintro e w3 ⟨rfl, hb3⟩
            have HRB3 := Lib.hid (HRB.out.kept hb3)
            have HPB3 := Lib.hid (HPB.out.kept hb3)
            have HB3 := Lib.hid (HBW.out.trans (hb3.mono (Below.size HBW.out)))
            clear hb3 HRB HPB HBW
            obtain ⟨⟨x0, x1, x2, x3⟩, f0, f1, f2, f3⟩ := And.intro HRB3.out.cells HRB3.out.free
            obtain ⟨y0, y1, y2, y3⟩ := HPB3.out.cells
            go_wp2_with fail
            refine bodyPost_ret (v := .tuple #[.agg #[.int .i64 c2, .int .i64 c3, .int .i64 N, .string body], .bool true]) (by simp [results, Tryd.results13, go_sem, x0, x1, x2, x3]) rfl ⟨by rw [valB_some HSM.out, okB_some HSM.out]; dsimp only; rw [str_data], ?_⟩
            exact below_four HB3.out (Nat.le_refl _) _ _ _ _
          · have HNO := Lib.hid (show ¬ ((Pg.mk c2 c3 N body.data.toList).Ok ∧ (Pg.mk c2 c3 N body.data.toList).bytes = b.data.toList) from fun hh => he hh.2)
            have hsn : ((str (Pg.mk c2 c3 N body.data.toList).bytes).toList == b.toList) = false := by
              rw [beq_eq_false_iff_ne, str_list, ByteArray.toList_eq]; exact he
            generalize str (Pg.mk c2 c3 N body.data.toList).bytes = sb at PU hsn
            clear he
            go_wp2_with fail
            refine (PU.out _).mono ?_; rintro e w3 ⟨rfl, hb3⟩
            have HRB3 := Lib.hid (HRB.out.kept hb3)
            have HPB3 := Lib.hid (HPB.out.kept hb3)
            have HB3 := Lib.hid (HBW.out.trans (hb3.mono (Below.size HBW.out)))
            clear hb3 HRB HPB HBW
            obtain ⟨⟨x0, x1, x2, x3⟩, f0, f1, f2, f3⟩ := And.intro HRB3.out.cells HRB3.out.free
            obtain ⟨y0, y1, y2, y3⟩ := HPB3.out.cells
            go_wp2_with fail
            have hnone : getP b.data.toList = none := getP_none HZL.out (by rw [HPG.out, ← HBD.out]; exact HNO.out)
            refine bodyPost_ret (v := .tuple #[.agg #[.int .i64 0, .int .i64 0, .int .i64 0, .string ⟨#[]⟩], .bool false]) (by simp [results, Tryd.results13, go_sem, x0, x1, x2, x3]) rfl ⟨by rw [valB_none hnone, okB_none hnone]; rfl, ?_⟩
            exact below_four HB3.out (Nat.le_refl _) _ _ _ _
      exact AllReadyH.nil
    exact AllReadyH.nil
  exact AllReadyH.nil
theorem rget_any (b : ByteArray) (hs : b.size ≤ maxLen) (w : World) : Calls Tryd.prog 13 #[.string b] w fun e w' => e = .returned (.tuple #[pvP (valB b.data.toList), .bool (okB b.data.toList)]) ∧ Below w.heap.size w w' := by
  by_cases h : b.size = 256
  · by_cases hz : b = str (zs 256)
    · have e : getP (str (zs 256)).data.toList = some free := by rw [str_toList]; exact getP_zero
      rw [hz, valB_some e, okB_some e]
      exact rget_zero w
    · exact rget_other b h hz w
  · have e : getP b.data.toList = none := getP_len (by rw [Array.length_toList]; exact h)
    rw [valB_none e, okB_none e]
    exact rget_len b h hs w
end Go.Proofs.YtkopgohmocjbbaaDoor
