/- The contracts of the law's Empty, of its first call 'alive'; pages compared. -/
import Derived.Test.YtljegjcajlkgiaaGreatCut
import Derived.Test.YtljegjcajlkgiaaGreatEqc
import Derived.Laws.StructEq
namespace Go.Proofs.YtljegjcajlkgiaaGreat
open Go.ChangeShapes Go.WideShapes Go.ChangeAt Go.RowKit
set_option linter.unusedVariables false
set_option linter.unusedSimpArgs false
set_option maxRecDepth 100000
def eqP4 (k d x : Int) (b : ByteArray) (k' d' x' : Int) (b' : ByteArray) : Bool := (k == k') && ((d == d') && ((x == x') && (b.toList == b'.toList)))
theorem eqP4_iff {k d x : Int} {b : ByteArray} {k' d' x' : Int} {b' : ByteArray} : eqP4 k d x b k' d' x' b' = true ↔ k = k' ∧ d = d' ∧ x = x' ∧ b = b' := by
  unfold eqP4
  simp only [Bool.and_eq_true, beq_iff_eq, ByteArray.toList_eq]
  exact ⟨fun ⟨h1, h2, h3, h4⟩ => ⟨h1, h2, h3, data_inj h4⟩, fun ⟨h1, h2, h3, h4⟩ => ⟨h1, h2, h3, by rw [h4]⟩⟩
theorem eq_pages (a0 a1 a2 : Int) (a3 : ByteArray) (b0 b1 b2 : Int) (b3 : ByteArray) (w : World) : (binOp .eql 23 (.agg #[.int .i64 a0, .int .i64 a1, .int .i64 a2, .string a3]) (.agg #[.int .i64 b0, .int .i64 b1, .int .i64 b2, .string b3])).run Tryz.prog w = .ok (.bool (eqP4 a0 a1 a2 a3 b0 b1 b2 b3)) w := by
  have u3 := Tryz.underlying3
  have a3' := Tryz.isAgg3
  have z3' := Tryz.sizeOf3
  have u9 := Tryz.underlying9
  have a9 := Tryz.isAgg9
  have z9 := Tryz.sizeOf9
  have hS : Tryz.prog.underlying 23 = some (.struct (Tryz.prog.fieldsOf 23)) := by kernel_rfl
  have hp : Tryz.prog.stoodInHeld 23 = false := by kernel_rfl
  rw [run_eql_struct, show (10000 : Nat) = 9999 + 1 from rfl, run_equalIn_agg w 9999 23 _ _ hS hp]
  simp only [Program.fieldsOf, Tryz.underlying23]
  unfold eqP4
  go_simp
  by_cases g0 : a0 = b0 <;> by_cases g1 : a1 = b1 <;> by_cases g2 : a2 = b2 <;> by_cases g3 : a3.toList = b3.toList <;> simp [g0, g1, g2, g3]
set_option maxHeartbeats 1000000 in
theorem empty_any (k d x : Int) (w : World) : Calls Tryz.prog 20 #[.int .i64 k, .int .i64 d, .int .i64 x] w fun e w' => e = .returned (pv k d x (str (zs 240))) ∧ Below w.heap.size w w' := by
  have ZE := Lib.hid (fun w => zeros_ok 240 (by omega) w)
  rw [show ((240 : Nat) : Int) = 240 from rfl] at ZE
  generalize str (zs 240) = s at *
  unfold pv
  have HX := Lib.hid (PBox.new w 0 0 0 ⟨#[]⟩)
  have HA := Lib.hid ((Below.refl w.heap.size w).alloc (Nat.le_refl _) (.cells #[.int .i64 0, .int .i64 0, .int .i64 0, .string ⟨#[]⟩] 23))
  go_enter Tryz.func20, Tryz.ntmps20
  go_wp2_with fail
  obtain ⟨B, hB⟩ : ∃ B, B = w.heap.size := ⟨_, rfl⟩
  have HBE := Lib.hid (show w.heap.size ≤ B by omega)
  rw [← hB] at HX ⊢
  clear hB
  generalize w.alloc (.cells #[.int .i64 0, .int .i64 0, .int .i64 0, .string ⟨#[]⟩] 23) = W at *
  refine (ZE.out _).mono ?_; rintro e w1 ⟨rfl, hb⟩
  have HX1 := Lib.hid (HX.out.kept hb)
  have HB1 := Lib.hid (HA.out.trans (hb.mono HA.out.size))
  clear hb HX HA
  obtain ⟨⟨r0, r1, r2, r3⟩, f0, f1, f2, f3⟩ := And.intro HX1.out.cells HX1.out.free
  go_wp2_with fail
  refine bodyPost_ret (v := .agg #[.int .i64 k, .int .i64 d, .int .i64 x, .string s]) (by simp [results, Tryz.results20, go_sem, r0, r1, r2, r3]) rfl ⟨rfl, ?_⟩
  exact below_set4 HB1.out HBE.out
def kC : Ce := ⟨⟨#[107]⟩, ⟨#[118]⟩, 0, 0⟩
theorem set_k : setP ⟨3, 1, 5, zs 240⟩ kC = (⟨3, 1, 5, bodyOf [kC]⟩, 0) ∧ cutP ⟨3, 1, 5, bodyOf [kC]⟩ ⟨#[107]⟩ = (⟨3, 1, 5, zs 240⟩, 0) ∧ findS (cellsP 3 (bodyOf [kC])) ⟨#[107]⟩ = some kC ∧ roomP 3 (bodyOf [kC]) = 233 := by
  have h0 : putOk [] = true := putOk_nil
  have h1 : putOk [kC] = true := by decide +kernel
  obtain ⟨g0, c0⟩ := goodP_body (k := 3) rfl h0
  obtain ⟨g1, c1⟩ := goodP_body (k := 3) rfl h1
  rw [bodyOf_nil] at g0 c0
  have hs : setS [] kC = [kC] := rfl
  have hc : cutS [kC] ⟨#[107]⟩ = [] := by decide +kernel
  refine ⟨?_, ?_, ?_, ?_⟩
  · unfold setP
    dsimp only
    rw [g0, c0, hs, h1, show okC kC = true by decide +kernel]
    rfl
  · unfold cutP
    dsimp only
    rw [g1, c1, hc, bodyOf_nil]
    rfl
  · rw [c1]; exact find_is (x := kC) (putOk_rise h1) (List.mem_singleton.2 rfl)
  · unfold roomP; rw [g1, c1]; decide +kernel

set_option maxHeartbeats 4000000 in
theorem alive_yes (w : World) : Calls Tryz.prog 4 #[] w fun e w' => e = .returned (.bool true) ∧ Below w.heap.size w w' := by
  obtain ⟨q1, q2, q3, q4⟩ := set_k
  have EM := Lib.hid (fun w => empty_any 3 1 5 w)
  have SE := Lib.hid (fun w => set_any 3 1 5 (zs 240) kC (by rw [zs_length]; omega) w)
  have hl : (bodyOf [kC]).length ≤ 100000 := by rw [bodyOf_length (by decide +kernel)]; omega
  have FI := Lib.hid (fun w => find_any 3 1 5 (bodyOf [kC]) ⟨#[107]⟩ hl w)
  have RO := Lib.hid (fun w => room_any 3 1 5 (bodyOf [kC]) hl w)
  have CU := Lib.hid (fun w => cut_any 3 1 5 (bodyOf [kC]) ⟨#[107]⟩ hl w)
  rw [q1] at SE
  rw [q2] at CU
  rw [q3] at FI
  rw [q4] at RO
  change Hid (∀ w, Calls _ _ #[pv 3 1 5 (str (zs 240)), .agg #[.string ⟨#[107]⟩, .string ⟨#[118]⟩, .int .i64 0, .int .i64 0]] w (fun e w' => e = .returned (.tuple #[pv 3 1 5 (str (bodyOf [kC])), .int .i64 0]) ∧ _)) at SE
  change Hid (∀ w, Calls _ _ _ w (fun e w' => e = .returned (.tuple #[pv 3 1 5 (str (zs 240)), .int .i64 0]) ∧ _)) at CU
  change Hid (∀ w, Calls _ _ _ w (fun e w' => e = .returned (.tuple #[.agg #[.string ⟨#[107]⟩, .string ⟨#[118]⟩, .int .i64 0, .int .i64 0], .bool true]) ∧ _)) at FI
  have EQ := fun w => eq_pages 3 1 5 (str (zs 240)) 3 1 5 (str (zs 240)) w
  rw [show eqP4 3 1 5 (str (zs 240)) 3 1 5 (str (zs 240)) = true from eqP4_iff.2 ⟨rfl, rfl, rfl, rfl⟩] at EQ
  have HEQ := Lib.hid EQ
  unfold pv at *
  generalize str (zs 240) = X0 at *
  generalize str (bodyOf [kC]) = X1 at *
  clear q1 q2 q3 q4 hl EQ
  obtain ⟨W1, hW1⟩ : ∃ W1, W1 = w.alloc (.cells #[.int .i64 0, .int .i64 0, .int .i64 0, .string ⟨#[]⟩] 23) := ⟨_, rfl⟩
  go_enter Tryz.func4, Tryz.ntmps4
  go_wp2_with fail
  refine (EM.out _).mono ?_; rintro e w1 ⟨rfl, hb⟩
  have HB1 := Lib.hid hb
  clear hb
  go_wp2_with fail
  refine (SE.out _).mono ?_; rintro e w2 ⟨rfl, hb⟩
  have HB2 := Lib.hid (HB1.out.trans (hb.mono HB1.out.size))
  clear hb HB1
  go_wp2_with fail
  have HP := Lib.hid (PBox.new w2 3 1 5 X1)
  have HB3 := Lib.hid (HB2.out.alloc HB2.out.size (.cells #[.int .i64 3, .int .i64 1, .int .i64 5, .string X1] 23))
  obtain ⟨Bp, hBp⟩ : ∃ B, B = w2.heap.size := ⟨_, rfl⟩
  rw [← hBp] at HP ⊢
  clear hBp HB2
  generalize w2.alloc (.cells #[.int .i64 3, .int .i64 1, .int .i64 5, .string X1] 23) = V2 at *
  refine (FI.out _).mono ?_; rintro e w3 ⟨rfl, hb⟩
  have HP3 := Lib.hid (HP.out.kept hb)
  have HB4 := Lib.hid (HB3.out.trans (hb.mono HB3.out.size))
  clear hb HP HB3
  have hal := (Below.refl w3.heap.size w3).alloc (Nat.le_refl _) (.cells #[.string ⟨#[107]⟩, .string ⟨#[118]⟩, .int .i64 0, .int .i64 0] 42)
  obtain ⟨p0, p1, p2, p3⟩ := (HP3.out.kept hal).cells
  go_wp2_with fail
  clear p0 p1 p2 p3
  have HC := Lib.hid (Box.new w3 (.string ⟨#[107]⟩) (.string ⟨#[118]⟩) (.int .i64 0) (.int .i64 0))
  have HP4 := Lib.hid (HP3.out.kept hal)
  have HB5 := Lib.hid (HB4.out.trans (hal.mono HB4.out.size))
  obtain ⟨Bc, hBc⟩ : ∃ B, B = w3.heap.size := ⟨_, rfl⟩
  rw [← hBc] at HC ⊢
  clear hBc HB4 HP3 hal
  generalize w3.alloc (.cells #[.string ⟨#[107]⟩, .string ⟨#[118]⟩, .int .i64 0, .int .i64 0] 42) = V3 at *
  refine (CU.out _).mono ?_; rintro e w4 ⟨rfl, hb⟩
  have HP5 := Lib.hid (HP4.out.kept hb)
  have HC5 := Lib.hid (HC.out.kept hb)
  have HB6 := Lib.hid (HB5.out.trans (hb.mono HB5.out.size))
  clear hb HP4 HC HB5
  go_upto_region 4 with fail
  have HD := Lib.hid (PBox.new w4 3 1 5 X0)
  have hal := (Below.refl w4.heap.size w4).alloc (Nat.le_refl _) (.cells #[.int .i64 3, .int .i64 1, .int .i64 5, .string X0] 23)
  have HP6 := Lib.hid (HP5.out.kept hal)
  have HC6 := Lib.hid (HC5.out.kept hal)
  have HB7 := Lib.hid (HB6.out.trans (hal.mono HB6.out.size))
  obtain ⟨Bd, hBd⟩ : ∃ B, B = w4.heap.size := ⟨_, rfl⟩
  rw [← hBd] at HD ⊢
  clear hBd HB6 HP5 HC5 hal
  generalize w4.alloc (.cells #[.int .i64 3, .int .i64 1, .int .i64 5, .string X0] 23) = V at *
  have A0 := fun r (h : Held V r) => h.cell HP6.out.cells.1
  have A1 := fun r (h : Held V r) => h.cell HP6.out.cells.2.1
  have A2 := fun r (h : Held V r) => h.cell HP6.out.cells.2.2.1
  have A3 := fun r (h : Held V r) => h.cell HP6.out.cells.2.2.2
  have C1 := fun r (h : Held V r) => h.cell HC6.out.cells.2.1
  have D0 := fun r (h : Held V r) => h.cell HD.out.cells.1
  have D1 := fun r (h : Held V r) => h.cell HD.out.cells.2.1
  have D2 := fun r (h : Held V r) => h.cell HD.out.cells.2.2.1
  have D3 := fun r (h : Held V r) => h.cell HD.out.cells.2.2.2
  have e1 := HEQ.out
  refine wp_region_noPanic ?_
  refine wp_region_held_drew (S := Held V) (by kernel_rfl) ?_ (fun hHeld => ?_)
  · exact Held.start _
  refine wpAnyH_take (i := 0) (oi := { dst := some 23, op := Op.move (Operand.tmp 2), type := 45, pos := "law.go:27", after := #[], guard := none }) (v := .int .i64 0) rfl (by kernel_rfl) (by kernel_rfl) (by kernel_rfl) (fun _ _ _ h => h) (Or.inl ⟨by rfl, fun w' hSw => by ((try dsimp only at hSw); go_simp)⟩) (by assumption) ?_
  (try simp only [Act.put, List.setIfInBounds_toArray, List.set_cons_zero, List.set_cons_succ])
  refine wpAnyH_take (i := 1) (oi := { dst := some 24, op := Op.binOp BinOp.eql 45 (Operand.tmp 23) (Operand.const (Value.int IntKind.i64 0)) 45, type := 4, pos := "law.go:27", after := #[{ on := 0, ground := Ground.data }], guard := none }) (v := .bool true) rfl (by kernel_rfl) (by kernel_rfl) (by kernel_rfl) (fun _ _ _ h => h) (Or.inl ⟨by rfl, fun w' hSw => by ((try dsimp only at hSw); go_simp)⟩) (by assumption) ?_
  (try simp only [Act.put, List.setIfInBounds_toArray, List.set_cons_zero, List.set_cons_succ])
  refine wpAnyH_take (i := 2) (oi := { dst := some 25, op := Op.move (Operand.tmp 24), type := 4, pos := "law.go:27", after := #[{ on := 1, ground := Ground.data }], guard := none }) (v := .bool true) rfl (by kernel_rfl) (by kernel_rfl) (by kernel_rfl) (fun _ _ _ h => h) (Or.inl ⟨by rfl, fun w' hSw => by ((try dsimp only at hSw); go_simp)⟩) (by assumption) ?_
  (try simp only [Act.put, List.setIfInBounds_toArray, List.set_cons_zero, List.set_cons_succ])
  refine wpAnyH_take (i := 3) (oi := { dst := some 26, op := Op.move (Operand.tmp 4), type := 4, pos := "law.go:27", after := #[{ on := 2, ground := Ground.guard }], guard := some (2, true) }) (v := .bool true) rfl (by kernel_rfl) (by kernel_rfl) (by kernel_rfl) (fun _ _ _ h => h) (Or.inl ⟨by rfl, fun w' hSw => by ((try dsimp only at hSw); go_simp)⟩) (by assumption) ?_
  (try simp only [Act.put, List.setIfInBounds_toArray, List.set_cons_zero, List.set_cons_succ])
  refine wpAnyH_take (i := 4) (oi := { dst := some 27, op := Op.pick (Operand.tmp 25) (Operand.tmp 26) (Operand.const (Value.bool false)), type := 4, pos := "law.go:27", after := #[{ on := 2, ground := Ground.data }, { on := 3, ground := Ground.data }], guard := none }) (v := .bool true) rfl (by kernel_rfl) (by kernel_rfl) (by kernel_rfl) (fun _ _ _ h => h) (Or.inl ⟨by rfl, fun w' hSw => by ((try dsimp only at hSw); go_simp)⟩) (by assumption) ?_
  (try simp only [Act.put, List.setIfInBounds_toArray, List.set_cons_zero, List.set_cons_succ])
  refine wpAnyH_take (i := 5) (oi := { dst := some 28, op := Op.move (Operand.tmp 27), type := 4, pos := "law.go:27", after := #[{ on := 4, ground := Ground.data }, { on := 2, ground := Ground.chain }], guard := none }) (v := .bool true) rfl (by kernel_rfl) (by kernel_rfl) (by kernel_rfl) (fun _ _ _ h => h) (Or.inl ⟨by rfl, fun w' hSw => by ((try dsimp only at hSw); go_simp)⟩) (by assumption) ?_
  (try simp only [Act.put, List.setIfInBounds_toArray, List.set_cons_zero, List.set_cons_succ])
  refine wpAnyH_take (i := 6) (oi := { dst := some 29, op := Op.fieldAddr 42 (Operand.tmp 3) 1, type := 0, pos := "law.go:27", after := #[{ on := 5, ground := Ground.guard }], guard := some (5, true) }) (v := .pointer (some ⟨Bc, 1, none⟩)) rfl (by kernel_rfl) (by kernel_rfl) (by kernel_rfl) (fun _ _ _ h => h) (Or.inl ⟨by rfl, fun w' hSw => by ((try dsimp only at hSw); go_simp)⟩) (by assumption) ?_
  (try simp only [Act.put, List.setIfInBounds_toArray, List.set_cons_zero, List.set_cons_succ])
  refine wpAnyH_take (i := 7) (oi := { dst := some 30, op := Op.load 9 (Operand.tmp 29), type := 9, pos := "law.go:27", after := #[{ on := 6, ground := Ground.data }, { on := 5, ground := Ground.guard }], guard := some (5, true) }) (v := .string ⟨#[118]⟩) rfl (by kernel_rfl) (by kernel_rfl) (by kernel_rfl) (fun _ _ _ h => h) (Or.inl ⟨by rfl, fun w' hSw => by ((try dsimp only at hSw); have := C1 _ hSw; go_simp)⟩) (by assumption) ?_
  (try simp only [Act.put, List.setIfInBounds_toArray, List.set_cons_zero, List.set_cons_succ])
  refine wpAnyH_take (i := 8) (oi := { dst := some 31, op := Op.binOp BinOp.eql 9 (Operand.tmp 30) (Operand.const (Value.string { data := #[118] })) 9, type := 4, pos := "law.go:27", after := #[{ on := 7, ground := Ground.data }, { on := 5, ground := Ground.guard }], guard := some (5, true) }) (v := .bool true) rfl (by kernel_rfl) (by kernel_rfl) (by kernel_rfl) (fun _ _ _ h => h) (Or.inl ⟨by rfl, fun w' hSw => by ((try dsimp only at hSw); go_simp)⟩) (by assumption) ?_
  (try simp only [Act.put, List.setIfInBounds_toArray, List.set_cons_zero, List.set_cons_succ])
  refine wpAnyH_take (i := 9) (oi := { dst := some 32, op := Op.pick (Operand.tmp 28) (Operand.tmp 31) (Operand.const (Value.bool false)), type := 4, pos := "law.go:27", after := #[{ on := 5, ground := Ground.data }, { on := 8, ground := Ground.data }], guard := none }) (v := .bool true) rfl (by kernel_rfl) (by kernel_rfl) (by kernel_rfl) (fun _ _ _ h => h) (Or.inl ⟨by rfl, fun w' hSw => by ((try dsimp only at hSw); go_simp)⟩) (by assumption) ?_
  (try simp only [Act.put, List.setIfInBounds_toArray, List.set_cons_zero, List.set_cons_succ])
  refine wpAnyH_take (i := 10) (oi := { dst := some 33, op := Op.move (Operand.tmp 32), type := 4, pos := "law.go:27", after := #[{ on := 9, ground := Ground.data }, { on := 5, ground := Ground.chain }], guard := none }) (v := .bool true) rfl (by kernel_rfl) (by kernel_rfl) (by kernel_rfl) (fun _ _ _ h => h) (Or.inl ⟨by rfl, fun w' hSw => by ((try dsimp only at hSw); go_simp)⟩) (by assumption) ?_
  (try simp only [Act.put, List.setIfInBounds_toArray, List.set_cons_zero, List.set_cons_succ])
  refine wpAnyH_take (i := 11) (oi := { dst := some 34, op := Op.load 23 (Operand.tmp 1), type := 23, pos := "law.go:27", after := #[{ on := 10, ground := Ground.guard }], guard := some (10, true) }) (v := .agg #[.int .i64 3, .int .i64 1, .int .i64 5, .string X1]) rfl (by kernel_rfl) (by kernel_rfl) (by kernel_rfl) (fun _ _ _ h => h) (Or.inl ⟨by rfl, fun w' hSw => by ((try dsimp only at hSw); have := A0 _ hSw; have := A1 _ hSw; have := A2 _ hSw; have := A3 _ hSw; go_simp)⟩) (by assumption) ?_
  (try simp only [Act.put, List.setIfInBounds_toArray, List.set_cons_zero, List.set_cons_succ])
  refine wpAnyH_ready (rs := [12]) (by kernel_rfl) (by simp) ?_
  refine AllReadyH.cons (o := { dst := some 35, op := Op.call { callee := Callee.value (Operand.func 18), args := #[Operand.tmp 34], argTypes := #[23] }, type := 3, pos := "law.go:27", after := #[{ on := 11, ground := Ground.data }, { on := 10, ground := Ground.chain }, { on := 10, ground := Ground.guard }], guard := some (10, true) }) rfl (fun K hK => ?_) ?_
  · go_simp; go_at_call 18; refine (RO.out _).mono ?_; rintro e u1 ⟨rfl, hbu1⟩
    refine hK.out _ _ ?_ (fun hHeld => ?_)
    · exact Held.step (by assumption) hbu1
    clear hK K
    (try simp only [Act.put, List.setIfInBounds_toArray, List.set_cons_zero, List.set_cons_succ])
    refine wpAnyH_take (i := 13) (oi := { dst := some 36, op := Op.binOp BinOp.eql 3 (Operand.tmp 35) (Operand.const (Value.int IntKind.i64 233)) 3, type := 4, pos := "law.go:27", after := #[{ on := 12, ground := Ground.data }, { on := 10, ground := Ground.guard }], guard := some (10, true) }) (v := .bool true) rfl (by kernel_rfl) (by kernel_rfl) (by kernel_rfl) (fun _ _ _ h => h) (Or.inl ⟨by rfl, fun w' hSw => by ((try dsimp only at hSw); go_simp)⟩) (by assumption) ?_
    (try simp only [Act.put, List.setIfInBounds_toArray, List.set_cons_zero, List.set_cons_succ])
    refine wpAnyH_take (i := 14) (oi := { dst := some 37, op := Op.pick (Operand.tmp 33) (Operand.tmp 36) (Operand.const (Value.bool false)), type := 4, pos := "law.go:27", after := #[{ on := 10, ground := Ground.data }, { on := 13, ground := Ground.data }], guard := none }) (v := .bool true) rfl (by kernel_rfl) (by kernel_rfl) (by kernel_rfl) (fun _ _ _ h => h) (Or.inl ⟨by rfl, fun w' hSw => by ((try dsimp only at hSw); go_simp)⟩) (by assumption) ?_
    (try simp only [Act.put, List.setIfInBounds_toArray, List.set_cons_zero, List.set_cons_succ])
    refine wpAnyH_take (i := 15) (oi := { dst := some 38, op := Op.move (Operand.tmp 37), type := 4, pos := "law.go:27", after := #[{ on := 14, ground := Ground.data }, { on := 12, ground := Ground.chain }], guard := none }) (v := .bool true) rfl (by kernel_rfl) (by kernel_rfl) (by kernel_rfl) (fun _ _ _ h => h) (Or.inl ⟨by rfl, fun w' hSw => by ((try dsimp only at hSw); go_simp)⟩) (by assumption) ?_
    (try simp only [Act.put, List.setIfInBounds_toArray, List.set_cons_zero, List.set_cons_succ])
    refine wpAnyH_take (i := 16) (oi := { dst := some 39, op := Op.fieldAddr 23 (Operand.tmp 1) 2, type := 0, pos := "law.go:27", after := #[{ on := 15, ground := Ground.guard }], guard := some (15, true) }) (v := .pointer (some ⟨Bp, 2, none⟩)) rfl (by kernel_rfl) (by kernel_rfl) (by kernel_rfl) (fun _ _ _ h => h) (Or.inl ⟨by rfl, fun w' hSw => by ((try dsimp only at hSw); go_simp)⟩) (by assumption) ?_
    (try simp only [Act.put, List.setIfInBounds_toArray, List.set_cons_zero, List.set_cons_succ])
    refine wpAnyH_take (i := 17) (oi := { dst := some 40, op := Op.load 3 (Operand.tmp 39), type := 3, pos := "law.go:27", after := #[{ on := 16, ground := Ground.data }, { on := 15, ground := Ground.guard }], guard := some (15, true) }) (v := .int .i64 5) rfl (by kernel_rfl) (by kernel_rfl) (by kernel_rfl) (fun _ _ _ h => h) (Or.inl ⟨by rfl, fun w' hSw => by ((try dsimp only at hSw); have := A2 _ hSw; go_simp)⟩) (by assumption) ?_
    (try simp only [Act.put, List.setIfInBounds_toArray, List.set_cons_zero, List.set_cons_succ])
    refine wpAnyH_take (i := 18) (oi := { dst := some 41, op := Op.binOp BinOp.eql 3 (Operand.tmp 40) (Operand.const (Value.int IntKind.i64 5)) 3, type := 4, pos := "law.go:27", after := #[{ on := 17, ground := Ground.data }, { on := 15, ground := Ground.guard }], guard := some (15, true) }) (v := .bool true) rfl (by kernel_rfl) (by kernel_rfl) (by kernel_rfl) (fun _ _ _ h => h) (Or.inl ⟨by rfl, fun w' hSw => by ((try dsimp only at hSw); go_simp)⟩) (by assumption) ?_
    (try simp only [Act.put, List.setIfInBounds_toArray, List.set_cons_zero, List.set_cons_succ])
    refine wpAnyH_take (i := 19) (oi := { dst := some 42, op := Op.pick (Operand.tmp 38) (Operand.tmp 41) (Operand.const (Value.bool false)), type := 4, pos := "law.go:27", after := #[{ on := 15, ground := Ground.data }, { on := 18, ground := Ground.data }], guard := none }) (v := .bool true) rfl (by kernel_rfl) (by kernel_rfl) (by kernel_rfl) (fun _ _ _ h => h) (Or.inl ⟨by rfl, fun w' hSw => by ((try dsimp only at hSw); go_simp)⟩) (by assumption) ?_
    (try simp only [Act.put, List.setIfInBounds_toArray, List.set_cons_zero, List.set_cons_succ])
    refine wpAnyH_take (i := 20) (oi := { dst := some 43, op := Op.move (Operand.tmp 42), type := 4, pos := "law.go:27", after := #[{ on := 19, ground := Ground.data }, { on := 15, ground := Ground.chain }], guard := none }) (v := .bool true) rfl (by kernel_rfl) (by kernel_rfl) (by kernel_rfl) (fun _ _ _ h => h) (Or.inl ⟨by rfl, fun w' hSw => by ((try dsimp only at hSw); go_simp)⟩) (by assumption) ?_
    (try simp only [Act.put, List.setIfInBounds_toArray, List.set_cons_zero, List.set_cons_succ])
    refine wpAnyH_take (i := 21) (oi := { dst := some 44, op := Op.move (Operand.tmp 6), type := 45, pos := "law.go:27", after := #[{ on := 20, ground := Ground.guard }], guard := some (20, true) }) (v := .int .i64 0) rfl (by kernel_rfl) (by kernel_rfl) (by kernel_rfl) (fun _ _ _ h => h) (Or.inl ⟨by rfl, fun w' hSw => by ((try dsimp only at hSw); go_simp)⟩) (by assumption) ?_
    (try simp only [Act.put, List.setIfInBounds_toArray, List.set_cons_zero, List.set_cons_succ])
    refine wpAnyH_take (i := 22) (oi := { dst := some 45, op := Op.binOp BinOp.eql 45 (Operand.tmp 44) (Operand.const (Value.int IntKind.i64 0)) 45, type := 4, pos := "law.go:27", after := #[{ on := 21, ground := Ground.data }, { on := 20, ground := Ground.guard }], guard := some (20, true) }) (v := .bool true) rfl (by kernel_rfl) (by kernel_rfl) (by kernel_rfl) (fun _ _ _ h => h) (Or.inl ⟨by rfl, fun w' hSw => by ((try dsimp only at hSw); go_simp)⟩) (by assumption) ?_
    (try simp only [Act.put, List.setIfInBounds_toArray, List.set_cons_zero, List.set_cons_succ])
    refine wpAnyH_take (i := 23) (oi := { dst := some 46, op := Op.pick (Operand.tmp 43) (Operand.tmp 45) (Operand.const (Value.bool false)), type := 4, pos := "law.go:27", after := #[{ on := 20, ground := Ground.data }, { on := 22, ground := Ground.data }], guard := none }) (v := .bool true) rfl (by kernel_rfl) (by kernel_rfl) (by kernel_rfl) (fun _ _ _ h => h) (Or.inl ⟨by rfl, fun w' hSw => by ((try dsimp only at hSw); go_simp)⟩) (by assumption) ?_
    (try simp only [Act.put, List.setIfInBounds_toArray, List.set_cons_zero, List.set_cons_succ])
    refine wpAnyH_take (i := 24) (oi := { dst := some 47, op := Op.move (Operand.tmp 46), type := 4, pos := "law.go:27", after := #[{ on := 23, ground := Ground.data }, { on := 20, ground := Ground.chain }], guard := none }) (v := .bool true) rfl (by kernel_rfl) (by kernel_rfl) (by kernel_rfl) (fun _ _ _ h => h) (Or.inl ⟨by rfl, fun w' hSw => by ((try dsimp only at hSw); go_simp)⟩) (by assumption) ?_
    (try simp only [Act.put, List.setIfInBounds_toArray, List.set_cons_zero, List.set_cons_succ])
    refine wpAnyH_take (i := 25) (oi := { dst := some 48, op := Op.load 23 (Operand.tmp 5), type := 23, pos := "law.go:27", after := #[{ on := 24, ground := Ground.guard }], guard := some (24, true) }) (v := .agg #[.int .i64 3, .int .i64 1, .int .i64 5, .string X0]) rfl (by kernel_rfl) (by kernel_rfl) (by kernel_rfl) (fun _ _ _ h => h) (Or.inl ⟨by rfl, fun w' hSw => by ((try dsimp only at hSw); have := D0 _ hSw; have := D1 _ hSw; have := D2 _ hSw; have := D3 _ hSw; go_simp)⟩) (by assumption) ?_
    (try simp only [Act.put, List.setIfInBounds_toArray, List.set_cons_zero, List.set_cons_succ])
    refine wpAnyH_ready (rs := [26]) (by kernel_rfl) (by simp) ?_
    refine AllReadyH.cons (o := { dst := some 49, op := Op.call { callee := Callee.value (Operand.func 20), args := #[Operand.const (Value.int IntKind.i64 3), Operand.const (Value.int IntKind.i64 1), Operand.const (Value.int IntKind.i64 5)], argTypes := #[3, 3, 3] }, type := 23, pos := "law.go:27", after := #[{ on := 24, ground := Ground.chain }, { on := 24, ground := Ground.guard }], guard := some (24, true) }) rfl (fun K hK => ?_) ?_
    · go_simp; go_at_call 20; refine (EM.out _).mono ?_; rintro e u2 ⟨rfl, hbu2⟩
      refine hK.out _ _ ?_ (fun hHeld => ?_)
      · exact Held.step (by assumption) hbu2
      clear hK K
      (try simp only [Act.put, List.setIfInBounds_toArray, List.set_cons_zero, List.set_cons_succ])
      refine wpAnyH_take (i := 27) (oi := { dst := some 50, op := Op.binOp BinOp.eql 23 (Operand.tmp 48) (Operand.tmp 49) 23, type := 4, pos := "law.go:27", after := #[{ on := 25, ground := Ground.data }, { on := 26, ground := Ground.data }, { on := 24, ground := Ground.guard }], guard := some (24, true) }) (v := .bool true) rfl (by kernel_rfl) (by kernel_rfl) (by kernel_rfl) (fun _ _ _ h => h) (Or.inl ⟨by rfl, fun w' hSw => by ((try dsimp only at hSw); have := e1; go_simp)⟩) (by assumption) ?_
      (try simp only [Act.put, List.setIfInBounds_toArray, List.set_cons_zero, List.set_cons_succ])
      refine wpAnyH_take (i := 28) (oi := { dst := some 51, op := Op.pick (Operand.tmp 47) (Operand.tmp 50) (Operand.const (Value.bool false)), type := 4, pos := "law.go:27", after := #[{ on := 24, ground := Ground.data }, { on := 27, ground := Ground.data }], guard := none }) (v := .bool true) rfl (by kernel_rfl) (by kernel_rfl) (by kernel_rfl) (fun _ _ _ h => h) (Or.inl ⟨by rfl, fun w' hSw => by ((try dsimp only at hSw); go_simp)⟩) (by assumption) ?_
      (try simp only [Act.put, List.setIfInBounds_toArray, List.set_cons_zero, List.set_cons_succ])
      refine wpAnyH_take (i := 29) (oi := { dst := some 0, op := Op.assign (Operand.tmp 51), type := 4, pos := "law.go:27", after := #[{ on := 28, ground := Ground.data }, { on := 26, ground := Ground.chain }, { on := 0, ground := Ground.phase }, { on := 1, ground := Ground.phase }, { on := 2, ground := Ground.phase }, { on := 3, ground := Ground.phase }, { on := 4, ground := Ground.phase }, { on := 5, ground := Ground.phase }, { on := 6, ground := Ground.phase }, { on := 7, ground := Ground.phase }, { on := 8, ground := Ground.phase }, { on := 9, ground := Ground.phase }, { on := 10, ground := Ground.phase }, { on := 11, ground := Ground.phase }, { on := 12, ground := Ground.phase }, { on := 13, ground := Ground.phase }, { on := 14, ground := Ground.phase }, { on := 15, ground := Ground.phase }, { on := 16, ground := Ground.phase }, { on := 17, ground := Ground.phase }, { on := 18, ground := Ground.phase }, { on := 19, ground := Ground.phase }, { on := 20, ground := Ground.phase }, { on := 21, ground := Ground.phase }, { on := 22, ground := Ground.phase }, { on := 23, ground := Ground.phase }, { on := 24, ground := Ground.phase }, { on := 25, ground := Ground.phase }, { on := 26, ground := Ground.phase }, { on := 27, ground := Ground.phase }, { on := 28, ground := Ground.phase }], guard := none }) (v := .bool true) rfl (by kernel_rfl) (by kernel_rfl) (by kernel_rfl) (fun _ _ _ h => h) (Or.inl ⟨by rfl, fun w' hSw => by ((try dsimp only at hSw); go_simp)⟩) (by assumption) ?_
      (try simp only [Act.put, List.setIfInBounds_toArray, List.set_cons_zero, List.set_cons_succ])
      refine wpAnyH_done (by kernel_rfl) ?_ _
      refine NoPanic.normal ?_
      have HF := Lib.hid (HB7.out.trans (Below.mono hHeld HB7.out.size))
      go_wp2_with fail
      go_ret
      exact ⟨rfl, HF.out⟩
    exact AllReadyH.nil
  exact AllReadyH.nil
end Go.Proofs.YtljegjcajlkgiaaGreat
