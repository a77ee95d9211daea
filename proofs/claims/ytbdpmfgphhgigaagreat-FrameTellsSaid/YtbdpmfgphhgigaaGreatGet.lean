/- The contract of Get. -/
import Derived.Test.YtbdpmfgphhgigaaGreatPut
import Derived.Deep.RegionLaw
import Derived.Deep.DeepCutAuto
import Derived.Deep.CutBlock
namespace Go.Proofs.YtbdpmfgphhgigaaGreat
open Go.ChangeShapes Go.WideShapes Go.ChangeAt Go.RowKit
set_option linter.unusedVariables false
set_option linter.unusedSimpArgs false
set_option maxRecDepth 100000
def GetP (b : BA) (w : World) (e : Ending) (w' : World) : Prop := e = .returned (.tuple #[sv (gotX b), .bool (getOkX b)]) ∧ Below w.heap.size w w'
theorem GetP.no {b : BA} {w w' : World} (h : getOkX b = false) (hb : Below w.heap.size w w') : GetP b w (.returned (.tuple #[.agg #[.int .i64 0, .int .i64 0, .bool false, .string ⟨#[]⟩], .bool false])) w' := by
  unfold GetP gotX
  rw [h]
  exact ⟨rfl, hb⟩
theorem GetP.yes {b : BA} {w w' : World} (h : getOkX b = true) (hb : Below w.heap.size w w') : GetP b w (.returned (.tuple #[sv (readX b), .bool true])) w' := by
  unfold GetP gotX
  rw [h]
  exact ⟨rfl, hb⟩
theorem below_four {w w' : World} {B b : Nat} (h : Below B w w') (hB : B ≤ b) (v0 v1 v2 v3 : Value) : Below B w ((((w'.setCell ⟨b, 0, none⟩ v0).setCell ⟨b, 1, none⟩ v1).setCell ⟨b, 2, none⟩ v2).setCell ⟨b, 3, none⟩ v3) :=
  (((h.setCell hB _).setCell hB _).setCell hB _).setCell hB _
theorem Bx.set {w : World} {B : Nat} {cs : Array Value} {t : TypeId} (h : Bx w B cs t) (i : Nat) (v : Value) : Bx (w.setCell ⟨B, i, none⟩ v) B (cs.setIfInBounds i v) t := heap_setCell_same w B i cs t v h
theorem Bx.set4 {w : World} {B : Nat} {a b c d : Value} {t : TypeId} (h : Bx w B #[a, b, c, d] t) (v0 v1 v2 v3 : Value) : Bx ((((w.setCell ⟨B, 0, none⟩ v0).setCell ⟨B, 1, none⟩ v1).setCell ⟨B, 2, none⟩ v2).setCell ⟨B, 3, none⟩ v3) B #[v0, v1, v2, v3] t := (((h.set 0 v0).set 1 v1).set 2 v2).set 3 v3
theorem Bx.other {w : World} {B C : Nat} {cs : Array Value} {t : TypeId} (h : Bx w B cs t) (hne : B ≠ C) (i : Nat) (v : Value) : Bx (w.setCell ⟨C, i, none⟩ v) B cs t := (Below.heap_setCell w ⟨C, i, none⟩ v B hne).trans h
theorem Bx.other4 {w : World} {B C : Nat} {cs : Array Value} {t : TypeId} (h : Bx w B cs t) (hne : B ≠ C) (v0 v1 v2 v3 : Value) : Bx ((((w.setCell ⟨C, 0, none⟩ v0).setCell ⟨C, 1, none⟩ v1).setCell ⟨C, 2, none⟩ v2).setCell ⟨C, 3, none⟩ v3) B cs t := (((h.other hne 0 v0).other hne 1 v1).other hne 2 v2).other hne 3 v3
theorem extract_str (x : ByteArray) (a b : Nat) : x.extract a b = str ((x.data.toList.drop a).take (b - a)) := by
  apply ByteArray.ext
  apply Array.toList_inj.1
  simp [str, ByteArray.data_extract, List.extract_eq_take_drop]
theorem run_ix (m : BA) (i : Nat) (hi : i < m.length) (w : World) : (Instr.index 9 (.string (str m)) (.int .i64 i)).run Tryz.prog w = .ok (.int .u8 ((m.getD i 0).toNat : Int)) w := by
  have hi' : (0 : Int) ≤ (i : Int) ∧ (i : Int) < ((str m).size : Nat) := ⟨by omega, by rw [str_size]; omega⟩
  rw [run_index_string (P := Tryz.prog) w 9 (str m) .i64 i Tryz.underlying9, dif_pos hi']
  simp [str, ByteArray.getElem_eq_getElem_data, List.getD, hi]
theorem get_len {b : BA} (h : b.length ≠ 64) : getOkX b = false := by
  unfold getOkX; rw [decide_eq_false h]; rfl
/-- The payload, cut. -/
theorem read_cut {b : BA} (h : b.length = 64) (m : Nat) (hm : m = min (b.getD 7 0).toNat 56) : readX b = ⟨num (b.take 4), num ((b.drop 4).take 2), decide (b.getD 6 0 = 2), (b.drop 8).take m⟩ := by
  unfold readX
  congr 1
  subst hm
  by_cases h1 : (b.getD 7 0).toNat ≤ 56
  · rw [Nat.min_eq_left h1]
  · rw [Nat.min_eq_right (by omega), List.take_of_length_le (by rw [List.length_drop]; omega), List.take_of_length_le (by rw [List.length_drop]; omega)]
theorem get_is {b : BA} : getOkX b = (okX (readX b) && decide (putX (readX b) = b)) := by
  cases h : getOkX b with
  | true =>
    obtain ⟨h1, h2⟩ := getOkX_iff.1 h
    rw [h1, putX_yes h1, decide_eq_true h2]; rfl
  | false =>
    cases h1 : okX (readX b) with
    | false => rfl
    | true =>
      rw [Bool.true_and, Eq.comm, decide_eq_false_iff_not]
      intro h2
      rw [putX_yes h1] at h2
      rw [getOkX_iff.2 ⟨h1, h2⟩] at h
      cases h
set_option maxHeartbeats 2000000 in
theorem get_any (b : BA) (hs : b.length ≤ maxLen) (w : World) : Calls Tryz.prog 8 #[.string (str b)] w fun e w' => GetP b w e w' := by
  unfold maxLen at hs
  by_cases hl : b.length = 64
  · have HOK := Lib.hid (get_is (b := b))
    have HNO := Lib.hid (fun w' (h : getOkX b = false) (hb : Below w.heap.size w w') => GetP.no h hb)
    have HYE := Lib.hid (fun w' (h : getOkX b = true) (hb : Below w.heap.size w w') => GetP.yes h hb)
    obtain ⟨m, hm⟩ : ∃ m, m = min (b.getD 7 0).toNat 56 := ⟨_, rfl⟩
    have hrd := read_cut hl m hm
    have i7 : ∀ w : World, (Instr.index 9 (.string (str b)) (.int .i64 7)).run Tryz.prog w = .ok (.int .u8 ((b.getD 7 0).toNat : Int)) w := fun w => run_ix b 7 (by omega) w
    have i6 : ∀ w : World, (Instr.index 9 (.string (str b)) (.int .i64 6)).run Tryz.prog w = .ok (.int .u8 ((b.getD 6 0).toNat : Int)) w := fun w => run_ix b 6 (by omega) w
    have hm56 : m ≤ 56 := by omega
    have hmin : min ((b.getD 7 0).toNat : Int) 56 = (m : Int) := by omega
    have s1 : ∀ w : World, (Instr.slice 9 (.string (str b)) none (some (.int .i64 4)) none).run Tryz.prog w = .ok (.string (str (b.take 4))) w := fun w => by
      rw [run_slice_string_h (P := Tryz.prog) w 9 (str b) Tryz.underlying9 .i64 4 (by omega) (by rw [str_size]; omega), extract_str]; rfl
    have s2 : ∀ w : World, (Instr.slice 9 (.string (str b)) (some (.int .i64 4)) (some (.int .i64 6)) none).run Tryz.prog w = .ok (.string (str ((b.drop 4).take 2))) w := fun w => by
      rw [run_slice_string w 9 (str b) .i64 .i64 4 6 Tryz.underlying9 (by omega) (by omega) (by rw [str_size]; omega), extract_str]; rfl
    have s3 : ∀ w : World, (Instr.slice 9 (.string (str b)) (some (.int .i64 8)) (some (.int .i64 (8 + (m : Int)))) none).run Tryz.prog w = .ok (.string (str ((b.drop 8).take m))) w := fun w => by
      rw [run_slice_string w 9 (str b) .i64 .i64 8 (8 + (m : Int)) Tryz.underlying9 (by omega) (by omega) (by rw [str_size]; omega), extract_str, show ((8 : Int)).toNat = 8 from rfl, show (8 + (m : Int)).toNat - 8 = m by omega]; rfl
    have hw8 : IntKind.i64.wrap (8 + (m : Int)) = 8 + (m : Int) := IntWalk.i64_in _ (by omega)
    have hwm : IntKind.i64.wrap ((b.getD 7 0).toNat : Int) = ((b.getD 7 0).toNat : Int) := IntWalk.i64_in _ (by have := (b.getD 7 0).toNat_lt; omega)
    have hfr : (((b.getD 6 0).toNat : Int) == 2) = decide (b.getD 6 0 = 2) := by
      by_cases h6 : b.getD 6 0 = 2
      · rw [h6]; rfl
      · rw [decide_eq_false h6, beq_eq_false_iff_ne]
        intro e
        apply h6
        apply UInt8.toNat_inj.1
        show (b.getD 6 0).toNat = 2
        omega
    have NU := Lib.hid (fun (x : BA) (hx : x.length ≤ 4) w => number_any x hx w)
    have NU1 := Lib.hid (fun w => number_any (b.take 4) (by simp; omega) w)
    have NU2 := Lib.hid (fun w => number_any ((b.drop 4).take 2) (by simp; omega) w)
    have CL := Lib.hid (fun w => clone_any (str ((b.drop 8).take m)) (by rw [str_size, List.length_take]; omega) w)
    have PU := Lib.hid (fun w => put_any (readX b) (by
      rw [hrd]
      have := num_lt (b.take 4) (by simp; omega)
      have h2 : 256 ^ (b.take 4).length ≤ 256 ^ 4 := Nat.pow_le_pow_right (by omega) (by simp; omega)
      have e : (256 : Nat) ^ 4 = 4294967296 := rfl
      unfold rng; dsimp only; omega) (by rw [hrd]; dsimp only; rw [List.length_take]; unfold maxLen; omega) w)
    have hb64 : (str b).size = 64 := hl
    obtain ⟨S, hS⟩ : ∃ S, S = readX b := ⟨_, rfl⟩
    rw [← hS] at PU HOK HYE hrd
    have e0 : S.ep = ((num (b.take 4) : Nat) : Int) := by rw [hrd]
    have e1 : S.ix = ((num ((b.drop 4).take 2) : Nat) : Int) := by rw [hrd]
    have e2 : S.fr = decide (b.getD 6 0 = 2) := by rw [hrd]
    have e3 : S.pl = (b.drop 8).take m := by rw [hrd]
    rw [← e3] at s3 CL
    rw [← e2] at hfr
    rw [← e0] at NU1
    rw [← e1] at NU2
    clear e0 e1 e2 e3 hrd NU hS hm
    have HX := Lib.hid (Bx.new w #[.int .i64 0, .int .i64 0, .bool false, .string ⟨#[]⟩] 23)
    have HB := Lib.hid ((Below.refl w.heap.size w).alloc (Nat.le_refl _) (.cells #[.int .i64 0, .int .i64 0, .bool false, .string ⟨#[]⟩] 23))
    obtain ⟨t1, ht1⟩ : ∃ t1, t1 = str (b.take 4) := ⟨_, rfl⟩
    obtain ⟨t2, ht2⟩ : ∃ t2, t2 = str ((b.drop 4).take 2) := ⟨_, rfl⟩
    obtain ⟨t3, ht3⟩ : ∃ t3, t3 = str S.pl := ⟨_, rfl⟩
    rw [← ht1] at s1 NU1
    rw [← ht2] at s2 NU2
    rw [← ht3] at s3 CL
    have HS := Lib.hid (show ∀ (V : World) (g : Nat), Bx V g #[.int .i64 S.ep, .int .i64 S.ix, .bool S.fr, .string t3] 23 → Sb V g S from fun V g h => by rw [ht3] at h; exact h)
    unfold PutP sv at PU
    rw [← ht3] at PU
    have HT3 := Lib.hid ht3
    clear ht1 ht2 ht3
    obtain ⟨B, hB⟩ : ∃ B, B = str b := ⟨_, rfl⟩
    rw [← hB] at s1 s2 s3 i6 i7 hb64 ⊢
    have HBB := Lib.hid hB
    clear hB
    generalize (b.getD 7 0).toNat = c7 at *
    generalize (b.getD 6 0).toNat = c6 at *
    go_enter Tryz.func8, Tryz.ntmps8
    go_wp2_with fail
    have HXX := HX
    have HBX := HB
    clear HX HB
    generalize hXX : w.alloc (Obj.cells #[Value.int IntKind.i64 0, Value.int IntKind.i64 0, Value.bool false, Value.string ⟨#[]⟩] 23) = X at *
    clear hXX
    go_cut [5] (fun s5 wx => ∃ g, s5 = .pointer (some ⟨g, 0, none⟩) ∧ Hid (Bx wx g #[.int .i64 S.ep, .int .i64 S.ix, .bool S.fr, .string t3] 23 ∧ Bx wx w.heap.size #[.int .i64 0, .int .i64 0, .bool false, .string ⟨#[]⟩] 23 ∧ Below w.heap.size w wx ∧ g ≠ w.heap.size))
    case first =>
      refine wp_region_noPanic ?_
      refine wp_region_held_drew (S := Held X) (by kernel_rfl) ?_ (fun hHeld => ?_)
      · exact Held.start _
      refine wpAnyH_take (i := 0) (oi := { dst := some 16, op := Op.move (Operand.tmp 0), type := 9, pos := "frame.go:47", after := #[], guard := none }) (v := .string B) rfl (by kernel_rfl) (by kernel_rfl) (by kernel_rfl) (fun _ _ _ h => h) (Or.inl ⟨by rfl, fun w' hSw => by ((try dsimp only at hSw); go_simp)⟩) (by assumption) ?_
      (try simp only [Act.put, List.setIfInBounds_toArray, List.set_cons_zero, List.set_cons_succ])
      refine wpAnyH_take (i := 1) (oi := { dst := some 17, op := Op.slice 9 (Operand.tmp 16) none (some (Operand.const (Value.int IntKind.i64 4))) none, type := 9, pos := "frame.go:47", after := #[{ on := 0, ground := Ground.data }], guard := none }) (v := .string t1) rfl (by kernel_rfl) (by kernel_rfl) (by kernel_rfl) (fun _ _ _ h => h) (Or.inl ⟨by rfl, fun w' hSw => by ((try dsimp only at hSw); have := s1 w'; go_simp)⟩) (by assumption) ?_
      (try simp only [Act.put, List.setIfInBounds_toArray, List.set_cons_zero, List.set_cons_succ])
      refine wpAnyH_take (i := 3) (oi := { dst := some 19, op := Op.move (Operand.tmp 0), type := 9, pos := "frame.go:47", after := #[], guard := none }) (v := .string B) rfl (by kernel_rfl) (by kernel_rfl) (by kernel_rfl) (fun _ _ _ h => h) (Or.inl ⟨by rfl, fun w' hSw => by ((try dsimp only at hSw); go_simp)⟩) (by assumption) ?_
      (try simp only [Act.put, List.setIfInBounds_toArray, List.set_cons_zero, List.set_cons_succ])
      refine wpAnyH_take (i := 4) (oi := { dst := some 20, op := Op.slice 9 (Operand.tmp 19) (some (Operand.const (Value.int IntKind.i64 4))) (some (Operand.const (Value.int IntKind.i64 6))) none, type := 9, pos := "frame.go:47", after := #[{ on := 3, ground := Ground.data }], guard := none }) (v := .string t2) rfl (by kernel_rfl) (by kernel_rfl) (by kernel_rfl) (fun _ _ _ h => h) (Or.inl ⟨by rfl, fun w' hSw => by ((try dsimp only at hSw); have := s2 w'; go_simp)⟩) (by assumption) ?_
      (try simp only [Act.put, List.setIfInBounds_toArray, List.set_cons_zero, List.set_cons_succ])
      refine wpAnyH_take (i := 6) (oi := { dst := some 22, op := Op.move (Operand.tmp 0), type := 9, pos := "frame.go:47", after := #[], guard := none }) (v := .string B) rfl (by kernel_rfl) (by kernel_rfl) (by kernel_rfl) (fun _ _ _ h => h) (Or.inl ⟨by rfl, fun w' hSw => by ((try dsimp only at hSw); go_simp)⟩) (by assumption) ?_
      (try simp only [Act.put, List.setIfInBounds_toArray, List.set_cons_zero, List.set_cons_succ])
      refine wpAnyH_take (i := 7) (oi := { dst := some 23, op := Op.index 9 (Operand.tmp 22) (Operand.const (Value.int IntKind.i64 6)), type := 5, pos := "frame.go:47", after := #[{ on := 6, ground := Ground.data }], guard := none }) (v := .int .u8 (c6 : Int)) rfl (by kernel_rfl) (by kernel_rfl) (by kernel_rfl) (fun _ _ _ h => h) (Or.inl ⟨by rfl, fun w' hSw => by ((try dsimp only at hSw); have := i6 w'; go_simp)⟩) (by assumption) ?_
      (try simp only [Act.put, List.setIfInBounds_toArray, List.set_cons_zero, List.set_cons_succ])
      refine wpAnyH_take (i := 8) (oi := { dst := some 24, op := Op.binOp BinOp.eql 5 (Operand.tmp 23) (Operand.const (Value.int IntKind.u8 2)) 5, type := 4, pos := "frame.go:47", after := #[{ on := 7, ground := Ground.data }], guard := none }) (v := .bool S.fr) rfl (by kernel_rfl) (by kernel_rfl) (by kernel_rfl) (fun _ _ _ h => h) (Or.inl ⟨by rfl, fun w' hSw => by ((try dsimp only at hSw); go_simp)⟩) (by assumption) ?_
      (try simp only [Act.put, List.setIfInBounds_toArray, List.set_cons_zero, List.set_cons_succ])
      refine wpAnyH_take (i := 9) (oi := { dst := some 25, op := Op.move (Operand.tmp 0), type := 9, pos := "frame.go:47", after := #[], guard := none }) (v := .string B) rfl (by kernel_rfl) (by kernel_rfl) (by kernel_rfl) (fun _ _ _ h => h) (Or.inl ⟨by rfl, fun w' hSw => by ((try dsimp only at hSw); go_simp)⟩) (by assumption) ?_
      (try simp only [Act.put, List.setIfInBounds_toArray, List.set_cons_zero, List.set_cons_succ])
      refine wpAnyH_take (i := 10) (oi := { dst := some 26, op := Op.move (Operand.tmp 4), type := 3, pos := "frame.go:47", after := #[], guard := none }) (v := .int .i64 (m : Int)) rfl (by kernel_rfl) (by kernel_rfl) (by kernel_rfl) (fun _ _ _ h => h) (Or.inl ⟨by rfl, fun w' hSw => by ((try dsimp only at hSw); go_simp)⟩) (by assumption) ?_
      (try simp only [Act.put, List.setIfInBounds_toArray, List.set_cons_zero, List.set_cons_succ])
      refine wpAnyH_take (i := 11) (oi := { dst := some 27, op := Op.binOp BinOp.add 3 (Operand.const (Value.int IntKind.i64 8)) (Operand.tmp 26) 3, type := 3, pos := "frame.go:47", after := #[{ on := 10, ground := Ground.data }], guard := none }) (v := .int .i64 (8 + (m : Int))) rfl (by kernel_rfl) (by kernel_rfl) (by kernel_rfl) (fun _ _ _ h => h) (Or.inl ⟨by rfl, fun w' hSw => by ((try dsimp only at hSw); go_simp)⟩) (by assumption) ?_
      (try simp only [Act.put, List.setIfInBounds_toArray, List.set_cons_zero, List.set_cons_succ])
      refine wpAnyH_take (i := 12) (oi := { dst := some 28, op := Op.slice 9 (Operand.tmp 25) (some (Operand.const (Value.int IntKind.i64 8))) (some (Operand.tmp 27)) none, type := 9, pos := "frame.go:47", after := #[{ on := 9, ground := Ground.data }, { on := 11, ground := Ground.data }], guard := none }) (v := .string t3) rfl (by kernel_rfl) (by kernel_rfl) (by kernel_rfl) (fun _ _ _ h => h) (Or.inl ⟨by rfl, fun w' hSw => by ((try dsimp only at hSw); have := s3 w'; go_simp)⟩) (by assumption) ?_
      (try simp only [Act.put, List.setIfInBounds_toArray, List.set_cons_zero, List.set_cons_succ])
      have hOld := hHeld
      refine wpAnyH_ready (rs := [2, 15]) (by kernel_rfl) (by simp) ?_
      refine AllReadyH.cons (o := { dst := some 18, op := Op.call { callee := Callee.value (Operand.func 29), args := #[Operand.tmp 17], argTypes := #[9] }, type := 3, pos := "frame.go:48", after := #[{ on := 1, ground := Ground.data }], guard := none }) rfl (fun K hK => ?_) ?_
      · go_simp; go_at_call 29; refine (NU1.out _).mono ?_; rintro e u1 ⟨rfl, hb1⟩
        refine hK.out _ _ ?_ (fun hHeld => ?_)
        · exact Held.step hOld hb1
        clear hK K
        (try simp only [Act.put, List.setIfInBounds_toArray, List.set_cons_zero, List.set_cons_succ])
        clear hOld
        clear hb1
        have hOld : Held X u1 := hHeld
        clear hHeld
        refine wpAnyH_ready (rs := [5, 15]) (by kernel_rfl) (by simp) ?_
        refine AllReadyH.cons (o := { dst := some 21, op := Op.call { callee := Callee.value (Operand.func 29), args := #[Operand.tmp 20], argTypes := #[9] }, type := 3, pos := "frame.go:49", after := #[{ on := 4, ground := Ground.data }, { on := 2, ground := Ground.chain }], guard := none }) rfl (fun K hK => ?_) ?_
        · go_simp; go_at_call 29; refine (NU2.out _).mono ?_; rintro e u2 ⟨rfl, hb2⟩
          refine hK.out _ _ ?_ (fun hHeld => ?_)
          · exact Held.step hOld hb2
          clear hK K
          (try simp only [Act.put, List.setIfInBounds_toArray, List.set_cons_zero, List.set_cons_succ])
          clear hOld
          clear hb2
          have hOld : Held X u2 := hHeld
          clear hHeld
          refine wpAnyH_ready (rs := [13, 15]) (by kernel_rfl) (by simp) ?_
          refine AllReadyH.cons (o := { dst := some 29, op := Op.call { callee := Callee.value (Operand.func 30), args := #[Operand.tmp 28], argTypes := #[9] }, type := 9, pos := "frame.go:51", after := #[{ on := 12, ground := Ground.data }, { on := 5, ground := Ground.chain }], guard := none }) rfl (fun K hK => ?_) ?_
          · go_simp; go_at_call 30; refine (CL.out _).mono ?_; rintro e u3 ⟨rfl, hb3⟩
            refine hK.out _ _ ?_ (fun hHeld => ?_)
            · exact Held.step hOld hb3
            clear hK K
            (try simp only [Act.put, List.setIfInBounds_toArray, List.set_cons_zero, List.set_cons_succ])
            clear hOld
            clear hb3
            have hOld : Held X u3 := hHeld
            clear hHeld
            refine wpAnyH_take (i := 14) (oi := { dst := some 30, op := Op.build 23 #[(0, Operand.tmp 18), (1, Operand.tmp 21), (2, Operand.tmp 24), (3, Operand.tmp 29)], type := 23, pos := "frame.go:47", after := #[{ on := 2, ground := Ground.data }, { on := 5, ground := Ground.data }, { on := 8, ground := Ground.data }, { on := 13, ground := Ground.data }], guard := none }) (v := (.agg #[.int .i64 S.ep, .int .i64 S.ix, .bool S.fr, .string t3])) rfl (by kernel_rfl) (by kernel_rfl) (by kernel_rfl) (fun _ _ _ h => h) (Or.inl ⟨by rfl, fun w' hSw => by ((try dsimp only at hSw); go_simp)⟩) (by assumption) ?_
            (try simp only [Act.put, List.setIfInBounds_toArray, List.set_cons_zero, List.set_cons_succ])
            refine wpAnyH_ready (rs := [15]) (by kernel_rfl) (by simp) ?_
            refine AllReadyH.cons (o := { dst := some 5, op := Op.alloc 23, type := 0, pos := "frame.go:47", after := #[], guard := none }) rfl (fun K hK => ?_) ?_
            · go_simp
              refine hK.out _ _ ?_ (fun hHeld => ?_)
              · exact Held.step hOld ((Below.refl _ _).alloc (Nat.le_refl _) _)
              clear hK K
              (try simp only [Act.put, List.setIfInBounds_toArray, List.set_cons_zero, List.set_cons_succ])
              refine wpAnyH_ready (rs := [16]) (by kernel_rfl) (by simp) ?_
              refine AllReadyH.cons (o := { dst := none, op := Op.store 23 (Operand.tmp 5) (Operand.tmp 30), type := 0, pos := "frame.go:47", after := #[{ on := 15, ground := Ground.data }, { on := 14, ground := Ground.data }, { on := 13, ground := Ground.chain }, { on := 0, ground := Ground.phase }, { on := 1, ground := Ground.phase }, { on := 2, ground := Ground.phase }, { on := 3, ground := Ground.phase }, { on := 4, ground := Ground.phase }, { on := 5, ground := Ground.phase }, { on := 6, ground := Ground.phase }, { on := 7, ground := Ground.phase }, { on := 8, ground := Ground.phase }, { on := 9, ground := Ground.phase }, { on := 10, ground := Ground.phase }, { on := 11, ground := Ground.phase }, { on := 12, ground := Ground.phase }, { on := 13, ground := Ground.phase }, { on := 14, ground := Ground.phase }, { on := 15, ground := Ground.phase }], guard := none }) rfl (fun K hK => ?_) ?_
              · go_simp
                refine hK.out _ _ ?_ (fun hHeld => ?_)
                · exact Held.step hOld ((Below.refl _ _).alloc (Nat.le_refl _) _)
                clear hK K
                (try simp only [Act.put, List.setIfInBounds_toArray, List.set_cons_zero, List.set_cons_succ])
                have HPB := Bx.new u3 #[.int .i64 S.ep, .int .i64 S.ix, .bool S.fr, .string t3] 23
                have HRB := Bx.alloc (HXX.out.held hOld) (.cells #[.int .i64 S.ep, .int .i64 S.ix, .bool S.fr, .string t3] 23)
                have HBW := (HBX.out.trans (Below.mono hOld (Below.size HBX.out))).alloc (Nat.le_trans (Below.size HBX.out) (Below.size hOld)) (.cells #[.int .i64 S.ep, .int .i64 S.ix, .bool S.fr, .string t3] 23)
                have HGN := Nat.ne_of_gt (Nat.lt_of_lt_of_le HXX.out.lt (Below.size hOld))
                clear hHeld hOld
                refine wpAnyH_done (by kernel_rfl) ?_ _
                refine NoPanic.normal ?_
                have HF := Lib.hid (And.intro HPB (And.intro HRB (And.intro HBW HGN)))
                clear HPB HRB HBW HGN
                generalize u3.alloc (.cells #[.int .i64 S.ep, .int .i64 S.ix, .bool S.fr, .string t3] 23) = V at *
                generalize u3.heap.size = g at *
                go_wp2_with fail
                go_meet
                exact ⟨g, rfl, HF.out⟩
              exact AllReadyH.nil
            exact AllReadyH.nil
          refine AllReadyH.cons (o := { dst := some 5, op := Op.alloc 23, type := 0, pos := "frame.go:47", after := #[], guard := none }) rfl (fun K hK => ?_) ?_
          · go_simp
            refine hK.out _ _ ?_ (fun hHeld => ?_)
            · exact Held.step hOld ((Below.refl _ _).alloc (Nat.le_refl _) _)
            clear hK K
            (try simp only [Act.put, List.setIfInBounds_toArray, List.set_cons_zero, List.set_cons_succ])
            have HY : Bx (u2.alloc (.cells #[.int .i64 0, .int .i64 0, .bool false, .string ⟨#[]⟩] 23)) u2.heap.size #[.int .i64 0, .int .i64 0, .bool false, .string ⟨#[]⟩] 23 := Bx.new u2 _ _
            have hgs : X.heap.size ≤ u2.heap.size := Below.size hOld
            have hgn : w.heap.size ≠ u2.heap.size := Nat.ne_of_lt (Nat.lt_of_lt_of_le HXX.out.lt hgs)
            clear hOld
            have hOld : Held X (u2.alloc (.cells #[.int .i64 0, .int .i64 0, .bool false, .string ⟨#[]⟩] 23)) := hHeld
            refine wpAnyH_ready (rs := [13]) (by kernel_rfl) (by simp) ?_
            refine AllReadyH.cons (o := { dst := some 29, op := Op.call { callee := Callee.value (Operand.func 30), args := #[Operand.tmp 28], argTypes := #[9] }, type := 9, pos := "frame.go:51", after := #[{ on := 12, ground := Ground.data }, { on := 5, ground := Ground.chain }], guard := none }) rfl (fun K hK => ?_) ?_
            · go_simp; go_at_call 30; refine (CL.out _).mono ?_; rintro e u3 ⟨rfl, hb3⟩
              refine hK.out _ _ ?_ (fun hHeld => ?_)
              · exact Held.step hOld hb3
              clear hK K
              (try simp only [Act.put, List.setIfInBounds_toArray, List.set_cons_zero, List.set_cons_succ])
              replace HY : Bx u3 u2.heap.size #[.int .i64 0, .int .i64 0, .bool false, .string ⟨#[]⟩] 23 := HY.held hb3
              clear hOld
              clear hb3
              have hOld : Held X u3 := hHeld
              clear hHeld
              refine wpAnyH_take (i := 14) (oi := { dst := some 30, op := Op.build 23 #[(0, Operand.tmp 18), (1, Operand.tmp 21), (2, Operand.tmp 24), (3, Operand.tmp 29)], type := 23, pos := "frame.go:47", after := #[{ on := 2, ground := Ground.data }, { on := 5, ground := Ground.data }, { on := 8, ground := Ground.data }, { on := 13, ground := Ground.data }], guard := none }) (v := (.agg #[.int .i64 S.ep, .int .i64 S.ix, .bool S.fr, .string t3])) rfl (by kernel_rfl) (by kernel_rfl) (by kernel_rfl) (fun _ _ _ h => h) (Or.inl ⟨by rfl, fun w' hSw => by ((try dsimp only at hSw); go_simp)⟩) (by assumption) ?_
              (try simp only [Act.put, List.setIfInBounds_toArray, List.set_cons_zero, List.set_cons_succ])
              have z0 := HY.cell 0
              have z1 := HY.cell 1
              have z2 := HY.cell 2
              have z3 := HY.cell 3
              have g0 := HY.free 0
              have g1 := HY.free 1
              have g2 := HY.free 2
              have g3 := HY.free 3
              simp only [List.getElem?_toArray, List.getElem?_cons_zero, List.getElem?_cons_succ] at z0 z1 z2 z3
              refine wpAnyH_ready (rs := [16]) (by kernel_rfl) (by simp) ?_
              refine AllReadyH.cons (o := { dst := none, op := Op.store 23 (Operand.tmp 5) (Operand.tmp 30), type := 0, pos := "frame.go:47", after := #[{ on := 15, ground := Ground.data }, { on := 14, ground := Ground.data }, { on := 13, ground := Ground.chain }, { on := 0, ground := Ground.phase }, { on := 1, ground := Ground.phase }, { on := 2, ground := Ground.phase }, { on := 3, ground := Ground.phase }, { on := 4, ground := Ground.phase }, { on := 5, ground := Ground.phase }, { on := 6, ground := Ground.phase }, { on := 7, ground := Ground.phase }, { on := 8, ground := Ground.phase }, { on := 9, ground := Ground.phase }, { on := 10, ground := Ground.phase }, { on := 11, ground := Ground.phase }, { on := 12, ground := Ground.phase }, { on := 13, ground := Ground.phase }, { on := 14, ground := Ground.phase }, { on := 15, ground := Ground.phase }], guard := none }) rfl (fun K hK => ?_) ?_
              · go_simp
                refine hK.out _ _ ?_ (fun hHeld => ?_)
                · exact below_four hOld hgs (.int .i64 S.ep) (.int .i64 S.ix) (.bool S.fr) (.string t3)
                clear hK K
                (try simp only [Act.put, List.setIfInBounds_toArray, List.set_cons_zero, List.set_cons_succ])
                have HPB := Bx.set4 HY (.int .i64 S.ep) (.int .i64 S.ix) (.bool S.fr) (.string t3)
                have HRB := Bx.other4 (HXX.out.held hOld) hgn (.int .i64 S.ep) (.int .i64 S.ix) (.bool S.fr) (.string t3)
                have HBW := below_four (B := w.heap.size) (b := u2.heap.size) (HBX.out.trans (Below.mono hOld (Below.size HBX.out))) (Nat.le_trans (Below.size HBX.out) hgs) (.int .i64 S.ep) (.int .i64 S.ix) (.bool S.fr) (.string t3)
                have HGN := hgn.symm
                clear hHeld hOld z0 z1 z2 z3 g0 g1 g2 g3 HY hgn hgs
                refine wpAnyH_done (by kernel_rfl) ?_ _
                refine NoPanic.normal ?_
                have HF := Lib.hid (And.intro HPB (And.intro HRB (And.intro HBW HGN)))
                clear HPB HRB HBW HGN
                generalize (((u3.setCell ⟨u2.heap.size, 0, none⟩ (.int .i64 S.ep)).setCell ⟨u2.heap.size, 1, none⟩ (.int .i64 S.ix)).setCell ⟨u2.heap.size, 2, none⟩ (.bool S.fr)).setCell ⟨u2.heap.size, 3, none⟩ (.string t3) = V at *
                generalize u2.heap.size = g at *
                go_wp2_with fail
                go_meet
                exact ⟨g, rfl, HF.out⟩
              exact AllReadyH.nil
            exact AllReadyH.nil
          exact AllReadyH.nil
        refine AllReadyH.cons (o := { dst := some 5, op := Op.alloc 23, type := 0, pos := "frame.go:47", after := #[], guard := none }) rfl (fun K hK => ?_) ?_
        · go_simp
          refine hK.out _ _ ?_ (fun hHeld => ?_)
          · exact Held.step hOld ((Below.refl _ _).alloc (Nat.le_refl _) _)
          clear hK K
          (try simp only [Act.put, List.setIfInBounds_toArray, List.set_cons_zero, List.set_cons_succ])
          have HY : Bx (u1.alloc (.cells #[.int .i64 0, .int .i64 0, .bool false, .string ⟨#[]⟩] 23)) u1.heap.size #[.int .i64 0, .int .i64 0, .bool false, .string ⟨#[]⟩] 23 := Bx.new u1 _ _
          have hgs : X.heap.size ≤ u1.heap.size := Below.size hOld
          have hgn : w.heap.size ≠ u1.heap.size := Nat.ne_of_lt (Nat.lt_of_lt_of_le HXX.out.lt hgs)
          clear hOld
          have hOld : Held X (u1.alloc (.cells #[.int .i64 0, .int .i64 0, .bool false, .string ⟨#[]⟩] 23)) := hHeld
          refine wpAnyH_ready (rs := [5]) (by kernel_rfl) (by simp) ?_
          refine AllReadyH.cons (o := { dst := some 21, op := Op.call { callee := Callee.value (Operand.func 29), args := #[Operand.tmp 20], argTypes := #[9] }, type := 3, pos := "frame.go:49", after := #[{ on := 4, ground := Ground.data }, { on := 2, ground := Ground.chain }], guard := none }) rfl (fun K hK => ?_) ?_
          · go_simp; go_at_call 29; refine (NU2.out _).mono ?_; rintro e u2 ⟨rfl, hb2⟩
            refine hK.out _ _ ?_ (fun hHeld => ?_)
            · exact Held.step hOld hb2
            clear hK K
            (try simp only [Act.put, List.setIfInBounds_toArray, List.set_cons_zero, List.set_cons_succ])
            replace HY : Bx u2 u1.heap.size #[.int .i64 0, .int .i64 0, .bool false, .string ⟨#[]⟩] 23 := HY.held hb2
            clear hOld
            clear hb2
            have hOld : Held X u2 := hHeld
            clear hHeld
            refine wpAnyH_ready (rs := [13]) (by kernel_rfl) (by simp) ?_
            refine AllReadyH.cons (o := { dst := some 29, op := Op.call { callee := Callee.value (Operand.func 30), args := #[Operand.tmp 28], argTypes := #[9] }, type := 9, pos := "frame.go:51", after := #[{ on := 12, ground := Ground.data }, { on := 5, ground := Ground.chain }], guard := none }) rfl (fun K hK => ?_) ?_
            · go_simp; go_at_call 30; refine (CL.out _).mono ?_; rintro e u3 ⟨rfl, hb3⟩
              refine hK.out _ _ ?_ (fun hHeld => ?_)
              · exact Held.step hOld hb3
              clear hK K
              (try simp only [Act.put, List.setIfInBounds_toArray, List.set_cons_zero, List.set_cons_succ])
              replace HY : Bx u3 u1.heap.size #[.int .i64 0, .int .i64 0, .bool false, .string ⟨#[]⟩] 23 := HY.held hb3
              clear hOld
              clear hb3
              have hOld : Held X u3 := hHeld
              clear hHeld
              refine wpAnyH_take (i := 14) (oi := { dst := some 30, op := Op.build 23 #[(0, Operand.tmp 18), (1, Operand.tmp 21), (2, Operand.tmp 24), (3, Operand.tmp 29)], type := 23, pos := "frame.go:47", after := #[{ on := 2, ground := Ground.data }, { on := 5, ground := Ground.data }, { on := 8, ground := Ground.data }, { on := 13, ground := Ground.data }], guard := none }) (v := (.agg #[.int .i64 S.ep, .int .i64 S.ix, .bool S.fr, .string t3])) rfl (by kernel_rfl) (by kernel_rfl) (by kernel_rfl) (fun _ _ _ h => h) (Or.inl ⟨by rfl, fun w' hSw => by ((try dsimp only at hSw); go_simp)⟩) (by assumption) ?_
              (try simp only [Act.put, List.setIfInBounds_toArray, List.set_cons_zero, List.set_cons_succ])
              have z0 := HY.cell 0
              have z1 := HY.cell 1
              have z2 := HY.cell 2
              have z3 := HY.cell 3
              have g0 := HY.free 0
              have g1 := HY.free 1
              have g2 := HY.free 2
              have g3 := HY.free 3
              simp only [List.getElem?_toArray, List.getElem?_cons_zero, List.getElem?_cons_succ] at z0 z1 z2 z3
              refine wpAnyH_ready (rs := [16]) (by kernel_rfl) (by simp) ?_
              refine AllReadyH.cons (o := { dst := none, op := Op.store 23 (Operand.tmp 5) (Operand.tmp 30), type := 0, pos := "frame.go:47", after := #[{ on := 15, ground := Ground.data }, { on := 14, ground := Ground.data }, { on := 13, ground := Ground.chain }, { on := 0, ground := Ground.phase }, { on := 1, ground := Ground.phase }, { on := 2, ground := Ground.phase }, { on := 3, ground := Ground.phase }, { on := 4, ground := Ground.phase }, { on := 5, ground := Ground.phase }, { on := 6, ground := Ground.phase }, { on := 7, ground := Ground.phase }, { on := 8, ground := Ground.phase }, { on := 9, ground := Ground.phase }, { on := 10, ground := Ground.phase }, { on := 11, ground := Ground.phase }, { on := 12, ground := Ground.phase }, { on := 13, ground := Ground.phase }, { on := 14, ground := Ground.phase }, { on := 15, ground := Ground.phase }], guard := none }) rfl (fun K hK => ?_) ?_
              · go_simp
                refine hK.out _ _ ?_ (fun hHeld => ?_)
                · exact below_four hOld hgs (.int .i64 S.ep) (.int .i64 S.ix) (.bool S.fr) (.string t3)
                clear hK K
                (try simp only [Act.put, List.setIfInBounds_toArray, List.set_cons_zero, List.set_cons_succ])
                have HPB := Bx.set4 HY (.int .i64 S.ep) (.int .i64 S.ix) (.bool S.fr) (.string t3)
                have HRB := Bx.other4 (HXX.out.held hOld) hgn (.int .i64 S.ep) (.int .i64 S.ix) (.bool S.fr) (.string t3)
                have HBW := below_four (B := w.heap.size) (b := u1.heap.size) (HBX.out.trans (Below.mono hOld (Below.size HBX.out))) (Nat.le_trans (Below.size HBX.out) hgs) (.int .i64 S.ep) (.int .i64 S.ix) (.bool S.fr) (.string t3)
                have HGN := hgn.symm
                clear hHeld hOld z0 z1 z2 z3 g0 g1 g2 g3 HY hgn hgs
                refine wpAnyH_done (by kernel_rfl) ?_ _
                refine NoPanic.normal ?_
                have HF := Lib.hid (And.intro HPB (And.intro HRB (And.intro HBW HGN)))
                clear HPB HRB HBW HGN
                generalize (((u3.setCell ⟨u1.heap.size, 0, none⟩ (.int .i64 S.ep)).setCell ⟨u1.heap.size, 1, none⟩ (.int .i64 S.ix)).setCell ⟨u1.heap.size, 2, none⟩ (.bool S.fr)).setCell ⟨u1.heap.size, 3, none⟩ (.string t3) = V at *
                generalize u1.heap.size = g at *
                go_wp2_with fail
                go_meet
                exact ⟨g, rfl, HF.out⟩
              exact AllReadyH.nil
            exact AllReadyH.nil
          exact AllReadyH.nil
        exact AllReadyH.nil
      refine AllReadyH.cons (o := { dst := some 5, op := Op.alloc 23, type := 0, pos := "frame.go:47", after := #[], guard := none }) rfl (fun K hK => ?_) ?_
      · go_simp
        refine hK.out _ _ ?_ (fun hHeld => ?_)
        · exact Held.step hOld ((Below.refl _ _).alloc (Nat.le_refl _) _)
        clear hK K
        (try simp only [Act.put, List.setIfInBounds_toArray, List.set_cons_zero, List.set_cons_succ])
        have HY : Bx (X.drew.alloc (.cells #[.int .i64 0, .int .i64 0, .bool false, .string ⟨#[]⟩] 23)) X.heap.size #[.int .i64 0, .int .i64 0, .bool false, .string ⟨#[]⟩] 23 := Bx.new X.drew _ _
        have hgs : X.heap.size ≤ X.heap.size := Nat.le_refl _
        have hgn : w.heap.size ≠ X.heap.size := Nat.ne_of_lt (Nat.lt_of_lt_of_le HXX.out.lt hgs)
        clear hOld
        have hOld : Held X (X.drew.alloc (.cells #[.int .i64 0, .int .i64 0, .bool false, .string ⟨#[]⟩] 23)) := hHeld
        refine wpAnyH_ready (rs := [2]) (by kernel_rfl) (by simp) ?_
        refine AllReadyH.cons (o := { dst := some 18, op := Op.call { callee := Callee.value (Operand.func 29), args := #[Operand.tmp 17], argTypes := #[9] }, type := 3, pos := "frame.go:48", after := #[{ on := 1, ground := Ground.data }], guard := none }) rfl (fun K hK => ?_) ?_
        · go_simp; go_at_call 29; refine (NU1.out _).mono ?_; rintro e u1 ⟨rfl, hb1⟩
          refine hK.out _ _ ?_ (fun hHeld => ?_)
          · exact Held.step hOld hb1
          clear hK K
          (try simp only [Act.put, List.setIfInBounds_toArray, List.set_cons_zero, List.set_cons_succ])
          replace HY : Bx u1 X.heap.size #[.int .i64 0, .int .i64 0, .bool false, .string ⟨#[]⟩] 23 := HY.held hb1
          clear hOld
          clear hb1
          have hOld : Held X u1 := hHeld
          clear hHeld
          refine wpAnyH_ready (rs := [5]) (by kernel_rfl) (by simp) ?_
          refine AllReadyH.cons (o := { dst := some 21, op := Op.call { callee := Callee.value (Operand.func 29), args := #[Operand.tmp 20], argTypes := #[9] }, type := 3, pos := "frame.go:49", after := #[{ on := 4, ground := Ground.data }, { on := 2, ground := Ground.chain }], guard := none }) rfl (fun K hK => ?_) ?_
          · go_simp; go_at_call 29; refine (NU2.out _).mono ?_; rintro e u2 ⟨rfl, hb2⟩
            refine hK.out _ _ ?_ (fun hHeld => ?_)
            · exact Held.step hOld hb2
            clear hK K
            (try simp only [Act.put, List.setIfInBounds_toArray, List.set_cons_zero, List.set_cons_succ])
            replace HY : Bx u2 X.heap.size #[.int .i64 0, .int .i64 0, .bool false, .string ⟨#[]⟩] 23 := HY.held hb2
            clear hOld
            clear hb2
            have hOld : Held X u2 := hHeld
            clear hHeld
            refine wpAnyH_ready (rs := [13]) (by kernel_rfl) (by simp) ?_
            refine AllReadyH.cons (o := { dst := some 29, op := Op.call { callee := Callee.value (Operand.func 30), args := #[Operand.tmp 28], argTypes := #[9] }, type := 9, pos := "frame.go:51", after := #[{ on := 12, ground := Ground.data }, { on := 5, ground := Ground.chain }], guard := none }) rfl (fun K hK => ?_) ?_
            · go_simp; go_at_call 30; refine (CL.out _).mono ?_; rintro e u3 ⟨rfl, hb3⟩
              refine hK.out _ _ ?_ (fun hHeld => ?_)
              · exact Held.step hOld hb3
              clear hK K
              (try simp only [Act.put, List.setIfInBounds_toArray, List.set_cons_zero, List.set_cons_succ])
              replace HY : Bx u3 X.heap.size #[.int .i64 0, .int .i64 0, .bool false, .string ⟨#[]⟩] 23 := HY.held hb3
              clear hOld
              clear hb3
              have hOld : Held X u3 := hHeld
              clear hHeld
              refine wpAnyH_take (i := 14) (oi := { dst := some 30, op := Op.build 23 #[(0, Operand.tmp 18), (1, Operand.tmp 21), (2, Operand.tmp 24), (3, Operand.tmp 29)], type := 23, pos := "frame.go:47", after := #[{ on := 2, ground := Ground.data }, { on := 5, ground := Ground.data }, { on := 8, ground := Ground.data }, { on := 13, ground := Ground.data }], guard := none }) (v := (.agg #[.int .i64 S.ep, .int .i64 S.ix, .bool S.fr, .string t3])) rfl (by kernel_rfl) (by kernel_rfl) (by kernel_rfl) (fun _ _ _ h => h) (Or.inl ⟨by rfl, fun w' hSw => by ((try dsimp only at hSw); go_simp)⟩) (by assumption) ?_
              (try simp only [Act.put, List.setIfInBounds_toArray, List.set_cons_zero, List.set_cons_succ])
              have z0 := HY.cell 0
              have z1 := HY.cell 1
              have z2 := HY.cell 2
              have z3 := HY.cell 3
              have g0 := HY.free 0
              have g1 := HY.free 1
              have g2 := HY.free 2
              have g3 := HY.free 3
              simp only [List.getElem?_toArray, List.getElem?_cons_zero, List.getElem?_cons_succ] at z0 z1 z2 z3
              refine wpAnyH_ready (rs := [16]) (by kernel_rfl) (by simp) ?_
              refine AllReadyH.cons (o := { dst := none, op := Op.store 23 (Operand.tmp 5) (Operand.tmp 30), type := 0, pos := "frame.go:47", after := #[{ on := 15, ground := Ground.data }, { on := 14, ground := Ground.data }, { on := 13, ground := Ground.chain }, { on := 0, ground := Ground.phase }, { on := 1, ground := Ground.phase }, { on := 2, ground := Ground.phase }, { on := 3, ground := Ground.phase }, { on := 4, ground := Ground.phase }, { on := 5, ground := Ground.phase }, { on := 6, ground := Ground.phase }, { on := 7, ground := Ground.phase }, { on := 8, ground := Ground.phase }, { on := 9, ground := Ground.phase }, { on := 10, ground := Ground.phase }, { on := 11, ground := Ground.phase }, { on := 12, ground := Ground.phase }, { on := 13, ground := Ground.phase }, { on := 14, ground := Ground.phase }, { on := 15, ground := Ground.phase }], guard := none }) rfl (fun K hK => ?_) ?_
              · go_simp
                refine hK.out _ _ ?_ (fun hHeld => ?_)
                · exact below_four hOld hgs (.int .i64 S.ep) (.int .i64 S.ix) (.bool S.fr) (.string t3)
                clear hK K
                (try simp only [Act.put, List.setIfInBounds_toArray, List.set_cons_zero, List.set_cons_succ])
                have HPB := Bx.set4 HY (.int .i64 S.ep) (.int .i64 S.ix) (.bool S.fr) (.string t3)
                have HRB := Bx.other4 (HXX.out.held hOld) hgn (.int .i64 S.ep) (.int .i64 S.ix) (.bool S.fr) (.string t3)
                have HBW := below_four (B := w.heap.size) (b := X.heap.size) (HBX.out.trans (Below.mono hOld (Below.size HBX.out))) (Nat.le_trans (Below.size HBX.out) hgs) (.int .i64 S.ep) (.int .i64 S.ix) (.bool S.fr) (.string t3)
                have HGN := hgn.symm
                clear hHeld hOld z0 z1 z2 z3 g0 g1 g2 g3 HY hgn hgs
                refine wpAnyH_done (by kernel_rfl) ?_ _
                refine NoPanic.normal ?_
                have HF := Lib.hid (And.intro HPB (And.intro HRB (And.intro HBW HGN)))
                clear HPB HRB HBW HGN
                generalize (((u3.setCell ⟨X.heap.size, 0, none⟩ (.int .i64 S.ep)).setCell ⟨X.heap.size, 1, none⟩ (.int .i64 S.ix)).setCell ⟨X.heap.size, 2, none⟩ (.bool S.fr)).setCell ⟨X.heap.size, 3, none⟩ (.string t3) = V at *
                generalize X.heap.size = g at *
                go_wp2_with fail
                go_meet
                exact ⟨g, rfl, HF.out⟩
              exact AllReadyH.nil
            exact AllReadyH.nil
          exact AllReadyH.nil
        exact AllReadyH.nil
      exact AllReadyH.nil
    case rest =>
      obtain ⟨g, rfl, hq⟩ := hcut
      have HS1 := Lib.hid hq.out.1
      have HX1 := Lib.hid hq.out.2.1
      have HB1 := Lib.hid hq.out.2.2.1
      have HGN := hq.out.2.2.2
      clear hq
      obtain ⟨q0, q1, q2, q3⟩ := Sb.cells (HS.out _ _ HS1.out)
      rw [← HT3.out] at q3
      go_wp2_with fail
      refine (PU.out _).mono ?_; rintro e w3 ⟨rfl, hb3⟩
      have HS3 := Lib.hid (HS1.out.held hb3)
      have HX3 := Lib.hid (HX1.out.held hb3)
      have HB3 := Lib.hid (HB1.out.trans (hb3.mono (Below.size HB1.out)))
      clear hb3 HS1 HX1 HB1 q0 q1 q2 q3
      obtain ⟨q0, q1, q2, q3⟩ := Sb.cells (HS.out _ _ HS3.out)
      rw [← HT3.out] at q3
      have x0 := HX3.out.cell 0
      have x1 := HX3.out.cell 1
      have x2 := HX3.out.cell 2
      have x3 := HX3.out.cell 3
      have f0 := HX3.out.free 0
      have f1 := HX3.out.free 1
      have f2 := HX3.out.free 2
      have f3 := HX3.out.free 3
      simp only [List.getElem?_toArray, List.getElem?_cons_zero, List.getElem?_cons_succ] at x0 x1 x2 x3
      clear HS
      cases hok : okX S with
      | false =>
        rw [hok] at HOK PU
        have hno : getOkX b = false := by rw [HOK.out]; rfl
        clear hok
        go_wp2_with fail
        refine bodyPost_ret (v := .tuple #[.agg #[.int .i64 0, .int .i64 0, .bool false, .string ⟨#[]⟩], .bool false]) (by simp [results, Tryz.results8, go_sem, x0, x1, x2, x3]) rfl (HNO.out _ hno ?_)
        exact below_four HB3.out (Nat.le_refl _) _ _ _ _
      | true =>
        rw [hok] at HOK
        by_cases he : putX S = b
        · have hyes : getOkX b = true := by rw [HOK.out, decide_eq_true he]; rfl
          have hse : ((str (putX S)).toList == B.toList) = true := by rw [he, HBB.out, beq_iff_eq]
          generalize str (putX S) = sb at *
          clear he hok
          go_wp2_with fail
          refine bodyPost_ret (v := .tuple #[.agg #[.int .i64 S.ep, .int .i64 S.ix, .bool S.fr, .string t3], .bool true]) (by simp [results, Tryz.results8, go_sem, x0, x1, x2, x3]) rfl (by have HY := HYE.out; unfold sv at HY; rw [← HT3.out] at HY; exact HY _ hyes (below_four HB3.out (Nat.le_refl _) _ _ _ _))
        · have hno : getOkX b = false := by rw [HOK.out, decide_eq_false he]; rfl
          have hse : ((str (putX S)).toList == B.toList) = false := by
            rw [HBB.out, beq_eq_false_iff_ne]
            intro e
            rw [Lib.toList_data, Lib.toList_data] at e
            exact he e
          generalize str (putX S) = sb at *
          clear he hok
          go_wp2_with fail
          refine bodyPost_ret (v := .tuple #[.agg #[.int .i64 0, .int .i64 0, .bool false, .string ⟨#[]⟩], .bool false]) (by simp [results, Tryz.results8, go_sem, x0, x1, x2, x3]) rfl (HNO.out _ hno ?_)
          exact below_four HB3.out (Nat.le_refl _) _ _ _ _
  · have h' : ((b.length : Int) == 64) = false := by rw [beq_eq_false_iff_ne]; omega
    have HN := Lib.hid (fun w' (hb : Below w.heap.size w w') => GetP.no (get_len hl) hb)
    have HX := Lib.hid (Bx.new w #[.int .i64 0, .int .i64 0, .bool false, .string ⟨#[]⟩] 23)
    have hz : ((str b).size : Int) = (b.length : Int) := by rw [str_size]
    generalize str b = s at *
    go_enter Tryz.func8, Tryz.ntmps8
    go_wp2_with fail
    refine bodyPost_ret (v := .tuple #[.agg #[.int .i64 0, .int .i64 0, .bool false, .string ⟨#[]⟩], .bool false]) (by simp [results, Tryz.results8, go_sem]) rfl (HN.out _ ?_)
    exact (Below.refl _ _).alloc (Nat.le_refl _) _
end Go.Proofs.YtbdpmfgphhgigaaGreat
