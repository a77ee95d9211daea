/- The document's own SectorPut, SectorGet. -/
import Derived.Test.YtbdpmfgphhgigaaGreatRa
import Derived.Test.YtbdpmfgphhgigaaGreatGet
import Derived.Deep.RegionHeld3
import Derived.Deep.QuietTactic
import Derived.Deep.RegionLaw
namespace Go.Proofs.YtbdpmfgphhgigaaGreat
open Go.ChangeShapes Go.WideShapes Go.ChangeAt Go.RowKit
set_option linter.unusedVariables false
set_option linter.unusedSimpArgs false
set_option maxRecDepth 100000
/-- A sector as the document's program holds it: its fields in the same order. -/
theorem flag_cells (W : World) (f : Bool) (n : Nat) (hn : n ≤ 56) : (convert 64 9 (.slice (some ⟨W.heap.size, 0, none⟩) 2 2)).run Tryz.prog (W.alloc (.cells #[.int .u8 ((flagX f).toNat : Int), .int .u8 ((lenX n).toNat : Int)] 5)) = .ok (.string (str [flagX f, lenX n])) (W.alloc (.cells #[.int .u8 ((flagX f).toNat : Int), .int .u8 ((lenX n).toNat : Int)] 5)) :=
  run_convert_bytes_back (P := Tryz.prog) _ 64 9 5 ⟨W.heap.size, 0, none⟩ 2 [flagX f, lenX n] Tryz.underlying64 Tryz.underlying5 Tryz.underlying9 fun j hj => by
    have hh := heap_alloc_new W (.cells #[.int .u8 ((flagX f).toNat : Int), .int .u8 ((lenX n).toNat : Int)] 5)
    match j, hj with
    | 0, _ => exact (cell_of_row _ W.heap.size 0 _ _ _ hh).trans rfl
    | 1, _ => exact (cell_of_row _ W.heap.size 1 _ _ _ hh).trans rfl
theorem okX_small (x : Sx) : okX x = (decide (1 ≤ x.ep) && (four x.ep && (two x.ix && (decide (1 ≤ x.pl.length) && decide (x.pl.length ≤ 56))))) := by
  unfold okX four two
  rw [← Bool.decide_and, ← Bool.decide_and, ← Bool.decide_and, ← Bool.decide_and]
  congr 1
  apply propext
  constructor
  · rintro ⟨a, b, c, d, e, f⟩; exact ⟨a, ⟨by omega, b⟩, ⟨c, d⟩, e, f⟩
  · rintro ⟨a, ⟨_, b⟩, ⟨c, d⟩, e, f⟩; exact ⟨a, b, c, d, e, f⟩
set_option maxHeartbeats 2000000 in
theorem rput_bad (x : Sx) (hs : x.pl.length ≤ maxLen) (h : okX x = false) (w : World) : Calls Tryz.prog 7 #[sv x] w fun e w' => PutP x w e w' := by
  have HN := Lib.hid (fun w' (hb : Below w.heap.size w w') => PutP.no h hb)
  have F4 := Lib.hid (rfour_is x.ep)
  have F2 := Lib.hid (rtwo_is x.ix)
  rw [okX_small] at h
  unfold sv
  have hsz : (str x.pl).size = x.pl.length := rfl
  unfold maxLen at hs
  generalize PutP x w = PP at *
  generalize str x.pl = s at *
  generalize x.pl.length = n at *
  generalize x.ep = ep at *
  generalize x.ix = ix at *
  generalize x.fr = fr at *
  generalize four ep = k4 at *
  generalize two ix = k2 at *
  subst hsz
  have HB := Lib.hid ((Below.refl w.heap.size w).alloc (Nat.le_refl _) (.cells #[.int .i64 ep, .int .i64 ix, .bool fr, .string s] 30))
  have HX := Lib.hid (Bx.new w #[.int .i64 ep, .int .i64 ix, .bool fr, .string s] 30)
  by_cases h1 : 1 ≤ ep
  · have b1 : ¬ ep < 1 := by omega
    rw [decide_eq_true h1, Bool.true_and] at h
    cases k4 with
    | false =>
      as_aux_lemma =>
        go_enter Tryz.func7, Tryz.ntmps7
        go_wp2_with fail
        refine (F4.out _).mono ?_; rintro q w1 ⟨rfl, rfl⟩
        go_wp2_with fail
        exact HN.out _ HB.out
    | true =>
      rw [Bool.true_and] at h
      cases k2 with
      | false =>
        as_aux_lemma =>
          go_enter Tryz.func7, Tryz.ntmps7
          go_wp2_with fail
          refine (F4.out _).mono ?_; rintro q w1 ⟨rfl, rfl⟩
          go_wp2_with fail
          refine (F2.out _).mono ?_; rintro q w1 ⟨rfl, rfl⟩
          go_wp2_with fail
          exact HN.out _ HB.out
      | true =>
        rw [Bool.true_and] at h
        by_cases h0 : 1 ≤ s.size
        · have h0' : ¬ (s.size : Int) < 1 := by omega
          have h1 : 56 < s.size := by
            rw [decide_eq_true h0, Bool.true_and, decide_eq_false_iff_not] at h
            omega
          have h1' : (56 : Int) < (s.size : Int) := by omega
          clear h h0 hs h1
          as_aux_lemma =>
            go_enter Tryz.func7, Tryz.ntmps7
            go_wp2_with fail
            refine (F4.out _).mono ?_; rintro q w1 ⟨rfl, rfl⟩
            go_wp2_with fail
            refine (F2.out _).mono ?_; rintro q w1 ⟨rfl, rfl⟩
            go_wp2_with fail
            exact HN.out _ HB.out
        · have h0' : (s.size : Int) < 1 := by omega
          clear h h0 hs
          as_aux_lemma =>
            go_enter Tryz.func7, Tryz.ntmps7
            go_wp2_with fail
            refine (F4.out _).mono ?_; rintro q w1 ⟨rfl, rfl⟩
            go_wp2_with fail
            refine (F2.out _).mono ?_; rintro q w1 ⟨rfl, rfl⟩
            go_wp2_with fail
            exact HN.out _ HB.out
  · have b1 : ep < 1 := by omega
    clear h
    as_aux_lemma =>
      go_enter Tryz.func7, Tryz.ntmps7
      go_wp2_with fail
      exact HN.out _ HB.out
theorem flag_kept (W u : World) (f : Bool) (n : Nat) (hb : Below (W.alloc (.cells #[.int .u8 ((flagX f).toNat : Int), .int .u8 ((lenX n).toNat : Int)] 5)).heap.size (W.alloc (.cells #[.int .u8 ((flagX f).toNat : Int), .int .u8 ((lenX n).toNat : Int)] 5)) u) : (convert 64 9 (.slice (some ⟨W.heap.size, 0, none⟩) 2 2)).run Tryz.prog u = .ok (.string (str [flagX f, lenX n])) u :=
  run_convert_bytes_back (P := Tryz.prog) _ 64 9 5 ⟨W.heap.size, 0, none⟩ 2 [flagX f, lenX n] Tryz.underlying64 Tryz.underlying5 Tryz.underlying9 fun j hj => by
    have hh := heap_alloc_new W (.cells #[.int .u8 ((flagX f).toNat : Int), .int .u8 ((lenX n).toNat : Int)] 5)
    rw [← hb.block W.heap.size (by rw [World.size_alloc]; exact Nat.lt_succ_self _)] at hh
    match j, hj with
    | 0, _ => exact (cell_of_row _ W.heap.size 0 _ _ _ hh).trans rfl
    | 1, _ => exact (cell_of_row _ W.heap.size 1 _ _ _ hh).trans rfl
set_option maxHeartbeats 4000000 in
theorem rput_oktrue (x : Sx) (hfr : x.fr = true) (h : okX x = true) (w : World) : Calls Tryz.prog 7 #[sv x] w fun e w' => PutP x w e w' := by
  obtain ⟨k1, k2, k3, k4, k5, k6⟩ := okX_iff.1 h
  have HP := Lib.hid (show ∀ w', Below w.heap.size w w' → PutP x w (.returned (.tuple #[.string (str (encX x)), .bool true])) w' from fun w' hb => by
    unfold PutP; rw [h, putX_yes h]; exact ⟨rfl, hb⟩)
  have F4 := Lib.hid (rfour_is x.ep)
  have F2 := Lib.hid (rtwo_is x.ix)
  rw [show four x.ep = true from decide_eq_true ⟨by omega, k2⟩] at F4
  rw [show two x.ix = true from decide_eq_true ⟨k3, k4⟩] at F2
  have LG := Lib.hid (rlong_is x.ep ⟨by omega, k2⟩)
  have NM := Lib.hid (rnum_is x.ix ⟨k3, k4⟩)
  have ZE := Lib.hid (rzeros_is (56 - x.pl.length) (by omega))
  have HCK := Lib.hid (fun (W u : World) (hb : Below (W.alloc (.cells #[.int .u8 2, .int .u8 ((lenX x.pl.length).toNat : Int)] 5)).heap.size (W.alloc (.cells #[.int .u8 2, .int .u8 ((lenX x.pl.length).toNat : Int)] 5)) u) => flag_kept W u true x.pl.length hb)
  have HE := Lib.hid (show str (w4 x.ep) ++ str (w2 x.ix) ++ str [flagX true, lenX x.pl.length] ++ str x.pl ++ str (zs (56 - x.pl.length)) = str (encX x) by
    unfold encX padX headX
    rw [hfr, str_app, str_app, str_app, str_app]
    simp only [List.append_assoc]
    rfl)
  have a7 : IntKind.u8.wrap (x.pl.length : Int) = ((lenX x.pl.length).toNat : Int) := by
    rw [u8_byte (by omega)]
    unfold byte lenX
    rw [Int.toNat_natCast]
  have hlen : (str x.pl).size = x.pl.length := rfl
  have qa : (str (w4 x.ep)).size = 4 := rfl
  have qb : (str (w2 x.ix)).size = 2 := rfl
  have qc : (str [flagX true, lenX x.pl.length]).size = 2 := rfl
  have qz : (str (zs (56 - x.pl.length))).size = 56 - x.pl.length := by rw [str_size, zs_length]
  unfold sv
  rw [hfr]
  have hn0 : ¬ (x.pl.length : Int) < 1 := by omega
  have hn1 : ¬ (56 : Int) < (x.pl.length : Int) := by omega
  have ne1 : ¬ x.ep < 1 := by omega
  have HB := Lib.hid ((Below.refl w.heap.size w).alloc (Nat.le_refl _) (.cells #[.int .i64 x.ep, .int .i64 x.ix, .bool true, .string (str x.pl)] 30))
  have HX := Lib.hid (Bx.new w #[.int .i64 x.ep, .int .i64 x.ix, .bool true, .string (str x.pl)] 30)
  go_enter Tryz.func7, Tryz.ntmps7
  go_upto_region 1 with fail
  generalize w.alloc (.cells #[.int .i64 x.ep, .int .i64 x.ix, .bool true, .string (str x.pl)] 30) = X at *
  obtain ⟨W0, hW0⟩ : ∃ W0, W0 = w.heap.size := ⟨_, rfl⟩
  have x0 := HX.out.cell 0
  have x1 := HX.out.cell 1
  have x2 := HX.out.cell 2
  have x3 := HX.out.cell 3
  simp only [List.getElem?_toArray, List.getElem?_cons_zero, List.getElem?_cons_succ] at x0 x1 x2 x3
  go_wp2_with fail
  refine (F4.out _).mono ?_; rintro q w1 ⟨rfl, rfl⟩
  go_wp2_with fail
  refine (F2.out _).mono ?_; rintro q w1 ⟨rfl, rfl⟩
  go_upto_region 6 with fail
  have hc0 := fun w (hh : Held X w) => hh.cell x0
  have hc1 := fun w (hh : Held X w) => hh.cell x1
  have hc3 := fun w (hh : Held X w) => hh.cell x3
  clear x0 x1 x2 x3 F4 F2
  have HES := Lib.hid HE.out
  clear HE
  generalize str (w4 x.ep) = s1 at *
  generalize str (w2 x.ix) = s2 at *
  generalize str [flagX true, lenX x.pl.length] = s3 at *
  generalize str x.pl = sp at *
  generalize str (zs (56 - x.pl.length)) = sz at *
  have m1 : ¬ 9223372036854775807 < s1.size + s2.size := by omega
  have m2 : ¬ 9223372036854775807 < (s1 ++ s2).size + s3.size := by rw [ByteArray.size_append]; omega
  have m3 : ¬ 9223372036854775807 < (s1 ++ s2 ++ s3).size + sp.size := by rw [ByteArray.size_append, ByteArray.size_append]; omega
  have m4 : ¬ 9223372036854775807 < s1.size + s2.size + s3.size := by omega
  have m5 : ¬ 9223372036854775807 < s1.size + s2.size + s3.size + sp.size := by omega
  have m6 : 8 + x.pl.length ≤ 9223372036854775807 := by omega
  go_cut [5] (fun z wx => z = .string (s1 ++ s2 ++ s3 ++ sp) ∧ Hid (Below w.heap.size w wx))
  case first =>
    refine wp_region_noPanic ?_
    refine wp_region_held_drew (S := Held X) (by kernel_rfl) ?_ (fun hHeld => ?_)
    · exact Held.start _
    refine wpAnyH_take (i := 0) (oi := { dst := some 35, op := Op.fieldAddr 30 (Operand.tmp 1) 0, type := 0, pos := "base.go:590", after := #[], guard := none }) (v := .pointer (some ⟨w.heap.size, 0, none⟩)) rfl (by kernel_rfl) (by kernel_rfl) (by kernel_rfl) (fun _ _ _ h => h) (Or.inl ⟨by rfl, fun w' hSw => by ((try dsimp only at hSw); go_simp)⟩) (by assumption) ?_
    (try simp only [Act.put, List.setIfInBounds_toArray, List.set_cons_zero, List.set_cons_succ])
    refine wpAnyH_take (i := 1) (oi := { dst := some 36, op := Op.load 3 (Operand.tmp 35), type := 3, pos := "base.go:590", after := #[{ on := 0, ground := Ground.data }], guard := none }) (v := .int .i64 x.ep) rfl (by kernel_rfl) (by kernel_rfl) (by kernel_rfl) (fun _ _ _ h => h) (Or.inl ⟨by rfl, fun w' hSw => by ((try dsimp only at hSw); go_simp)⟩) (by assumption) ?_
    (try simp only [Act.put, List.setIfInBounds_toArray, List.set_cons_zero, List.set_cons_succ])
    refine wpAnyH_take (i := 3) (oi := { dst := some 38, op := Op.fieldAddr 30 (Operand.tmp 1) 1, type := 0, pos := "base.go:590", after := #[], guard := none }) (v := .pointer (some ⟨w.heap.size, 1, none⟩)) rfl (by kernel_rfl) (by kernel_rfl) (by kernel_rfl) (fun _ _ _ h => h) (Or.inl ⟨by rfl, fun w' hSw => by ((try dsimp only at hSw); go_simp)⟩) (by assumption) ?_
    (try simp only [Act.put, List.setIfInBounds_toArray, List.set_cons_zero, List.set_cons_succ])
    refine wpAnyH_take (i := 4) (oi := { dst := some 39, op := Op.load 3 (Operand.tmp 38), type := 3, pos := "base.go:590", after := #[{ on := 3, ground := Ground.data }], guard := none }) (v := .int .i64 x.ix) rfl (by kernel_rfl) (by kernel_rfl) (by kernel_rfl) (fun _ _ _ h => h) (Or.inl ⟨by rfl, fun w' hSw => by ((try dsimp only at hSw); go_simp)⟩) (by assumption) ?_
    (try simp only [Act.put, List.setIfInBounds_toArray, List.set_cons_zero, List.set_cons_succ])
    refine wpAnyH_take (i := 7) (oi := { dst := some 42, op := Op.move (Operand.tmp 4), type := 5, pos := "base.go:590", after := #[], guard := none }) (v := .int .u8 2) rfl (by kernel_rfl) (by kernel_rfl) (by kernel_rfl) (fun _ _ _ h => h) (Or.inl ⟨by rfl, fun w' hSw => by ((try dsimp only at hSw); go_simp)⟩) (by assumption) ?_
    (try simp only [Act.put, List.setIfInBounds_toArray, List.set_cons_zero, List.set_cons_succ])
    refine wpAnyH_take (i := 8) (oi := { dst := some 43, op := Op.fieldAddr 30 (Operand.tmp 1) 3, type := 0, pos := "base.go:590", after := #[], guard := none }) (v := .pointer (some ⟨w.heap.size, 3, none⟩)) rfl (by kernel_rfl) (by kernel_rfl) (by kernel_rfl) (fun _ _ _ h => h) (Or.inl ⟨by rfl, fun w' hSw => by ((try dsimp only at hSw); go_simp)⟩) (by assumption) ?_
    (try simp only [Act.put, List.setIfInBounds_toArray, List.set_cons_zero, List.set_cons_succ])
    refine wpAnyH_take (i := 9) (oi := { dst := some 44, op := Op.load 9 (Operand.tmp 43), type := 9, pos := "base.go:590", after := #[{ on := 8, ground := Ground.data }], guard := none }) (v := .string sp) rfl (by kernel_rfl) (by kernel_rfl) (by kernel_rfl) (fun _ _ _ h => h) (Or.inl ⟨by rfl, fun w' hSw => by ((try dsimp only at hSw); go_simp)⟩) (by assumption) ?_
    (try simp only [Act.put, List.setIfInBounds_toArray, List.set_cons_zero, List.set_cons_succ])
    refine wpAnyH_take (i := 10) (oi := { dst := some 45, op := Op.call { callee := Callee.builtin Builtin.len, args := #[Operand.tmp 44], argTypes := #[9] }, type := 3, pos := "base.go:590", after := #[{ on := 9, ground := Ground.data }], guard := none }) (v := .int .i64 (x.pl.length : Int)) rfl (by kernel_rfl) (by kernel_rfl) (by kernel_rfl) (fun _ _ _ h => h) (Or.inl ⟨by rfl, fun w' hSw => by ((try dsimp only at hSw); go_simp)⟩) (by assumption) ?_
    (try simp only [Act.put, List.setIfInBounds_toArray, List.set_cons_zero, List.set_cons_succ])
    refine wpAnyH_take (i := 11) (oi := { dst := some 46, op := Op.convert 3 5 (Operand.tmp 45), type := 5, pos := "base.go:590", after := #[{ on := 10, ground := Ground.data }], guard := none }) (v := .int .u8 ((lenX x.pl.length).toNat : Int)) rfl (by kernel_rfl) (by kernel_rfl) (by kernel_rfl) (fun _ _ _ h => h) (Or.inl ⟨by rfl, fun w' hSw => by ((try dsimp only at hSw); go_simp)⟩) (by assumption) ?_
    (try simp only [Act.put, List.setIfInBounds_toArray, List.set_cons_zero, List.set_cons_succ])
    refine wpAnyH_take (i := 15) (oi := { dst := some 50, op := Op.fieldAddr 30 (Operand.tmp 1) 3, type := 0, pos := "base.go:590", after := #[], guard := none }) (v := .pointer (some ⟨w.heap.size, 3, none⟩)) rfl (by kernel_rfl) (by kernel_rfl) (by kernel_rfl) (fun _ _ _ h => h) (Or.inl ⟨by rfl, fun w' hSw => by ((try dsimp only at hSw); go_simp)⟩) (by assumption) ?_
    (try simp only [Act.put, List.setIfInBounds_toArray, List.set_cons_zero, List.set_cons_succ])
    refine wpAnyH_take (i := 16) (oi := { dst := some 51, op := Op.load 9 (Operand.tmp 50), type := 9, pos := "base.go:590", after := #[{ on := 15, ground := Ground.data }], guard := none }) (v := .string sp) rfl (by kernel_rfl) (by kernel_rfl) (by kernel_rfl) (fun _ _ _ h => h) (Or.inl ⟨by rfl, fun w' hSw => by ((try dsimp only at hSw); go_simp)⟩) (by assumption) ?_
    (try simp only [Act.put, List.setIfInBounds_toArray, List.set_cons_zero, List.set_cons_succ])
    clear hc0 hc1 hc3
    have hOld := hHeld
    refine wpAnyH_ready (rs := [2, 12]) (by kernel_rfl) (by simp) ?_
    refine AllReadyH.cons (o := { dst := some 37, op := Op.call { callee := Callee.value (Operand.func 26), args := #[Operand.tmp 36], argTypes := #[3] }, type := 9, pos := "base.go:590", after := #[{ on := 1, ground := Ground.data }], guard := none }) rfl (fun K hK => ?_) ?_
    · go_simp; go_at_call 26; refine (LG.out _).mono ?_; rintro e u1 ⟨rfl, hb1⟩
      refine hK.out _ _ ?_ (fun hHeld => ?_)
      · exact Held.step hOld hb1
      clear hK K
      (try simp only [Act.put, List.setIfInBounds_toArray, List.set_cons_zero, List.set_cons_succ])
      clear hOld hb1
      have hOld : Held X u1 := hHeld
      clear hHeld
      refine wpAnyH_ready (rs := [5, 12]) (by kernel_rfl) (by simp) ?_
      refine AllReadyH.cons (o := { dst := some 40, op := Op.call { callee := Callee.value (Operand.func 27), args := #[Operand.tmp 39], argTypes := #[3] }, type := 9, pos := "base.go:590", after := #[{ on := 4, ground := Ground.data }, { on := 2, ground := Ground.chain }], guard := none }) rfl (fun K hK => ?_) ?_
      · go_simp; go_at_call 27; refine (NM.out _).mono ?_; rintro e u2 ⟨rfl, hb2⟩
        refine hK.out _ _ ?_ (fun hHeld => ?_)
        · exact Held.step hOld hb2
        clear hK K
        (try simp only [Act.put, List.setIfInBounds_toArray, List.set_cons_zero, List.set_cons_succ])
        clear hOld hb2
        refine wpAnyH_take (i := 6) (oi := { dst := some 41, op := Op.binOp BinOp.add 9 (Operand.tmp 37) (Operand.tmp 40) 9, type := 9, pos := "base.go:590", after := #[{ on := 2, ground := Ground.data }, { on := 5, ground := Ground.data }], guard := none }) (v := .string (s1 ++ s2)) rfl (by kernel_rfl) (by kernel_rfl) (by kernel_rfl) (fun _ _ _ h => h) (Or.inl ⟨by rfl, fun w' hSw => by ((try dsimp only at hSw); go_simp)⟩) (by assumption) ?_
        (try simp only [Act.put, List.setIfInBounds_toArray, List.set_cons_zero, List.set_cons_succ])
        have hOld : Held X u2 := hHeld
        clear hHeld
        refine wpAnyH_ready (rs := [12]) (by kernel_rfl) (by simp) ?_
        refine AllReadyH.cons (o := { dst := some 47, op := Op.buildSlice 64 2 #[(0, Operand.tmp 42), (1, Operand.tmp 46)], type := 64, pos := "base.go:590", after := #[{ on := 7, ground := Ground.data }, { on := 11, ground := Ground.data }], guard := none }) rfl (fun K hK => ?_) ?_
        · go_simp
          refine hK.out _ _ ?_ (fun hHeld => ?_)
          · exact Held.step hOld ((Below.refl _ _).alloc (Nat.le_refl _) _)
          clear hK K
          (try simp only [Act.put, List.setIfInBounds_toArray, List.set_cons_zero, List.set_cons_succ])
          have HQ : Below (u2.alloc (.cells #[.int .u8 2, .int .u8 ((lenX x.pl.length).toNat : Int)] 5)).heap.size (u2.alloc (.cells #[.int .u8 2, .int .u8 ((lenX x.pl.length).toNat : Int)] 5)) (u2.alloc (.cells #[.int .u8 2, .int .u8 ((lenX x.pl.length).toNat : Int)] 5)) := Below.refl _ _
          clear hOld
          have hOld : Held X (u2.alloc (.cells #[.int .u8 2, .int .u8 ((lenX x.pl.length).toNat : Int)] 5)) := hHeld
          clear hHeld
          have hk : (convert 64 9 (.slice (some ⟨u2.heap.size, 0, none⟩) 2 2)).run Tryz.prog (u2.alloc (.cells #[.int .u8 2, .int .u8 ((lenX x.pl.length).toNat : Int)] 5)) = .ok (.string s3) (u2.alloc (.cells #[.int .u8 2, .int .u8 ((lenX x.pl.length).toNat : Int)] 5)) := HCK.out _ _ HQ
          refine wpAnyH_ready (rs := [13]) (by kernel_rfl) (by simp) ?_
          refine AllReadyH.cons (o := { dst := some 48, op := Op.convert 64 9 (Operand.tmp 47), type := 9, pos := "base.go:590", after := #[{ on := 12, ground := Ground.data }], guard := none }) rfl (fun K hK => ?_) ?_
          · go_simp
            refine hK.out _ _ ?_ (fun hHeld => ?_)
            · exact hOld
            clear hK K
            (try simp only [Act.put, List.setIfInBounds_toArray, List.set_cons_zero, List.set_cons_succ])
            clear hOld hk HQ
            have hOld : Held X (u2.alloc (.cells #[.int .u8 2, .int .u8 ((lenX x.pl.length).toNat : Int)] 5)) := hHeld
            clear hHeld
            refine wpAnyH_take (i := 14) (oi := { dst := some 49, op := Op.binOp BinOp.add 9 (Operand.tmp 41) (Operand.tmp 48) 9, type := 9, pos := "base.go:590", after := #[{ on := 6, ground := Ground.data }, { on := 13, ground := Ground.data }], guard := none }) (v := .string (s1 ++ s2 ++ s3)) rfl (by kernel_rfl) (by kernel_rfl) (by kernel_rfl) (fun _ _ _ h => h) (Or.inl ⟨by rfl, fun w' hSw => by ((try dsimp only at hSw); go_simp)⟩) (by assumption) ?_
            (try simp only [Act.put, List.setIfInBounds_toArray, List.set_cons_zero, List.set_cons_succ])
            refine wpAnyH_take (i := 17) (oi := { dst := some 52, op := Op.binOp BinOp.add 9 (Operand.tmp 49) (Operand.tmp 51) 9, type := 9, pos := "base.go:590", after := #[{ on := 14, ground := Ground.data }, { on := 16, ground := Ground.data }], guard := none }) (v := .string (s1 ++ s2 ++ s3 ++ sp)) rfl (by kernel_rfl) (by kernel_rfl) (by kernel_rfl) (fun _ _ _ h => h) (Or.inl ⟨by rfl, fun w' hSw => by ((try dsimp only at hSw); go_simp)⟩) (by assumption) ?_
            (try simp only [Act.put, List.setIfInBounds_toArray, List.set_cons_zero, List.set_cons_succ])
            refine wpAnyH_take (i := 18) (oi := { dst := some 5, op := Op.assign (Operand.tmp 52), type := 9, pos := "base.go:590", after := #[{ on := 17, ground := Ground.data }, { on := 5, ground := Ground.chain }, { on := 0, ground := Ground.phase }, { on := 1, ground := Ground.phase }, { on := 2, ground := Ground.phase }, { on := 3, ground := Ground.phase }, { on := 4, ground := Ground.phase }, { on := 5, ground := Ground.phase }, { on := 6, ground := Ground.phase }, { on := 7, ground := Ground.phase }, { on := 8, ground := Ground.phase }, { on := 9, ground := Ground.phase }, { on := 10, ground := Ground.phase }, { on := 11, ground := Ground.phase }, { on := 12, ground := Ground.phase }, { on := 13, ground := Ground.phase }, { on := 14, ground := Ground.phase }, { on := 15, ground := Ground.phase }, { on := 16, ground := Ground.phase }, { on := 17, ground := Ground.phase }], guard := none }) (v := .string (s1 ++ s2 ++ s3 ++ sp)) rfl (by kernel_rfl) (by kernel_rfl) (by kernel_rfl) (fun _ _ _ h => h) (Or.inl ⟨by rfl, fun w' hSw => by ((try dsimp only at hSw); go_simp)⟩) (by assumption) ?_
            (try simp only [Act.put, List.setIfInBounds_toArray, List.set_cons_zero, List.set_cons_succ])
            refine wpAnyH_done (by kernel_rfl) ?_ _
            refine NoPanic.normal ?_
            have HH := Lib.hid (HB.out.trans (Below.mono hOld (Below.size HB.out)))
            clear hOld
            go_wp2_with fail
            go_meet
            exact ⟨rfl, HH.out⟩
          exact AllReadyH.nil
        exact AllReadyH.nil
      refine AllReadyH.cons (o := { dst := some 47, op := Op.buildSlice 64 2 #[(0, Operand.tmp 42), (1, Operand.tmp 46)], type := 64, pos := "base.go:590", after := #[{ on := 7, ground := Ground.data }, { on := 11, ground := Ground.data }], guard := none }) rfl (fun K hK => ?_) ?_
      · go_simp
        refine hK.out _ _ ?_ (fun hHeld => ?_)
        · exact Held.step hOld ((Below.refl _ _).alloc (Nat.le_refl _) _)
        clear hK K
        (try simp only [Act.put, List.setIfInBounds_toArray, List.set_cons_zero, List.set_cons_succ])
        have HQ : Below (u1.alloc (.cells #[.int .u8 2, .int .u8 ((lenX x.pl.length).toNat : Int)] 5)).heap.size (u1.alloc (.cells #[.int .u8 2, .int .u8 ((lenX x.pl.length).toNat : Int)] 5)) (u1.alloc (.cells #[.int .u8 2, .int .u8 ((lenX x.pl.length).toNat : Int)] 5)) := Below.refl _ _
        clear hOld
        have hOld : Held X (u1.alloc (.cells #[.int .u8 2, .int .u8 ((lenX x.pl.length).toNat : Int)] 5)) := hHeld
        clear hHeld
        have hk : (convert 64 9 (.slice (some ⟨u1.heap.size, 0, none⟩) 2 2)).run Tryz.prog (u1.alloc (.cells #[.int .u8 2, .int .u8 ((lenX x.pl.length).toNat : Int)] 5)) = .ok (.string s3) (u1.alloc (.cells #[.int .u8 2, .int .u8 ((lenX x.pl.length).toNat : Int)] 5)) := HCK.out _ _ HQ
        refine wpAnyH_ready (rs := [5, 13]) (by kernel_rfl) (by simp) ?_
        refine AllReadyH.cons (o := { dst := some 40, op := Op.call { callee := Callee.value (Operand.func 27), args := #[Operand.tmp 39], argTypes := #[3] }, type := 9, pos := "base.go:590", after := #[{ on := 4, ground := Ground.data }, { on := 2, ground := Ground.chain }], guard := none }) rfl (fun K hK => ?_) ?_
        · go_simp; go_at_call 27; refine (NM.out _).mono ?_; rintro e u2 ⟨rfl, hb2⟩
          refine hK.out _ _ ?_ (fun hHeld => ?_)
          · exact Held.step hOld hb2
          clear hK K
          (try simp only [Act.put, List.setIfInBounds_toArray, List.set_cons_zero, List.set_cons_succ])
          replace HQ : Below (u1.alloc (.cells #[.int .u8 2, .int .u8 ((lenX x.pl.length).toNat : Int)] 5)).heap.size (u1.alloc (.cells #[.int .u8 2, .int .u8 ((lenX x.pl.length).toNat : Int)] 5)) u2 := HQ.trans (hb2.mono HQ.size)
          clear hOld hb2
          refine wpAnyH_take (i := 6) (oi := { dst := some 41, op := Op.binOp BinOp.add 9 (Operand.tmp 37) (Operand.tmp 40) 9, type := 9, pos := "base.go:590", after := #[{ on := 2, ground := Ground.data }, { on := 5, ground := Ground.data }], guard := none }) (v := .string (s1 ++ s2)) rfl (by kernel_rfl) (by kernel_rfl) (by kernel_rfl) (fun _ _ _ h => h) (Or.inl ⟨by rfl, fun w' hSw => by ((try dsimp only at hSw); go_simp)⟩) (by assumption) ?_
          (try simp only [Act.put, List.setIfInBounds_toArray, List.set_cons_zero, List.set_cons_succ])
          have hOld : Held X u2 := hHeld
          clear hHeld
          have hk : (convert 64 9 (.slice (some ⟨u1.heap.size, 0, none⟩) 2 2)).run Tryz.prog u2 = .ok (.string s3) u2 := HCK.out _ _ HQ
          refine wpAnyH_ready (rs := [13]) (by kernel_rfl) (by simp) ?_
          refine AllReadyH.cons (o := { dst := some 48, op := Op.convert 64 9 (Operand.tmp 47), type := 9, pos := "base.go:590", after := #[{ on := 12, ground := Ground.data }], guard := none }) rfl (fun K hK => ?_) ?_
          · go_simp
            refine hK.out _ _ ?_ (fun hHeld => ?_)
            · exact hOld
            clear hK K
            (try simp only [Act.put, List.setIfInBounds_toArray, List.set_cons_zero, List.set_cons_succ])
            clear hOld hk HQ
            have hOld : Held X u2 := hHeld
            clear hHeld
            refine wpAnyH_take (i := 14) (oi := { dst := some 49, op := Op.binOp BinOp.add 9 (Operand.tmp 41) (Operand.tmp 48) 9, type := 9, pos := "base.go:590", after := #[{ on := 6, ground := Ground.data }, { on := 13, ground := Ground.data }], guard := none }) (v := .string (s1 ++ s2 ++ s3)) rfl (by kernel_rfl) (by kernel_rfl) (by kernel_rfl) (fun _ _ _ h => h) (Or.inl ⟨by rfl, fun w' hSw => by ((try dsimp only at hSw); go_simp)⟩) (by assumption) ?_
            (try simp only [Act.put, List.setIfInBounds_toArray, List.set_cons_zero, List.set_cons_succ])
            refine wpAnyH_take (i := 17) (oi := { dst := some 52, op := Op.binOp BinOp.add 9 (Operand.tmp 49) (Operand.tmp 51) 9, type := 9, pos := "base.go:590", after := #[{ on := 14, ground := Ground.data }, { on := 16, ground := Ground.data }], guard := none }) (v := .string (s1 ++ s2 ++ s3 ++ sp)) rfl (by kernel_rfl) (by kernel_rfl) (by kernel_rfl) (fun _ _ _ h => h) (Or.inl ⟨by rfl, fun w' hSw => by ((try dsimp only at hSw); go_simp)⟩) (by assumption) ?_
            (try simp only [Act.put, List.setIfInBounds_toArray, List.set_cons_zero, List.set_cons_succ])
            refine wpAnyH_take (i := 18) (oi := { dst := some 5, op := Op.assign (Operand.tmp 52), type := 9, pos := "base.go:590", after := #[{ on := 17, ground := Ground.data }, { on := 5, ground := Ground.chain }, { on := 0, ground := Ground.phase }, { on := 1, ground := Ground.phase }, { on := 2, ground := Ground.phase }, { on := 3, ground := Ground.phase }, { on := 4, ground := Ground.phase }, { on := 5, ground := Ground.phase }, { on := 6, ground := Ground.phase }, { on := 7, ground := Ground.phase }, { on := 8, ground := Ground.phase }, { on := 9, ground := Ground.phase }, { on := 10, ground := Ground.phase }, { on := 11, ground := Ground.phase }, { on := 12, ground := Ground.phase }, { on := 13, ground := Ground.phase }, { on := 14, ground := Ground.phase }, { on := 15, ground := Ground.phase }, { on := 16, ground := Ground.phase }, { on := 17, ground := Ground.phase }], guard := none }) (v := .string (s1 ++ s2 ++ s3 ++ sp)) rfl (by kernel_rfl) (by kernel_rfl) (by kernel_rfl) (fun _ _ _ h => h) (Or.inl ⟨by rfl, fun w' hSw => by ((try dsimp only at hSw); go_simp)⟩) (by assumption) ?_
            (try simp only [Act.put, List.setIfInBounds_toArray, List.set_cons_zero, List.set_cons_succ])
            refine wpAnyH_done (by kernel_rfl) ?_ _
            refine NoPanic.normal ?_
            have HH := Lib.hid (HB.out.trans (Below.mono hOld (Below.size HB.out)))
            clear hOld
            go_wp2_with fail
            go_meet
            exact ⟨rfl, HH.out⟩
          exact AllReadyH.nil
        refine AllReadyH.cons (o := { dst := some 48, op := Op.convert 64 9 (Operand.tmp 47), type := 9, pos := "base.go:590", after := #[{ on := 12, ground := Ground.data }], guard := none }) rfl (fun K hK => ?_) ?_
        · go_simp
          refine hK.out _ _ ?_ (fun hHeld => ?_)
          · exact hOld
          clear hK K
          (try simp only [Act.put, List.setIfInBounds_toArray, List.set_cons_zero, List.set_cons_succ])
          clear hOld hk HQ
          have hOld : Held X (u1.alloc (.cells #[.int .u8 2, .int .u8 ((lenX x.pl.length).toNat : Int)] 5)) := hHeld
          clear hHeld
          refine wpAnyH_ready (rs := [5]) (by kernel_rfl) (by simp) ?_
          refine AllReadyH.cons (o := { dst := some 40, op := Op.call { callee := Callee.value (Operand.func 27), args := #[Operand.tmp 39], argTypes := #[3] }, type := 9, pos := "base.go:590", after := #[{ on := 4, ground := Ground.data }, { on := 2, ground := Ground.chain }], guard := none }) rfl (fun K hK => ?_) ?_
          · go_simp; go_at_call 27; refine (NM.out _).mono ?_; rintro e u2 ⟨rfl, hb2⟩
            refine hK.out _ _ ?_ (fun hHeld => ?_)
            · exact Held.step hOld hb2
            clear hK K
            (try simp only [Act.put, List.setIfInBounds_toArray, List.set_cons_zero, List.set_cons_succ])
            clear hOld hb2
            refine wpAnyH_take (i := 6) (oi := { dst := some 41, op := Op.binOp BinOp.add 9 (Operand.tmp 37) (Operand.tmp 40) 9, type := 9, pos := "base.go:590", after := #[{ on := 2, ground := Ground.data }, { on := 5, ground := Ground.data }], guard := none }) (v := .string (s1 ++ s2)) rfl (by kernel_rfl) (by kernel_rfl) (by kernel_rfl) (fun _ _ _ h => h) (Or.inl ⟨by rfl, fun w' hSw => by ((try dsimp only at hSw); go_simp)⟩) (by assumption) ?_
            (try simp only [Act.put, List.setIfInBounds_toArray, List.set_cons_zero, List.set_cons_succ])
            have hOld : Held X u2 := hHeld
            clear hHeld
            refine wpAnyH_take (i := 14) (oi := { dst := some 49, op := Op.binOp BinOp.add 9 (Operand.tmp 41) (Operand.tmp 48) 9, type := 9, pos := "base.go:590", after := #[{ on := 6, ground := Ground.data }, { on := 13, ground := Ground.data }], guard := none }) (v := .string (s1 ++ s2 ++ s3)) rfl (by kernel_rfl) (by kernel_rfl) (by kernel_rfl) (fun _ _ _ h => h) (Or.inl ⟨by rfl, fun w' hSw => by ((try dsimp only at hSw); go_simp)⟩) (by assumption) ?_
            (try simp only [Act.put, List.setIfInBounds_toArray, List.set_cons_zero, List.set_cons_succ])
            refine wpAnyH_take (i := 17) (oi := { dst := some 52, op := Op.binOp BinOp.add 9 (Operand.tmp 49) (Operand.tmp 51) 9, type := 9, pos := "base.go:590", after := #[{ on := 14, ground := Ground.data }, { on := 16, ground := Ground.data }], guard := none }) (v := .string (s1 ++ s2 ++ s3 ++ sp)) rfl (by kernel_rfl) (by kernel_rfl) (by kernel_rfl) (fun _ _ _ h => h) (Or.inl ⟨by rfl, fun w' hSw => by ((try dsimp only at hSw); go_simp)⟩) (by assumption) ?_
            (try simp only [Act.put, List.setIfInBounds_toArray, List.set_cons_zero, List.set_cons_succ])
            refine wpAnyH_take (i := 18) (oi := { dst := some 5, op := Op.assign (Operand.tmp 52), type := 9, pos := "base.go:590", after := #[{ on := 17, ground := Ground.data }, { on := 5, ground := Ground.chain }, { on := 0, ground := Ground.phase }, { on := 1, ground := Ground.phase }, { on := 2, ground := Ground.phase }, { on := 3, ground := Ground.phase }, { on := 4, ground := Ground.phase }, { on := 5, ground := Ground.phase }, { on := 6, ground := Ground.phase }, { on := 7, ground := Ground.phase }, { on := 8, ground := Ground.phase }, { on := 9, ground := Ground.phase }, { on := 10, ground := Ground.phase }, { on := 11, ground := Ground.phase }, { on := 12, ground := Ground.phase }, { on := 13, ground := Ground.phase }, { on := 14, ground := Ground.phase }, { on := 15, ground := Ground.phase }, { on := 16, ground := Ground.phase }, { on := 17, ground := Ground.phase }], guard := none }) (v := .string (s1 ++ s2 ++ s3 ++ sp)) rfl (by kernel_rfl) (by kernel_rfl) (by kernel_rfl) (fun _ _ _ h => h) (Or.inl ⟨by rfl, fun w' hSw => by ((try dsimp only at hSw); go_simp)⟩) (by assumption) ?_
            (try simp only [Act.put, List.setIfInBounds_toArray, List.set_cons_zero, List.set_cons_succ])
            refine wpAnyH_done (by kernel_rfl) ?_ _
            refine NoPanic.normal ?_
            have HH := Lib.hid (HB.out.trans (Below.mono hOld (Below.size HB.out)))
            clear hOld
            go_wp2_with fail
            go_meet
            exact ⟨rfl, HH.out⟩
          exact AllReadyH.nil
        exact AllReadyH.nil
      exact AllReadyH.nil
    refine AllReadyH.cons (o := { dst := some 47, op := Op.buildSlice 64 2 #[(0, Operand.tmp 42), (1, Operand.tmp 46)], type := 64, pos := "base.go:590", after := #[{ on := 7, ground := Ground.data }, { on := 11, ground := Ground.data }], guard := none }) rfl (fun K hK => ?_) ?_
    · go_simp
      refine hK.out _ _ ?_ (fun hHeld => ?_)
      · exact Held.step hOld ((Below.refl _ _).alloc (Nat.le_refl _) _)
      clear hK K
      (try simp only [Act.put, List.setIfInBounds_toArray, List.set_cons_zero, List.set_cons_succ])
      have HQ : Below (X.alloc (.cells #[.int .u8 2, .int .u8 ((lenX x.pl.length).toNat : Int)] 5)).heap.size (X.alloc (.cells #[.int .u8 2, .int .u8 ((lenX x.pl.length).toNat : Int)] 5)) (X.alloc (.cells #[.int .u8 2, .int .u8 ((lenX x.pl.length).toNat : Int)] 5)).drew := (Below.refl _ _).drew
      clear hOld
      have hOld : Held X (X.alloc (.cells #[.int .u8 2, .int .u8 ((lenX x.pl.length).toNat : Int)] 5)).drew := hHeld
      clear hHeld
      have hk : (convert 64 9 (.slice (some ⟨X.heap.size, 0, none⟩) 2 2)).run Tryz.prog (X.alloc (.cells #[.int .u8 2, .int .u8 ((lenX x.pl.length).toNat : Int)] 5)).drew = .ok (.string s3) (X.alloc (.cells #[.int .u8 2, .int .u8 ((lenX x.pl.length).toNat : Int)] 5)).drew := HCK.out _ _ HQ
      refine wpAnyH_ready (rs := [2, 13]) (by kernel_rfl) (by simp) ?_
      refine AllReadyH.cons (o := { dst := some 37, op := Op.call { callee := Callee.value (Operand.func 26), args := #[Operand.tmp 36], argTypes := #[3] }, type := 9, pos := "base.go:590", after := #[{ on := 1, ground := Ground.data }], guard := none }) rfl (fun K hK => ?_) ?_
      · go_simp; go_at_call 26; refine (LG.out _).mono ?_; rintro e u1 ⟨rfl, hb1⟩
        refine hK.out _ _ ?_ (fun hHeld => ?_)
        · exact Held.step hOld hb1
        clear hK K
        (try simp only [Act.put, List.setIfInBounds_toArray, List.set_cons_zero, List.set_cons_succ])
        replace HQ : Below (X.alloc (.cells #[.int .u8 2, .int .u8 ((lenX x.pl.length).toNat : Int)] 5)).heap.size (X.alloc (.cells #[.int .u8 2, .int .u8 ((lenX x.pl.length).toNat : Int)] 5)) u1 := HQ.trans (hb1.mono HQ.size)
        clear hOld hb1
        have hOld : Held X u1 := hHeld
        clear hHeld
        have hk : (convert 64 9 (.slice (some ⟨X.heap.size, 0, none⟩) 2 2)).run Tryz.prog u1 = .ok (.string s3) u1 := HCK.out _ _ HQ
        refine wpAnyH_ready (rs := [5, 13]) (by kernel_rfl) (by simp) ?_
        refine AllReadyH.cons (o := { dst := some 40, op := Op.call { callee := Callee.value (Operand.func 27), args := #[Operand.tmp 39], argTypes := #[3] }, type := 9, pos := "base.go:590", after := #[{ on := 4, ground := Ground.data }, { on := 2, ground := Ground.chain }], guard := none }) rfl (fun K hK => ?_) ?_
        · go_simp; go_at_call 27; refine (NM.out _).mono ?_; rintro e u2 ⟨rfl, hb2⟩
          refine hK.out _ _ ?_ (fun hHeld => ?_)
          · exact Held.step hOld hb2
          clear hK K
          (try simp only [Act.put, List.setIfInBounds_toArray, List.set_cons_zero, List.set_cons_succ])
          replace HQ : Below (X.alloc (.cells #[.int .u8 2, .int .u8 ((lenX x.pl.length).toNat : Int)] 5)).heap.size (X.alloc (.cells #[.int .u8 2, .int .u8 ((lenX x.pl.length).toNat : Int)] 5)) u2 := HQ.trans (hb2.mono HQ.size)
          clear hOld hb2
          refine wpAnyH_take (i := 6) (oi := { dst := some 41, op := Op.binOp BinOp.add 9 (Operand.tmp 37) (Operand.tmp 40) 9, type := 9, pos := "base.go:590", after := #[{ on := 2, ground := Ground.data }, { on := 5, ground := Ground.data }], guard := none }) (v := .string (s1 ++ s2)) rfl (by kernel_rfl) (by kernel_rfl) (by kernel_rfl) (fun _ _ _ h => h) (Or.inl ⟨by rfl, fun w' hSw => by ((try dsimp only at hSw); go_simp)⟩) (by assumption) ?_
          (try simp only [Act.put, List.setIfInBounds_toArray, List.set_cons_zero, List.set_cons_succ])
          have hOld : Held X u2 := hHeld
          clear hHeld
          have hk : (convert 64 9 (.slice (some ⟨X.heap.size, 0, none⟩) 2 2)).run Tryz.prog u2 = .ok (.string s3) u2 := HCK.out _ _ HQ
          refine wpAnyH_ready (rs := [13]) (by kernel_rfl) (by simp) ?_
          refine AllReadyH.cons (o := { dst := some 48, op := Op.convert 64 9 (Operand.tmp 47), type := 9, pos := "base.go:590", after := #[{ on := 12, ground := Ground.data }], guard := none }) rfl (fun K hK => ?_) ?_
          · go_simp
            refine hK.out _ _ ?_ (fun hHeld => ?_)
            · exact hOld
            clear hK K
            (try simp only [Act.put, List.setIfInBounds_toArray, List.set_cons_zero, List.set_cons_succ])
            clear hOld hk HQ
            have hOld : Held X u2 := hHeld
            clear hHeld
            refine wpAnyH_take (i := 14) (oi := { dst := some 49, op := Op.binOp BinOp.add 9 (Operand.tmp 41) (Operand.tmp 48) 9, type := 9, pos := "base.go:590", after := #[{ on := 6, ground := Ground.data }, { on := 13, ground := Ground.data }], guard := none }) (v := .string (s1 ++ s2 ++ s3)) rfl (by kernel_rfl) (by kernel_rfl) (by kernel_rfl) (fun _ _ _ h => h) (Or.inl ⟨by rfl, fun w' hSw => by ((try dsimp only at hSw); go_simp)⟩) (by assumption) ?_
            (try simp only [Act.put, List.setIfInBounds_toArray, List.set_cons_zero, List.set_cons_succ])
            refine wpAnyH_take (i := 17) (oi := { dst := some 52, op := Op.binOp BinOp.add 9 (Operand.tmp 49) (Operand.tmp 51) 9, type := 9, pos := "base.go:590", after := #[{ on := 14, ground := Ground.data }, { on := 16, ground := Ground.data }], guard := none }) (v := .string (s1 ++ s2 ++ s3 ++ sp)) rfl (by kernel_rfl) (by kernel_rfl) (by kernel_rfl) (fun _ _ _ h => h) (Or.inl ⟨by rfl, fun w' hSw => by ((try dsimp only at hSw); go_simp)⟩) (by assumption) ?_
            (try simp only [Act.put, List.setIfInBounds_toArray, List.set_cons_zero, List.set_cons_succ])
            refine wpAnyH_take (i := 18) (oi := { dst := some 5, op := Op.assign (Operand.tmp 52), type := 9, pos := "base.go:590", after := #[{ on := 17, ground := Ground.data }, { on := 5, ground := Ground.chain }, { on := 0, ground := Ground.phase }, { on := 1, ground := Ground.phase }, { on := 2, ground := Ground.phase }, { on := 3, ground := Ground.phase }, { on := 4, ground := Ground.phase }, { on := 5, ground := Ground.phase }, { on := 6, ground := Ground.phase }, { on := 7, ground := Ground.phase }, { on := 8, ground := Ground.phase }, { on := 9, ground := Ground.phase }, { on := 10, ground := Ground.phase }, { on := 11, ground := Ground.phase }, { on := 12, ground := Ground.phase }, { on := 13, ground := Ground.phase }, { on := 14, ground := Ground.phase }, { on := 15, ground := Ground.phase }, { on := 16, ground := Ground.phase }, { on := 17, ground := Ground.phase }], guard := none }) (v := .string (s1 ++ s2 ++ s3 ++ sp)) rfl (by kernel_rfl) (by kernel_rfl) (by kernel_rfl) (fun _ _ _ h => h) (Or.inl ⟨by rfl, fun w' hSw => by ((try dsimp only at hSw); go_simp)⟩) (by assumption) ?_
            (try simp only [Act.put, List.setIfInBounds_toArray, List.set_cons_zero, List.set_cons_succ])
            refine wpAnyH_done (by kernel_rfl) ?_ _
            refine NoPanic.normal ?_
            have HH := Lib.hid (HB.out.trans (Below.mono hOld (Below.size HB.out)))
            clear hOld
            go_wp2_with fail
            go_meet
            exact ⟨rfl, HH.out⟩
          exact AllReadyH.nil
        refine AllReadyH.cons (o := { dst := some 48, op := Op.convert 64 9 (Operand.tmp 47), type := 9, pos := "base.go:590", after := #[{ on := 12, ground := Ground.data }], guard := none }) rfl (fun K hK => ?_) ?_
        · go_simp
          refine hK.out _ _ ?_ (fun hHeld => ?_)
          · exact hOld
          clear hK K
          (try simp only [Act.put, List.setIfInBounds_toArray, List.set_cons_zero, List.set_cons_succ])
          clear hOld hk HQ
          have hOld : Held X u1 := hHeld
          clear hHeld
          refine wpAnyH_ready (rs := [5]) (by kernel_rfl) (by simp) ?_
          refine AllReadyH.cons (o := { dst := some 40, op := Op.call { callee := Callee.value (Operand.func 27), args := #[Operand.tmp 39], argTypes := #[3] }, type := 9, pos := "base.go:590", after := #[{ on := 4, ground := Ground.data }, { on := 2, ground := Ground.chain }], guard := none }) rfl (fun K hK => ?_) ?_
          · go_simp; go_at_call 27; refine (NM.out _).mono ?_; rintro e u2 ⟨rfl, hb2⟩
            refine hK.out _ _ ?_ (fun hHeld => ?_)
            · exact Held.step hOld hb2
            clear hK K
            (try simp only [Act.put, List.setIfInBounds_toArray, List.set_cons_zero, List.set_cons_succ])
            clear hOld hb2
            refine wpAnyH_take (i := 6) (oi := { dst := some 41, op := Op.binOp BinOp.add 9 (Operand.tmp 37) (Operand.tmp 40) 9, type := 9, pos := "base.go:590", after := #[{ on := 2, ground := Ground.data }, { on := 5, ground := Ground.data }], guard := none }) (v := .string (s1 ++ s2)) rfl (by kernel_rfl) (by kernel_rfl) (by kernel_rfl) (fun _ _ _ h => h) (Or.inl ⟨by rfl, fun w' hSw => by ((try dsimp only at hSw); go_simp)⟩) (by assumption) ?_
            (try simp only [Act.put, List.setIfInBounds_toArray, List.set_cons_zero, List.set_cons_succ])
            have hOld : Held X u2 := hHeld
            clear hHeld
            refine wpAnyH_take (i := 14) (oi := { dst := some 49, op := Op.binOp BinOp.add 9 (Operand.tmp 41) (Operand.tmp 48) 9, type := 9, pos := "base.go:590", after := #[{ on := 6, ground := Ground.data }, { on := 13, ground := Ground.data }], guard := none }) (v := .string (s1 ++ s2 ++ s3)) rfl (by kernel_rfl) (by kernel_rfl) (by kernel_rfl) (fun _ _ _ h => h) (Or.inl ⟨by rfl, fun w' hSw => by ((try dsimp only at hSw); go_simp)⟩) (by assumption) ?_
            (try simp only [Act.put, List.setIfInBounds_toArray, List.set_cons_zero, List.set_cons_succ])
            refine wpAnyH_take (i := 17) (oi := { dst := some 52, op := Op.binOp BinOp.add 9 (Operand.tmp 49) (Operand.tmp 51) 9, type := 9, pos := "base.go:590", after := #[{ on := 14, ground := Ground.data }, { on := 16, ground := Ground.data }], guard := none }) (v := .string (s1 ++ s2 ++ s3 ++ sp)) rfl (by kernel_rfl) (by kernel_rfl) (by kernel_rfl) (fun _ _ _ h => h) (Or.inl ⟨by rfl, fun w' hSw => by ((try dsimp only at hSw); go_simp)⟩) (by assumption) ?_
            (try simp only [Act.put, List.setIfInBounds_toArray, List.set_cons_zero, List.set_cons_succ])
            refine wpAnyH_take (i := 18) (oi := { dst := some 5, op := Op.assign (Operand.tmp 52), type := 9, pos := "base.go:590", after := #[{ on := 17, ground := Ground.data }, { on := 5, ground := Ground.chain }, { on := 0, ground := Ground.phase }, { on := 1, ground := Ground.phase }, { on := 2, ground := Ground.phase }, { on := 3, ground := Ground.phase }, { on := 4, ground := Ground.phase }, { on := 5, ground := Ground.phase }, { on := 6, ground := Ground.phase }, { on := 7, ground := Ground.phase }, { on := 8, ground := Ground.phase }, { on := 9, ground := Ground.phase }, { on := 10, ground := Ground.phase }, { on := 11, ground := Ground.phase }, { on := 12, ground := Ground.phase }, { on := 13, ground := Ground.phase }, { on := 14, ground := Ground.phase }, { on := 15, ground := Ground.phase }, { on := 16, ground := Ground.phase }, { on := 17, ground := Ground.phase }], guard := none }) (v := .string (s1 ++ s2 ++ s3 ++ sp)) rfl (by kernel_rfl) (by kernel_rfl) (by kernel_rfl) (fun _ _ _ h => h) (Or.inl ⟨by rfl, fun w' hSw => by ((try dsimp only at hSw); go_simp)⟩) (by assumption) ?_
            (try simp only [Act.put, List.setIfInBounds_toArray, List.set_cons_zero, List.set_cons_succ])
            refine wpAnyH_done (by kernel_rfl) ?_ _
            refine NoPanic.normal ?_
            have HH := Lib.hid (HB.out.trans (Below.mono hOld (Below.size HB.out)))
            clear hOld
            go_wp2_with fail
            go_meet
            exact ⟨rfl, HH.out⟩
          exact AllReadyH.nil
        exact AllReadyH.nil
      refine AllReadyH.cons (o := { dst := some 48, op := Op.convert 64 9 (Operand.tmp 47), type := 9, pos := "base.go:590", after := #[{ on := 12, ground := Ground.data }], guard := none }) rfl (fun K hK => ?_) ?_
      · go_simp
        refine hK.out _ _ ?_ (fun hHeld => ?_)
        · exact hOld
        clear hK K
        (try simp only [Act.put, List.setIfInBounds_toArray, List.set_cons_zero, List.set_cons_succ])
        clear hOld hk HQ
        have hOld : Held X (X.alloc (.cells #[.int .u8 2, .int .u8 ((lenX x.pl.length).toNat : Int)] 5)).drew := hHeld
        clear hHeld
        refine wpAnyH_ready (rs := [2]) (by kernel_rfl) (by simp) ?_
        refine AllReadyH.cons (o := { dst := some 37, op := Op.call { callee := Callee.value (Operand.func 26), args := #[Operand.tmp 36], argTypes := #[3] }, type := 9, pos := "base.go:590", after := #[{ on := 1, ground := Ground.data }], guard := none }) rfl (fun K hK => ?_) ?_
        · go_simp; go_at_call 26; refine (LG.out _).mono ?_; rintro e u1 ⟨rfl, hb1⟩
          refine hK.out _ _ ?_ (fun hHeld => ?_)
          · exact Held.step hOld hb1
          clear hK K
          (try simp only [Act.put, List.setIfInBounds_toArray, List.set_cons_zero, List.set_cons_succ])
          clear hOld hb1
          have hOld : Held X u1 := hHeld
          clear hHeld
          refine wpAnyH_ready (rs := [5]) (by kernel_rfl) (by simp) ?_
          refine AllReadyH.cons (o := { dst := some 40, op := Op.call { callee := Callee.value (Operand.func 27), args := #[Operand.tmp 39], argTypes := #[3] }, type := 9, pos := "base.go:590", after := #[{ on := 4, ground := Ground.data }, { on := 2, ground := Ground.chain }], guard := none }) rfl (fun K hK => ?_) ?_
          · go_simp; go_at_call 27; refine (NM.out _).mono ?_; rintro e u2 ⟨rfl, hb2⟩
            refine hK.out _ _ ?_ (fun hHeld => ?_)
            · exact Held.step hOld hb2
            clear hK K
            (try simp only [Act.put, List.setIfInBounds_toArray, List.set_cons_zero, List.set_cons_succ])
            clear hOld hb2
            refine wpAnyH_take (i := 6) (oi := { dst := some 41, op := Op.binOp BinOp.add 9 (Operand.tmp 37) (Operand.tmp 40) 9, type := 9, pos := "base.go:590", after := #[{ on := 2, ground := Ground.data }, { on := 5, ground := Ground.data }], guard := none }) (v := .string (s1 ++ s2)) rfl (by kernel_rfl) (by kernel_rfl) (by kernel_rfl) (fun _ _ _ h => h) (Or.inl ⟨by rfl, fun w' hSw => by ((try dsimp only at hSw); go_simp)⟩) (by assumption) ?_
            (try simp only [Act.put, List.setIfInBounds_toArray, List.set_cons_zero, List.set_cons_succ])
            have hOld : Held X u2 := hHeld
            clear hHeld
            refine wpAnyH_take (i := 14) (oi := { dst := some 49, op := Op.binOp BinOp.add 9 (Operand.tmp 41) (Operand.tmp 48) 9, type := 9, pos := "base.go:590", after := #[{ on := 6, ground := Ground.data }, { on := 13, ground := Ground.data }], guard := none }) (v := .string (s1 ++ s2 ++ s3)) rfl (by kernel_rfl) (by kernel_rfl) (by kernel_rfl) (fun _ _ _ h => h) (Or.inl ⟨by rfl, fun w' hSw => by ((try dsimp only at hSw); go_simp)⟩) (by assumption) ?_
            (try simp only [Act.put, List.setIfInBounds_toArray, List.set_cons_zero, List.set_cons_succ])
            refine wpAnyH_take (i := 17) (oi := { dst := some 52, op := Op.binOp BinOp.add 9 (Operand.tmp 49) (Operand.tmp 51) 9, type := 9, pos := "base.go:590", after := #[{ on := 14, ground := Ground.data }, { on := 16, ground := Ground.data }], guard := none }) (v := .string (s1 ++ s2 ++ s3 ++ sp)) rfl (by kernel_rfl) (by kernel_rfl) (by kernel_rfl) (fun _ _ _ h => h) (Or.inl ⟨by rfl, fun w' hSw => by ((try dsimp only at hSw); go_simp)⟩) (by assumption) ?_
            (try simp only [Act.put, List.setIfInBounds_toArray, List.set_cons_zero, List.set_cons_succ])
            refine wpAnyH_take (i := 18) (oi := { dst := some 5, op := Op.assign (Operand.tmp 52), type := 9, pos := "base.go:590", after := #[{ on := 17, ground := Ground.data }, { on := 5, ground := Ground.chain }, { on := 0, ground := Ground.phase }, { on := 1, ground := Ground.phase }, { on := 2, ground := Ground.phase }, { on := 3, ground := Ground.phase }, { on := 4, ground := Ground.phase }, { on := 5, ground := Ground.phase }, { on := 6, ground := Ground.phase }, { on := 7, ground := Ground.phase }, { on := 8, ground := Ground.phase }, { on := 9, ground := Ground.phase }, { on := 10, ground := Ground.phase }, { on := 11, ground := Ground.phase }, { on := 12, ground := Ground.phase }, { on := 13, ground := Ground.phase }, { on := 14, ground := Ground.phase }, { on := 15, ground := Ground.phase }, { on := 16, ground := Ground.phase }, { on := 17, ground := Ground.phase }], guard := none }) (v := .string (s1 ++ s2 ++ s3 ++ sp)) rfl (by kernel_rfl) (by kernel_rfl) (by kernel_rfl) (fun _ _ _ h => h) (Or.inl ⟨by rfl, fun w' hSw => by ((try dsimp only at hSw); go_simp)⟩) (by assumption) ?_
            (try simp only [Act.put, List.setIfInBounds_toArray, List.set_cons_zero, List.set_cons_succ])
            refine wpAnyH_done (by kernel_rfl) ?_ _
            refine NoPanic.normal ?_
            have HH := Lib.hid (HB.out.trans (Below.mono hOld (Below.size HB.out)))
            clear hOld
            go_wp2_with fail
            go_meet
            exact ⟨rfl, HH.out⟩
          exact AllReadyH.nil
        exact AllReadyH.nil
      exact AllReadyH.nil
    exact AllReadyH.nil
  case rest =>
    obtain ⟨rfl, HH⟩ := hcut
    clear HB HX hc0 hc1 hc3 HCK LG NM
    have hsz : (s1 ++ s2 ++ s3 ++ sp).size = 8 + x.pl.length := by rw [ByteArray.size_append, ByteArray.size_append, ByteArray.size_append]; omega
    have HSZ := Lib.hid hsz
    generalize s1 ++ s2 ++ s3 ++ sp = sh at *
    have n1 : ¬ 9223372036854775807 < sh.size + sz.size := by omega
    have n2 : IntKind.i64.wrap ((64 : Int) - (sh.size : Int)) = ((56 - x.pl.length : Nat) : Int) := by
      rw [show (64 : Int) - (sh.size : Int) = ((56 - x.pl.length : Nat) : Int) from by omega]
      exact IntWalk.i64_in _ (by omega)
    clear hsz
    generalize 56 - x.pl.length = n at *
    go_wp2_with fail
    refine (ZE.out _).mono ?_; rintro e u ⟨rfl, hb⟩
    have H2 := Lib.hid (HH.out.trans (hb.mono HH.out.size))
    clear hb
    go_wp2_with fail
    rw [HES.out]
    go_ret2
    exact HP.out _ H2.out
set_option maxHeartbeats 4000000 in
theorem rput_okfalse (x : Sx) (hfr : x.fr = false) (h : okX x = true) (w : World) : Calls Tryz.prog 7 #[sv x] w fun e w' => PutP x w e w' := by
  obtain ⟨k1, k2, k3, k4, k5, k6⟩ := okX_iff.1 h
  have HP := Lib.hid (show ∀ w', Below w.heap.size w w' → PutP x w (.returned (.tuple #[.string (str (encX x)), .bool true])) w' from fun w' hb => by
    unfold PutP; rw [h, putX_yes h]; exact ⟨rfl, hb⟩)
  have F4 := Lib.hid (rfour_is x.ep)
  have F2 := Lib.hid (rtwo_is x.ix)
  rw [show four x.ep = true from decide_eq_true ⟨by omega, k2⟩] at F4
  rw [show two x.ix = true from decide_eq_true ⟨k3, k4⟩] at F2
  have LG := Lib.hid (rlong_is x.ep ⟨by omega, k2⟩)
  have NM := Lib.hid (rnum_is x.ix ⟨k3, k4⟩)
  have ZE := Lib.hid (rzeros_is (56 - x.pl.length) (by omega))
  have HCK := Lib.hid (fun (W u : World) (hb : Below (W.alloc (.cells #[.int .u8 1, .int .u8 ((lenX x.pl.length).toNat : Int)] 5)).heap.size (W.alloc (.cells #[.int .u8 1, .int .u8 ((lenX x.pl.length).toNat : Int)] 5)) u) => flag_kept W u false x.pl.length hb)
  have HE := Lib.hid (show str (w4 x.ep) ++ str (w2 x.ix) ++ str [flagX false, lenX x.pl.length] ++ str x.pl ++ str (zs (56 - x.pl.length)) = str (encX x) by
    unfold encX padX headX
    rw [hfr, str_app, str_app, str_app, str_app]
    simp only [List.append_assoc]
    rfl)
  have a7 : IntKind.u8.wrap (x.pl.length : Int) = ((lenX x.pl.length).toNat : Int) := by
    rw [u8_byte (by omega)]
    unfold byte lenX
    rw [Int.toNat_natCast]
  have hlen : (str x.pl).size = x.pl.length := rfl
  have qa : (str (w4 x.ep)).size = 4 := rfl
  have qb : (str (w2 x.ix)).size = 2 := rfl
  have qc : (str [flagX false, lenX x.pl.length]).size = 2 := rfl
  have qz : (str (zs (56 - x.pl.length))).size = 56 - x.pl.length := by rw [str_size, zs_length]
  unfold sv
  rw [hfr]
  have hn0 : ¬ (x.pl.length : Int) < 1 := by omega
  have hn1 : ¬ (56 : Int) < (x.pl.length : Int) := by omega
  have ne1 : ¬ x.ep < 1 := by omega
  have HB := Lib.hid ((Below.refl w.heap.size w).alloc (Nat.le_refl _) (.cells #[.int .i64 x.ep, .int .i64 x.ix, .bool false, .string (str x.pl)] 30))
  have HX := Lib.hid (Bx.new w #[.int .i64 x.ep, .int .i64 x.ix, .bool false, .string (str x.pl)] 30)
  go_enter Tryz.func7, Tryz.ntmps7
  go_upto_region 1 with fail
  generalize w.alloc (.cells #[.int .i64 x.ep, .int .i64 x.ix, .bool false, .string (str x.pl)] 30) = X at *
  obtain ⟨W0, hW0⟩ : ∃ W0, W0 = w.heap.size := ⟨_, rfl⟩
  have x0 := HX.out.cell 0
  have x1 := HX.out.cell 1
  have x2 := HX.out.cell 2
  have x3 := HX.out.cell 3
  simp only [List.getElem?_toArray, List.getElem?_cons_zero, List.getElem?_cons_succ] at x0 x1 x2 x3
  go_wp2_with fail
  refine (F4.out _).mono ?_; rintro q w1 ⟨rfl, rfl⟩
  go_wp2_with fail
  refine (F2.out _).mono ?_; rintro q w1 ⟨rfl, rfl⟩
  go_upto_region 6 with fail
  have hc0 := fun w (hh : Held X w) => hh.cell x0
  have hc1 := fun w (hh : Held X w) => hh.cell x1
  have hc3 := fun w (hh : Held X w) => hh.cell x3
  clear x0 x1 x2 x3 F4 F2
  have HES := Lib.hid HE.out
  clear HE
  generalize str (w4 x.ep) = s1 at *
  generalize str (w2 x.ix) = s2 at *
  generalize str [flagX false, lenX x.pl.length] = s3 at *
  generalize str x.pl = sp at *
  generalize str (zs (56 - x.pl.length)) = sz at *
  have m1 : ¬ 9223372036854775807 < s1.size + s2.size := by omega
  have m2 : ¬ 9223372036854775807 < (s1 ++ s2).size + s3.size := by rw [ByteArray.size_append]; omega
  have m3 : ¬ 9223372036854775807 < (s1 ++ s2 ++ s3).size + sp.size := by rw [ByteArray.size_append, ByteArray.size_append]; omega
  have m4 : ¬ 9223372036854775807 < s1.size + s2.size + s3.size := by omega
  have m5 : ¬ 9223372036854775807 < s1.size + s2.size + s3.size + sp.size := by omega
  have m6 : 8 + x.pl.length ≤ 9223372036854775807 := by omega
  go_cut [5] (fun z wx => z = .string (s1 ++ s2 ++ s3 ++ sp) ∧ Hid (Below w.heap.size w wx))
  case first =>
    refine wp_region_noPanic ?_
    refine wp_region_held_drew (S := Held X) (by kernel_rfl) ?_ (fun hHeld => ?_)
    · exact Held.start _
    refine wpAnyH_take (i := 0) (oi := { dst := some 35, op := Op.fieldAddr 30 (Operand.tmp 1) 0, type := 0, pos := "base.go:590", after := #[], guard := none }) (v := .pointer (some ⟨w.heap.size, 0, none⟩)) rfl (by kernel_rfl) (by kernel_rfl) (by kernel_rfl) (fun _ _ _ h => h) (Or.inl ⟨by rfl, fun w' hSw => by ((try dsimp only at hSw); go_simp)⟩) (by assumption) ?_
    (try simp only [Act.put, List.setIfInBounds_toArray, List.set_cons_zero, List.set_cons_succ])
    refine wpAnyH_take (i := 1) (oi := { dst := some 36, op := Op.load 3 (Operand.tmp 35), type := 3, pos := "base.go:590", after := #[{ on := 0, ground := Ground.data }], guard := none }) (v := .int .i64 x.ep) rfl (by kernel_rfl) (by kernel_rfl) (by kernel_rfl) (fun _ _ _ h => h) (Or.inl ⟨by rfl, fun w' hSw => by ((try dsimp only at hSw); go_simp)⟩) (by assumption) ?_
    (try simp only [Act.put, List.setIfInBounds_toArray, List.set_cons_zero, List.set_cons_succ])
    refine wpAnyH_take (i := 3) (oi := { dst := some 38, op := Op.fieldAddr 30 (Operand.tmp 1) 1, type := 0, pos := "base.go:590", after := #[], guard := none }) (v := .pointer (some ⟨w.heap.size, 1, none⟩)) rfl (by kernel_rfl) (by kernel_rfl) (by kernel_rfl) (fun _ _ _ h => h) (Or.inl ⟨by rfl, fun w' hSw => by ((try dsimp only at hSw); go_simp)⟩) (by assumption) ?_
    (try simp only [Act.put, List.setIfInBounds_toArray, List.set_cons_zero, List.set_cons_succ])
    refine wpAnyH_take (i := 4) (oi := { dst := some 39, op := Op.load 3 (Operand.tmp 38), type := 3, pos := "base.go:590", after := #[{ on := 3, ground := Ground.data }], guard := none }) (v := .int .i64 x.ix) rfl (by kernel_rfl) (by kernel_rfl) (by kernel_rfl) (fun _ _ _ h => h) (Or.inl ⟨by rfl, fun w' hSw => by ((try dsimp only at hSw); go_simp)⟩) (by assumption) ?_
    (try simp only [Act.put, List.setIfInBounds_toArray, List.set_cons_zero, List.set_cons_succ])
    refine wpAnyH_take (i := 7) (oi := { dst := some 42, op := Op.move (Operand.tmp 4), type := 5, pos := "base.go:590", after := #[], guard := none }) (v := .int .u8 1) rfl (by kernel_rfl) (by kernel_rfl) (by kernel_rfl) (fun _ _ _ h => h) (Or.inl ⟨by rfl, fun w' hSw => by ((try dsimp only at hSw); go_simp)⟩) (by assumption) ?_
    (try simp only [Act.put, List.setIfInBounds_toArray, List.set_cons_zero, List.set_cons_succ])
    refine wpAnyH_take (i := 8) (oi := { dst := some 43, op := Op.fieldAddr 30 (Operand.tmp 1) 3, type := 0, pos := "base.go:590", after := #[], guard := none }) (v := .pointer (some ⟨w.heap.size, 3, none⟩)) rfl (by kernel_rfl) (by kernel_rfl) (by kernel_rfl) (fun _ _ _ h => h) (Or.inl ⟨by rfl, fun w' hSw => by ((try dsimp only at hSw); go_simp)⟩) (by assumption) ?_
    (try simp only [Act.put, List.setIfInBounds_toArray, List.set_cons_zero, List.set_cons_succ])
    refine wpAnyH_take (i := 9) (oi := { dst := some 44, op := Op.load 9 (Operand.tmp 43), type := 9, pos := "base.go:590", after := #[{ on := 8, ground := Ground.data }], guard := none }) (v := .string sp) rfl (by kernel_rfl) (by kernel_rfl) (by kernel_rfl) (fun _ _ _ h => h) (Or.inl ⟨by rfl, fun w' hSw => by ((try dsimp only at hSw); go_simp)⟩) (by assumption) ?_
    (try simp only [Act.put, List.setIfInBounds_toArray, List.set_cons_zero, List.set_cons_succ])
    refine wpAnyH_take (i := 10) (oi := { dst := some 45, op := Op.call { callee := Callee.builtin Builtin.len, args := #[Operand.tmp 44], argTypes := #[9] }, type := 3, pos := "base.go:590", after := #[{ on := 9, ground := Ground.data }], guard := none }) (v := .int .i64 (x.pl.length : Int)) rfl (by kernel_rfl) (by kernel_rfl) (by kernel_rfl) (fun _ _ _ h => h) (Or.inl ⟨by rfl, fun w' hSw => by ((try dsimp only at hSw); go_simp)⟩) (by assumption) ?_
    (try simp only [Act.put, List.setIfInBounds_toArray, List.set_cons_zero, List.set_cons_succ])
    refine wpAnyH_take (i := 11) (oi := { dst := some 46, op := Op.convert 3 5 (Operand.tmp 45), type := 5, pos := "base.go:590", after := #[{ on := 10, ground := Ground.data }], guard := none }) (v := .int .u8 ((lenX x.pl.length).toNat : Int)) rfl (by kernel_rfl) (by kernel_rfl) (by kernel_rfl) (fun _ _ _ h => h) (Or.inl ⟨by rfl, fun w' hSw => by ((try dsimp only at hSw); go_simp)⟩) (by assumption) ?_
    (try simp only [Act.put, List.setIfInBounds_toArray, List.set_cons_zero, List.set_cons_succ])
    refine wpAnyH_take (i := 15) (oi := { dst := some 50, op := Op.fieldAddr 30 (Operand.tmp 1) 3, type := 0, pos := "base.go:590", after := #[], guard := none }) (v := .pointer (some ⟨w.heap.size, 3, none⟩)) rfl (by kernel_rfl) (by kernel_rfl) (by kernel_rfl) (fun _ _ _ h => h) (Or.inl ⟨by rfl, fun w' hSw => by ((try dsimp only at hSw); go_simp)⟩) (by assumption) ?_
    (try simp only [Act.put, List.setIfInBounds_toArray, List.set_cons_zero, List.set_cons_succ])
    refine wpAnyH_take (i := 16) (oi := { dst := some 51, op := Op.load 9 (Operand.tmp 50), type := 9, pos := "base.go:590", after := #[{ on := 15, ground := Ground.data }], guard := none }) (v := .string sp) rfl (by kernel_rfl) (by kernel_rfl) (by kernel_rfl) (fun _ _ _ h => h) (Or.inl ⟨by rfl, fun w' hSw => by ((try dsimp only at hSw); go_simp)⟩) (by assumption) ?_
    (try simp only [Act.put, List.setIfInBounds_toArray, List.set_cons_zero, List.set_cons_succ])
    clear hc0 hc1 hc3
    have hOld := hHeld
    refine wpAnyH_ready (rs := [2, 12]) (by kernel_rfl) (by simp) ?_
    refine AllReadyH.cons (o := { dst := some 37, op := Op.call { callee := Callee.value (Operand.func 26), args := #[Operand.tmp 36], argTypes := #[3] }, type := 9, pos := "base.go:590", after := #[{ on := 1, ground := Ground.data }], guard := none }) rfl (fun K hK => ?_) ?_
    · go_simp; go_at_call 26; refine (LG.out _).mono ?_; rintro e u1 ⟨rfl, hb1⟩
      refine hK.out _ _ ?_ (fun hHeld => ?_)
      · exact Held.step hOld hb1
      clear hK K
      (try simp only [Act.put, List.setIfInBounds_toArray, List.set_cons_zero, List.set_cons_succ])
      clear hOld hb1
      have hOld : Held X u1 := hHeld
      clear hHeld
      refine wpAnyH_ready (rs := [5, 12]) (by kernel_rfl) (by simp) ?_
      refine AllReadyH.cons (o := { dst := some 40, op := Op.call { callee := Callee.value (Operand.func 27), args := #[Operand.tmp 39], argTypes := #[3] }, type := 9, pos := "base.go:590", after := #[{ on := 4, ground := Ground.data }, { on := 2, ground := Ground.chain }], guard := none }) rfl (fun K hK => ?_) ?_
      · go_simp; go_at_call 27; refine (NM.out _).mono ?_; rintro e u2 ⟨rfl, hb2⟩
        refine hK.out _ _ ?_ (fun hHeld => ?_)
        · exact Held.step hOld hb2
        clear hK K
        (try simp only [Act.put, List.setIfInBounds_toArray, List.set_cons_zero, List.set_cons_succ])
        clear hOld hb2
        refine wpAnyH_take (i := 6) (oi := { dst := some 41, op := Op.binOp BinOp.add 9 (Operand.tmp 37) (Operand.tmp 40) 9, type := 9, pos := "base.go:590", after := #[{ on := 2, ground := Ground.data }, { on := 5, ground := Ground.data }], guard := none }) (v := .string (s1 ++ s2)) rfl (by kernel_rfl) (by kernel_rfl) (by kernel_rfl) (fun _ _ _ h => h) (Or.inl ⟨by rfl, fun w' hSw => by ((try dsimp only at hSw); go_simp)⟩) (by assumption) ?_
        (try simp only [Act.put, List.setIfInBounds_toArray, List.set_cons_zero, List.set_cons_succ])
        have hOld : Held X u2 := hHeld
        clear hHeld
        refine wpAnyH_ready (rs := [12]) (by kernel_rfl) (by simp) ?_
        refine AllReadyH.cons (o := { dst := some 47, op := Op.buildSlice 64 2 #[(0, Operand.tmp 42), (1, Operand.tmp 46)], type := 64, pos := "base.go:590", after := #[{ on := 7, ground := Ground.data }, { on := 11, ground := Ground.data }], guard := none }) rfl (fun K hK => ?_) ?_
        · go_simp
          refine hK.out _ _ ?_ (fun hHeld => ?_)
          · exact Held.step hOld ((Below.refl _ _).alloc (Nat.le_refl _) _)
          clear hK K
          (try simp only [Act.put, List.setIfInBounds_toArray, List.set_cons_zero, List.set_cons_succ])
          have HQ : Below (u2.alloc (.cells #[.int .u8 1, .int .u8 ((lenX x.pl.length).toNat : Int)] 5)).heap.size (u2.alloc (.cells #[.int .u8 1, .int .u8 ((lenX x.pl.length).toNat : Int)] 5)) (u2.alloc (.cells #[.int .u8 1, .int .u8 ((lenX x.pl.length).toNat : Int)] 5)) := Below.refl _ _
          clear hOld
          have hOld : Held X (u2.alloc (.cells #[.int .u8 1, .int .u8 ((lenX x.pl.length).toNat : Int)] 5)) := hHeld
          clear hHeld
          have hk : (convert 64 9 (.slice (some ⟨u2.heap.size, 0, none⟩) 2 2)).run Tryz.prog (u2.alloc (.cells #[.int .u8 1, .int .u8 ((lenX x.pl.length).toNat : Int)] 5)) = .ok (.string s3) (u2.alloc (.cells #[.int .u8 1, .int .u8 ((lenX x.pl.length).toNat : Int)] 5)) := HCK.out _ _ HQ
          refine wpAnyH_ready (rs := [13]) (by kernel_rfl) (by simp) ?_
          refine AllReadyH.cons (o := { dst := some 48, op := Op.convert 64 9 (Operand.tmp 47), type := 9, pos := "base.go:590", after := #[{ on := 12, ground := Ground.data }], guard := none }) rfl (fun K hK => ?_) ?_
          · go_simp
            refine hK.out _ _ ?_ (fun hHeld => ?_)
            · exact hOld
            clear hK K
            (try simp only [Act.put, List.setIfInBounds_toArray, List.set_cons_zero, List.set_cons_succ])
            clear hOld hk HQ
            have hOld : Held X (u2.alloc (.cells #[.int .u8 1, .int .u8 ((lenX x.pl.length).toNat : Int)] 5)) := hHeld
            clear hHeld
            refine wpAnyH_take (i := 14) (oi := { dst := some 49, op := Op.binOp BinOp.add 9 (Operand.tmp 41) (Operand.tmp 48) 9, type := 9, pos := "base.go:590", after := #[{ on := 6, ground := Ground.data }, { on := 13, ground := Ground.data }], guard := none }) (v := .string (s1 ++ s2 ++ s3)) rfl (by kernel_rfl) (by kernel_rfl) (by kernel_rfl) (fun _ _ _ h => h) (Or.inl ⟨by rfl, fun w' hSw => by ((try dsimp only at hSw); go_simp)⟩) (by assumption) ?_
            (try simp only [Act.put, List.setIfInBounds_toArray, List.set_cons_zero, List.set_cons_succ])
            refine wpAnyH_take (i := 17) (oi := { dst := some 52, op := Op.binOp BinOp.add 9 (Operand.tmp 49) (Operand.tmp 51) 9, type := 9, pos := "base.go:590", after := #[{ on := 14, ground := Ground.data }, { on := 16, ground := Ground.data }], guard := none }) (v := .string (s1 ++ s2 ++ s3 ++ sp)) rfl (by kernel_rfl) (by kernel_rfl) (by kernel_rfl) (fun _ _ _ h => h) (Or.inl ⟨by rfl, fun w' hSw => by ((try dsimp only at hSw); go_simp)⟩) (by assumption) ?_
            (try simp only [Act.put, List.setIfInBounds_toArray, List.set_cons_zero, List.set_cons_succ])
            refine wpAnyH_take (i := 18) (oi := { dst := some 5, op := Op.assign (Operand.tmp 52), type := 9, pos := "base.go:590", after := #[{ on := 17, ground := Ground.data }, { on := 5, ground := Ground.chain }, { on := 0, ground := Ground.phase }, { on := 1, ground := Ground.phase }, { on := 2, ground := Ground.phase }, { on := 3, ground := Ground.phase }, { on := 4, ground := Ground.phase }, { on := 5, ground := Ground.phase }, { on := 6, ground := Ground.phase }, { on := 7, ground := Ground.phase }, { on := 8, ground := Ground.phase }, { on := 9, ground := Ground.phase }, { on := 10, ground := Ground.phase }, { on := 11, ground := Ground.phase }, { on := 12, ground := Ground.phase }, { on := 13, ground := Ground.phase }, { on := 14, ground := Ground.phase }, { on := 15, ground := Ground.phase }, { on := 16, ground := Ground.phase }, { on := 17, ground := Ground.phase }], guard := none }) (v := .string (s1 ++ s2 ++ s3 ++ sp)) rfl (by kernel_rfl) (by kernel_rfl) (by kernel_rfl) (fun _ _ _ h => h) (Or.inl ⟨by rfl, fun w' hSw => by ((try dsimp only at hSw); go_simp)⟩) (by assumption) ?_
            (try simp only [Act.put, List.setIfInBounds_toArray, List.set_cons_zero, List.set_cons_succ])
            refine wpAnyH_done (by kernel_rfl) ?_ _
            refine NoPanic.normal ?_
            have HH := Lib.hid (HB.out.trans (Below.mono hOld (Below.size HB.out)))
            clear hOld
            go_wp2_with fail
            go_meet
            exact ⟨rfl, HH.out⟩
          exact AllReadyH.nil
        exact AllReadyH.nil
      refine AllReadyH.cons (o := { dst := some 47, op := Op.buildSlice 64 2 #[(0, Operand.tmp 42), (1, Operand.tmp 46)], type := 64, pos := "base.go:590", after := #[{ on := 7, ground := Ground.data }, { on := 11, ground := Ground.data }], guard := none }) rfl (fun K hK => ?_) ?_
      · go_simp
        refine hK.out _ _ ?_ (fun hHeld => ?_)
        · exact Held.step hOld ((Below.refl _ _).alloc (Nat.le_refl _) _)
        clear hK K
        (try simp only [Act.put, List.setIfInBounds_toArray, List.set_cons_zero, List.set_cons_succ])
        have HQ : Below (u1.alloc (.cells #[.int .u8 1, .int .u8 ((lenX x.pl.length).toNat : Int)] 5)).heap.size (u1.alloc (.cells #[.int .u8 1, .int .u8 ((lenX x.pl.length).toNat : Int)] 5)) (u1.alloc (.cells #[.int .u8 1, .int .u8 ((lenX x.pl.length).toNat : Int)] 5)) := Below.refl _ _
        clear hOld
        have hOld : Held X (u1.alloc (.cells #[.int .u8 1, .int .u8 ((lenX x.pl.length).toNat : Int)] 5)) := hHeld
        clear hHeld
        have hk : (convert 64 9 (.slice (some ⟨u1.heap.size, 0, none⟩) 2 2)).run Tryz.prog (u1.alloc (.cells #[.int .u8 1, .int .u8 ((lenX x.pl.length).toNat : Int)] 5)) = .ok (.string s3) (u1.alloc (.cells #[.int .u8 1, .int .u8 ((lenX x.pl.length).toNat : Int)] 5)) := HCK.out _ _ HQ
        refine wpAnyH_ready (rs := [5, 13]) (by kernel_rfl) (by simp) ?_
        refine AllReadyH.cons (o := { dst := some 40, op := Op.call { callee := Callee.value (Operand.func 27), args := #[Operand.tmp 39], argTypes := #[3] }, type := 9, pos := "base.go:590", after := #[{ on := 4, ground := Ground.data }, { on := 2, ground := Ground.chain }], guard := none }) rfl (fun K hK => ?_) ?_
        · go_simp; go_at_call 27; refine (NM.out _).mono ?_; rintro e u2 ⟨rfl, hb2⟩
          refine hK.out _ _ ?_ (fun hHeld => ?_)
          · exact Held.step hOld hb2
          clear hK K
          (try simp only [Act.put, List.setIfInBounds_toArray, List.set_cons_zero, List.set_cons_succ])
          replace HQ : Below (u1.alloc (.cells #[.int .u8 1, .int .u8 ((lenX x.pl.length).toNat : Int)] 5)).heap.size (u1.alloc (.cells #[.int .u8 1, .int .u8 ((lenX x.pl.length).toNat : Int)] 5)) u2 := HQ.trans (hb2.mono HQ.size)
          clear hOld hb2
          refine wpAnyH_take (i := 6) (oi := { dst := some 41, op := Op.binOp BinOp.add 9 (Operand.tmp 37) (Operand.tmp 40) 9, type := 9, pos := "base.go:590", after := #[{ on := 2, ground := Ground.data }, { on := 5, ground := Ground.data }], guard := none }) (v := .string (s1 ++ s2)) rfl (by kernel_rfl) (by kernel_rfl) (by kernel_rfl) (fun _ _ _ h => h) (Or.inl ⟨by rfl, fun w' hSw => by ((try dsimp only at hSw); go_simp)⟩) (by assumption) ?_
          (try simp only [Act.put, List.setIfInBounds_toArray, List.set_cons_zero, List.set_cons_succ])
          have hOld : Held X u2 := hHeld
          clear hHeld
          have hk : (convert 64 9 (.slice (some ⟨u1.heap.size, 0, none⟩) 2 2)).run Tryz.prog u2 = .ok (.string s3) u2 := HCK.out _ _ HQ
          refine wpAnyH_ready (rs := [13]) (by kernel_rfl) (by simp) ?_
          refine AllReadyH.cons (o := { dst := some 48, op := Op.convert 64 9 (Operand.tmp 47), type := 9, pos := "base.go:590", after := #[{ on := 12, ground := Ground.data }], guard := none }) rfl (fun K hK => ?_) ?_
          · go_simp
            refine hK.out _ _ ?_ (fun hHeld => ?_)
            · exact hOld
            clear hK K
            (try simp only [Act.put, List.setIfInBounds_toArray, List.set_cons_zero, List.set_cons_succ])
            clear hOld hk HQ
            have hOld : Held X u2 := hHeld
            clear hHeld
            refine wpAnyH_take (i := 14) (oi := { dst := some 49, op := Op.binOp BinOp.add 9 (Operand.tmp 41) (Operand.tmp 48) 9, type := 9, pos := "base.go:590", after := #[{ on := 6, ground := Ground.data }, { on := 13, ground := Ground.data }], guard := none }) (v := .string (s1 ++ s2 ++ s3)) rfl (by kernel_rfl) (by kernel_rfl) (by kernel_rfl) (fun _ _ _ h => h) (Or.inl ⟨by rfl, fun w' hSw => by ((try dsimp only at hSw); go_simp)⟩) (by assumption) ?_
            (try simp only [Act.put, List.setIfInBounds_toArray, List.set_cons_zero, List.set_cons_succ])
            refine wpAnyH_take (i := 17) (oi := { dst := some 52, op := Op.binOp BinOp.add 9 (Operand.tmp 49) (Operand.tmp 51) 9, type := 9, pos := "base.go:590", after := #[{ on := 14, ground := Ground.data }, { on := 16, ground := Ground.data }], guard := none }) (v := .string (s1 ++ s2 ++ s3 ++ sp)) rfl (by kernel_rfl) (by kernel_rfl) (by kernel_rfl) (fun _ _ _ h => h) (Or.inl ⟨by rfl, fun w' hSw => by ((try dsimp only at hSw); go_simp)⟩) (by assumption) ?_
            (try simp only [Act.put, List.setIfInBounds_toArray, List.set_cons_zero, List.set_cons_succ])
            refine wpAnyH_take (i := 18) (oi := { dst := some 5, op := Op.assign (Operand.tmp 52), type := 9, pos := "base.go:590", after := #[{ on := 17, ground := Ground.data }, { on := 5, ground := Ground.chain }, { on := 0, ground := Ground.phase }, { on := 1, ground := Ground.phase }, { on := 2, ground := Ground.phase }, { on := 3, ground := Ground.phase }, { on := 4, ground := Ground.phase }, { on := 5, ground := Ground.phase }, { on := 6, ground := Ground.phase }, { on := 7, ground := Ground.phase }, { on := 8, ground := Ground.phase }, { on := 9, ground := Ground.phase }, { on := 10, ground := Ground.phase }, { on := 11, ground := Ground.phase }, { on := 12, ground := Ground.phase }, { on := 13, ground := Ground.phase }, { on := 14, ground := Ground.phase }, { on := 15, ground := Ground.phase }, { on := 16, ground := Ground.phase }, { on := 17, ground := Ground.phase }], guard := none }) (v := .string (s1 ++ s2 ++ s3 ++ sp)) rfl (by kernel_rfl) (by kernel_rfl) (by kernel_rfl) (fun _ _ _ h => h) (Or.inl ⟨by rfl, fun w' hSw => by ((try dsimp only at hSw); go_simp)⟩) (by assumption) ?_
            (try simp only [Act.put, List.setIfInBounds_toArray, List.set_cons_zero, List.set_cons_succ])
            refine wpAnyH_done (by kernel_rfl) ?_ _
            refine NoPanic.normal ?_
            have HH := Lib.hid (HB.out.trans (Below.mono hOld (Below.size HB.out)))
            clear hOld
            go_wp2_with fail
            go_meet
            exact ⟨rfl, HH.out⟩
          exact AllReadyH.nil
        refine AllReadyH.cons (o := { dst := some 48, op := Op.convert 64 9 (Operand.tmp 47), type := 9, pos := "base.go:590", after := #[{ on := 12, ground := Ground.data }], guard := none }) rfl (fun K hK => ?_) ?_
        · go_simp
          refine hK.out _ _ ?_ (fun hHeld => ?_)
          · exact hOld
          clear hK K
          (try simp only [Act.put, List.setIfInBounds_toArray, List.set_cons_zero, List.set_cons_succ])
          clear hOld hk HQ
          have hOld : Held X (u1.alloc (.cells #[.int .u8 1, .int .u8 ((lenX x.pl.length).toNat : Int)] 5)) := hHeld
          clear hHeld
          refine wpAnyH_ready (rs := [5]) (by kernel_rfl) (by simp) ?_
          refine AllReadyH.cons (o := { dst := some 40, op := Op.call { callee := Callee.value (Operand.func 27), args := #[Operand.tmp 39], argTypes := #[3] }, type := 9, pos := "base.go:590", after := #[{ on := 4, ground := Ground.data }, { on := 2, ground := Ground.chain }], guard := none }) rfl (fun K hK => ?_) ?_
          · go_simp; go_at_call 27; refine (NM.out _).mono ?_; rintro e u2 ⟨rfl, hb2⟩
            refine hK.out _ _ ?_ (fun hHeld => ?_)
            · exact Held.step hOld hb2
            clear hK K
            (try simp only [Act.put, List.setIfInBounds_toArray, List.set_cons_zero, List.set_cons_succ])
            clear hOld hb2
            refine wpAnyH_take (i := 6) (oi := { dst := some 41, op := Op.binOp BinOp.add 9 (Operand.tmp 37) (Operand.tmp 40) 9, type := 9, pos := "base.go:590", after := #[{ on := 2, ground := Ground.data }, { on := 5, ground := Ground.data }], guard := none }) (v := .string (s1 ++ s2)) rfl (by kernel_rfl) (by kernel_rfl) (by kernel_rfl) (fun _ _ _ h => h) (Or.inl ⟨by rfl, fun w' hSw => by ((try dsimp only at hSw); go_simp)⟩) (by assumption) ?_
            (try simp only [Act.put, List.setIfInBounds_toArray, List.set_cons_zero, List.set_cons_succ])
            have hOld : Held X u2 := hHeld
            clear hHeld
            refine wpAnyH_take (i := 14) (oi := { dst := some 49, op := Op.binOp BinOp.add 9 (Operand.tmp 41) (Operand.tmp 48) 9, type := 9, pos := "base.go:590", after := #[{ on := 6, ground := Ground.data }, { on := 13, ground := Ground.data }], guard := none }) (v := .string (s1 ++ s2 ++ s3)) rfl (by kernel_rfl) (by kernel_rfl) (by kernel_rfl) (fun _ _ _ h => h) (Or.inl ⟨by rfl, fun w' hSw => by ((try dsimp only at hSw); go_simp)⟩) (by assumption) ?_
            (try simp only [Act.put, List.setIfInBounds_toArray, List.set_cons_zero, List.set_cons_succ])
            refine wpAnyH_take (i := 17) (oi := { dst := some 52, op := Op.binOp BinOp.add 9 (Operand.tmp 49) (Operand.tmp 51) 9, type := 9, pos := "base.go:590", after := #[{ on := 14, ground := Ground.data }, { on := 16, ground := Ground.data }], guard := none }) (v := .string (s1 ++ s2 ++ s3 ++ sp)) rfl (by kernel_rfl) (by kernel_rfl) (by kernel_rfl) (fun _ _ _ h => h) (Or.inl ⟨by rfl, fun w' hSw => by ((try dsimp only at hSw); go_simp)⟩) (by assumption) ?_
            (try simp only [Act.put, List.setIfInBounds_toArray, List.set_cons_zero, List.set_cons_succ])
            refine wpAnyH_take (i := 18) (oi := { dst := some 5, op := Op.assign (Operand.tmp 52), type := 9, pos := "base.go:590", after := #[{ on := 17, ground := Ground.data }, { on := 5, ground := Ground.chain }, { on := 0, ground := Ground.phase }, { on := 1, ground := Ground.phase }, { on := 2, ground := Ground.phase }, { on := 3, ground := Ground.phase }, { on := 4, ground := Ground.phase }, { on := 5, ground := Ground.phase }, { on := 6, ground := Ground.phase }, { on := 7, ground := Ground.phase }, { on := 8, ground := Ground.phase }, { on := 9, ground := Ground.phase }, { on := 10, ground := Ground.phase }, { on := 11, ground := Ground.phase }, { on := 12, ground := Ground.phase }, { on := 13, ground := Ground.phase }, { on := 14, ground := Ground.phase }, { on := 15, ground := Ground.phase }, { on := 16, ground := Ground.phase }, { on := 17, ground := Ground.phase }], guard := none }) (v := .string (s1 ++ s2 ++ s3 ++ sp)) rfl (by kernel_rfl) (by kernel_rfl) (by kernel_rfl) (fun _ _ _ h => h) (Or.inl ⟨by rfl, fun w' hSw => by ((try dsimp only at hSw); go_simp)⟩) (by assumption) ?_
            (try simp only [Act.put, List.setIfInBounds_toArray, List.set_cons_zero, List.set_cons_succ])
            refine wpAnyH_done (by kernel_rfl) ?_ _
            refine NoPanic.normal ?_
            have HH := Lib.hid (HB.out.trans (Below.mono hOld (Below.size HB.out)))
            clear hOld
            go_wp2_with fail
            go_meet
            exact ⟨rfl, HH.out⟩
          exact AllReadyH.nil
        exact AllReadyH.nil
      exact AllReadyH.nil
    refine AllReadyH.cons (o := { dst := some 47, op := Op.buildSlice 64 2 #[(0, Operand.tmp 42), (1, Operand.tmp 46)], type := 64, pos := "base.go:590", after := #[{ on := 7, ground := Ground.data }, { on := 11, ground := Ground.data }], guard := none }) rfl (fun K hK => ?_) ?_
    · go_simp
      refine hK.out _ _ ?_ (fun hHeld => ?_)
      · exact Held.step hOld ((Below.refl _ _).alloc (Nat.le_refl _) _)
      clear hK K
      (try simp only [Act.put, List.setIfInBounds_toArray, List.set_cons_zero, List.set_cons_succ])
      have HQ : Below (X.alloc (.cells #[.int .u8 1, .int .u8 ((lenX x.pl.length).toNat : Int)] 5)).heap.size (X.alloc (.cells #[.int .u8 1, .int .u8 ((lenX x.pl.length).toNat : Int)] 5)) (X.alloc (.cells #[.int .u8 1, .int .u8 ((lenX x.pl.length).toNat : Int)] 5)).drew := (Below.refl _ _).drew
      clear hOld
      have hOld : Held X (X.alloc (.cells #[.int .u8 1, .int .u8 ((lenX x.pl.length).toNat : Int)] 5)).drew := hHeld
      clear hHeld
      have hk : (convert 64 9 (.slice (some ⟨X.heap.size, 0, none⟩) 2 2)).run Tryz.prog (X.alloc (.cells #[.int .u8 1, .int .u8 ((lenX x.pl.length).toNat : Int)] 5)).drew = .ok (.string s3) (X.alloc (.cells #[.int .u8 1, .int .u8 ((lenX x.pl.length).toNat : Int)] 5)).drew := HCK.out _ _ HQ
      refine wpAnyH_ready (rs := [2, 13]) (by kernel_rfl) (by simp) ?_
      refine AllReadyH.cons (o := { dst := some 37, op := Op.call { callee := Callee.value (Operand.func 26), args := #[Operand.tmp 36], argTypes := #[3] }, type := 9, pos := "base.go:590", after := #[{ on := 1, ground := Ground.data }], guard := none }) rfl (fun K hK => ?_) ?_
      · go_simp; go_at_call 26; refine (LG.out _).mono ?_; rintro e u1 ⟨rfl, hb1⟩
        refine hK.out _ _ ?_ (fun hHeld => ?_)
        · exact Held.step hOld hb1
        clear hK K
        (try simp only [Act.put, List.setIfInBounds_toArray, List.set_cons_zero, List.set_cons_succ])
        replace HQ : Below (X.alloc (.cells #[.int .u8 1, .int .u8 ((lenX x.pl.length).toNat : Int)] 5)).heap.size (X.alloc (.cells #[.int .u8 1, .int .u8 ((lenX x.pl.length).toNat : Int)] 5)) u1 := HQ.trans (hb1.mono HQ.size)
        clear hOld hb1
        have hOld : Held X u1 := hHeld
        clear hHeld
        have hk : (convert 64 9 (.slice (some ⟨X.heap.size, 0, none⟩) 2 2)).run Tryz.prog u1 = .ok (.string s3) u1 := HCK.out _ _ HQ
        refine wpAnyH_ready (rs := [5, 13]) (by kernel_rfl) (by simp) ?_
        refine AllReadyH.cons (o := { dst := some 40, op := Op.call { callee := Callee.value (Operand.func 27), args := #[Operand.tmp 39], argTypes := #[3] }, type := 9, pos := "base.go:590", after := #[{ on := 4, ground := Ground.data }, { on := 2, ground := Ground.chain }], guard := none }) rfl (fun K hK => ?_) ?_
        · go_simp; go_at_call 27; refine (NM.out _).mono ?_; rintro e u2 ⟨rfl, hb2⟩
          refine hK.out _ _ ?_ (fun hHeld => ?_)
          · exact Held.step hOld hb2
          clear hK K
          (try simp only [Act.put, List.setIfInBounds_toArray, List.set_cons_zero, List.set_cons_succ])
          replace HQ : Below (X.alloc (.cells #[.int .u8 1, .int .u8 ((lenX x.pl.length).toNat : Int)] 5)).heap.size (X.alloc (.cells #[.int .u8 1, .int .u8 ((lenX x.pl.length).toNat : Int)] 5)) u2 := HQ.trans (hb2.mono HQ.size)
          clear hOld hb2
          refine wpAnyH_take (i := 6) (oi := { dst := some 41, op := Op.binOp BinOp.add 9 (Operand.tmp 37) (Operand.tmp 40) 9, type := 9, pos := "base.go:590", after := #[{ on := 2, ground := Ground.data }, { on := 5, ground := Ground.data }], guard := none }) (v := .string (s1 ++ s2)) rfl (by kernel_rfl) (by kernel_rfl) (by kernel_rfl) (fun _ _ _ h => h) (Or.inl ⟨by rfl, fun w' hSw => by ((try dsimp only at hSw); go_simp)⟩) (by assumption) ?_
          (try simp only [Act.put, List.setIfInBounds_toArray, List.set_cons_zero, List.set_cons_succ])
          have hOld : Held X u2 := hHeld
          clear hHeld
          have hk : (convert 64 9 (.slice (some ⟨X.heap.size, 0, none⟩) 2 2)).run Tryz.prog u2 = .ok (.string s3) u2 := HCK.out _ _ HQ
          refine wpAnyH_ready (rs := [13]) (by kernel_rfl) (by simp) ?_
          refine AllReadyH.cons (o := { dst := some 48, op := Op.convert 64 9 (Operand.tmp 47), type := 9, pos := "base.go:590", after := #[{ on := 12, ground := Ground.data }], guard := none }) rfl (fun K hK => ?_) ?_
          · go_simp
            refine hK.out _ _ ?_ (fun hHeld => ?_)
            · exact hOld
            clear hK K
            (try simp only [Act.put, List.setIfInBounds_toArray, List.set_cons_zero, List.set_cons_succ])
            clear hOld hk HQ
            have hOld : Held X u2 := hHeld
            clear hHeld
            refine wpAnyH_take (i := 14) (oi := { dst := some 49, op := Op.binOp BinOp.add 9 (Operand.tmp 41) (Operand.tmp 48) 9, type := 9, pos := "base.go:590", after := #[{ on := 6, ground := Ground.data }, { on := 13, ground := Ground.data }], guard := none }) (v := .string (s1 ++ s2 ++ s3)) rfl (by kernel_rfl) (by kernel_rfl) (by kernel_rfl) (fun _ _ _ h => h) (Or.inl ⟨by rfl, fun w' hSw => by ((try dsimp only at hSw); go_simp)⟩) (by assumption) ?_
            (try simp only [Act.put, List.setIfInBounds_toArray, List.set_cons_zero, List.set_cons_succ])
            refine wpAnyH_take (i := 17) (oi := { dst := some 52, op := Op.binOp BinOp.add 9 (Operand.tmp 49) (Operand.tmp 51) 9, type := 9, pos := "base.go:590", after := #[{ on := 14, ground := Ground.data }, { on := 16, ground := Ground.data }], guard := none }) (v := .string (s1 ++ s2 ++ s3 ++ sp)) rfl (by kernel_rfl) (by kernel_rfl) (by kernel_rfl) (fun _ _ _ h => h) (Or.inl ⟨by rfl, fun w' hSw => by ((try dsimp only at hSw); go_simp)⟩) (by assumption) ?_
            (try simp only [Act.put, List.setIfInBounds_toArray, List.set_cons_zero, List.set_cons_succ])
            refine wpAnyH_take (i := 18) (oi := { dst := some 5, op := Op.assign (Operand.tmp 52), type := 9, pos := "base.go:590", after := #[{ on := 17, ground := Ground.data }, { on := 5, ground := Ground.chain }, { on := 0, ground := Ground.phase }, { on := 1, ground := Ground.phase }, { on := 2, ground := Ground.phase }, { on := 3, ground := Ground.phase }, { on := 4, ground := Ground.phase }, { on := 5, ground := Ground.phase }, { on := 6, ground := Ground.phase }, { on := 7, ground := Ground.phase }, { on := 8, ground := Ground.phase }, { on := 9, ground := Ground.phase }, { on := 10, ground := Ground.phase }, { on := 11, ground := Ground.phase }, { on := 12, ground := Ground.phase }, { on := 13, ground := Ground.phase }, { on := 14, ground := Ground.phase }, { on := 15, ground := Ground.phase }, { on := 16, ground := Ground.phase }, { on := 17, ground := Ground.phase }], guard := none }) (v := .string (s1 ++ s2 ++ s3 ++ sp)) rfl (by kernel_rfl) (by kernel_rfl) (by kernel_rfl) (fun _ _ _ h => h) (Or.inl ⟨by rfl, fun w' hSw => by ((try dsimp only at hSw); go_simp)⟩) (by assumption) ?_
            (try simp only [Act.put, List.setIfInBounds_toArray, List.set_cons_zero, List.set_cons_succ])
            refine wpAnyH_done (by kernel_rfl) ?_ _
            refine NoPanic.normal ?_
            have HH := Lib.hid (HB.out.trans (Below.mono hOld (Below.size HB.out)))
            clear hOld
            go_wp2_with fail
            go_meet
            exact ⟨rfl, HH.out⟩
          exact AllReadyH.nil
        refine AllReadyH.cons (o := { dst := some 48, op := Op.convert 64 9 (Operand.tmp 47), type := 9, pos := "base.go:590", after := #[{ on := 12, ground := Ground.data }], guard := none }) rfl (fun K hK => ?_) ?_
        · go_simp
          refine hK.out _ _ ?_ (fun hHeld => ?_)
          · exact hOld
          clear hK K
          (try simp only [Act.put, List.setIfInBounds_toArray, List.set_cons_zero, List.set_cons_succ])
          clear hOld hk HQ
          have hOld : Held X u1 := hHeld
          clear hHeld
          refine wpAnyH_ready (rs := [5]) (by kernel_rfl) (by simp) ?_
          refine AllReadyH.cons (o := { dst := some 40, op := Op.call { callee := Callee.value (Operand.func 27), args := #[Operand.tmp 39], argTypes := #[3] }, type := 9, pos := "base.go:590", after := #[{ on := 4, ground := Ground.data }, { on := 2, ground := Ground.chain }], guard := none }) rfl (fun K hK => ?_) ?_
          · go_simp; go_at_call 27; refine (NM.out _).mono ?_; rintro e u2 ⟨rfl, hb2⟩
            refine hK.out _ _ ?_ (fun hHeld => ?_)
            · exact Held.step hOld hb2
            clear hK K
            (try simp only [Act.put, List.setIfInBounds_toArray, List.set_cons_zero, List.set_cons_succ])
            clear hOld hb2
            refine wpAnyH_take (i := 6) (oi := { dst := some 41, op := Op.binOp BinOp.add 9 (Operand.tmp 37) (Operand.tmp 40) 9, type := 9, pos := "base.go:590", after := #[{ on := 2, ground := Ground.data }, { on := 5, ground := Ground.data }], guard := none }) (v := .string (s1 ++ s2)) rfl (by kernel_rfl) (by kernel_rfl) (by kernel_rfl) (fun _ _ _ h => h) (Or.inl ⟨by rfl, fun w' hSw => by ((try dsimp only at hSw); go_simp)⟩) (by assumption) ?_
            (try simp only [Act.put, List.setIfInBounds_toArray, List.set_cons_zero, List.set_cons_succ])
            have hOld : Held X u2 := hHeld
            clear hHeld
            refine wpAnyH_take (i := 14) (oi := { dst := some 49, op := Op.binOp BinOp.add 9 (Operand.tmp 41) (Operand.tmp 48) 9, type := 9, pos := "base.go:590", after := #[{ on := 6, ground := Ground.data }, { on := 13, ground := Ground.data }], guard := none }) (v := .string (s1 ++ s2 ++ s3)) rfl (by kernel_rfl) (by kernel_rfl) (by kernel_rfl) (fun _ _ _ h => h) (Or.inl ⟨by rfl, fun w' hSw => by ((try dsimp only at hSw); go_simp)⟩) (by assumption) ?_
            (try simp only [Act.put, List.setIfInBounds_toArray, List.set_cons_zero, List.set_cons_succ])
            refine wpAnyH_take (i := 17) (oi := { dst := some 52, op := Op.binOp BinOp.add 9 (Operand.tmp 49) (Operand.tmp 51) 9, type := 9, pos := "base.go:590", after := #[{ on := 14, ground := Ground.data }, { on := 16, ground := Ground.data }], guard := none }) (v := .string (s1 ++ s2 ++ s3 ++ sp)) rfl (by kernel_rfl) (by kernel_rfl) (by kernel_rfl) (fun _ _ _ h => h) (Or.inl ⟨by rfl, fun w' hSw => by ((try dsimp only at hSw); go_simp)⟩) (by assumption) ?_
            (try simp only [Act.put, List.setIfInBounds_toArray, List.set_cons_zero, List.set_cons_succ])
            refine wpAnyH_take (i := 18) (oi := { dst := some 5, op := Op.assign (Operand.tmp 52), type := 9, pos := "base.go:590", after := #[{ on := 17, ground := Ground.data }, { on := 5, ground := Ground.chain }, { on := 0, ground := Ground.phase }, { on := 1, ground := Ground.phase }, { on := 2, ground := Ground.phase }, { on := 3, ground := Ground.phase }, { on := 4, ground := Ground.phase }, { on := 5, ground := Ground.phase }, { on := 6, ground := Ground.phase }, { on := 7, ground := Ground.phase }, { on := 8, ground := Ground.phase }, { on := 9, ground := Ground.phase }, { on := 10, ground := Ground.phase }, { on := 11, ground := Ground.phase }, { on := 12, ground := Ground.phase }, { on := 13, ground := Ground.phase }, { on := 14, ground := Ground.phase }, { on := 15, ground := Ground.phase }, { on := 16, ground := Ground.phase }, { on := 17, ground := Ground.phase }], guard := none }) (v := .string (s1 ++ s2 ++ s3 ++ sp)) rfl (by kernel_rfl) (by kernel_rfl) (by kernel_rfl) (fun _ _ _ h => h) (Or.inl ⟨by rfl, fun w' hSw => by ((try dsimp only at hSw); go_simp)⟩) (by assumption) ?_
            (try simp only [Act.put, List.setIfInBounds_toArray, List.set_cons_zero, List.set_cons_succ])
            refine wpAnyH_done (by kernel_rfl) ?_ _
            refine NoPanic.normal ?_
            have HH := Lib.hid (HB.out.trans (Below.mono hOld (Below.size HB.out)))
            clear hOld
            go_wp2_with fail
            go_meet
            exact ⟨rfl, HH.out⟩
          exact AllReadyH.nil
        exact AllReadyH.nil
      refine AllReadyH.cons (o := { dst := some 48, op := Op.convert 64 9 (Operand.tmp 47), type := 9, pos := "base.go:590", after := #[{ on := 12, ground := Ground.data }], guard := none }) rfl (fun K hK => ?_) ?_
      · go_simp
        refine hK.out _ _ ?_ (fun hHeld => ?_)
        · exact hOld
        clear hK K
        (try simp only [Act.put, List.setIfInBounds_toArray, List.set_cons_zero, List.set_cons_succ])
        clear hOld hk HQ
        have hOld : Held X (X.alloc (.cells #[.int .u8 1, .int .u8 ((lenX x.pl.length).toNat : Int)] 5)).drew := hHeld
        clear hHeld
        refine wpAnyH_ready (rs := [2]) (by kernel_rfl) (by simp) ?_
        refine AllReadyH.cons (o := { dst := some 37, op := Op.call { callee := Callee.value (Operand.func 26), args := #[Operand.tmp 36], argTypes := #[3] }, type := 9, pos := "base.go:590", after := #[{ on := 1, ground := Ground.data }], guard := none }) rfl (fun K hK => ?_) ?_
        · go_simp; go_at_call 26; refine (LG.out _).mono ?_; rintro e u1 ⟨rfl, hb1⟩
          refine hK.out _ _ ?_ (fun hHeld => ?_)
          · exact Held.step hOld hb1
          clear hK K
          (try simp only [Act.put, List.setIfInBounds_toArray, List.set_cons_zero, List.set_cons_succ])
          clear hOld hb1
          have hOld : Held X u1 := hHeld
          clear hHeld
          refine wpAnyH_ready (rs := [5]) (by kernel_rfl) (by simp) ?_
          refine AllReadyH.cons (o := { dst := some 40, op := Op.call { callee := Callee.value (Operand.func 27), args := #[Operand.tmp 39], argTypes := #[3] }, type := 9, pos := "base.go:590", after := #[{ on := 4, ground := Ground.data }, { on := 2, ground := Ground.chain }], guard := none }) rfl (fun K hK => ?_) ?_
          · go_simp; go_at_call 27; refine (NM.out _).mono ?_; rintro e u2 ⟨rfl, hb2⟩
            refine hK.out _ _ ?_ (fun hHeld => ?_)
            · exact Held.step hOld hb2
            clear hK K
            (try simp only [Act.put, List.setIfInBounds_toArray, List.set_cons_zero, List.set_cons_succ])
            clear hOld hb2
            refine wpAnyH_take (i := 6) (oi := { dst := some 41, op := Op.binOp BinOp.add 9 (Operand.tmp 37) (Operand.tmp 40) 9, type := 9, pos := "base.go:590", after := #[{ on := 2, ground := Ground.data }, { on := 5, ground := Ground.data }], guard := none }) (v := .string (s1 ++ s2)) rfl (by kernel_rfl) (by kernel_rfl) (by kernel_rfl) (fun _ _ _ h => h) (Or.inl ⟨by rfl, fun w' hSw => by ((try dsimp only at hSw); go_simp)⟩) (by assumption) ?_
            (try simp only [Act.put, List.setIfInBounds_toArray, List.set_cons_zero, List.set_cons_succ])
            have hOld : Held X u2 := hHeld
            clear hHeld
            refine wpAnyH_take (i := 14) (oi := { dst := some 49, op := Op.binOp BinOp.add 9 (Operand.tmp 41) (Operand.tmp 48) 9, type := 9, pos := "base.go:590", after := #[{ on := 6, ground := Ground.data }, { on := 13, ground := Ground.data }], guard := none }) (v := .string (s1 ++ s2 ++ s3)) rfl (by kernel_rfl) (by kernel_rfl) (by kernel_rfl) (fun _ _ _ h => h) (Or.inl ⟨by rfl, fun w' hSw => by ((try dsimp only at hSw); go_simp)⟩) (by assumption) ?_
            (try simp only [Act.put, List.setIfInBounds_toArray, List.set_cons_zero, List.set_cons_succ])
            refine wpAnyH_take (i := 17) (oi := { dst := some 52, op := Op.binOp BinOp.add 9 (Operand.tmp 49) (Operand.tmp 51) 9, type := 9, pos := "base.go:590", after := #[{ on := 14, ground := Ground.data }, { on := 16, ground := Ground.data }], guard := none }) (v := .string (s1 ++ s2 ++ s3 ++ sp)) rfl (by kernel_rfl) (by kernel_rfl) (by kernel_rfl) (fun _ _ _ h => h) (Or.inl ⟨by rfl, fun w' hSw => by ((try dsimp only at hSw); go_simp)⟩) (by assumption) ?_
            (try simp only [Act.put, List.setIfInBounds_toArray, List.set_cons_zero, List.set_cons_succ])
            refine wpAnyH_take (i := 18) (oi := { dst := some 5, op := Op.assign (Operand.tmp 52), type := 9, pos := "base.go:590", after := #[{ on := 17, ground := Ground.data }, { on := 5, ground := Ground.chain }, { on := 0, ground := Ground.phase }, { on := 1, ground := Ground.phase }, { on := 2, ground := Ground.phase }, { on := 3, ground := Ground.phase }, { on := 4, ground := Ground.phase }, { on := 5, ground := Ground.phase }, { on := 6, ground := Ground.phase }, { on := 7, ground := Ground.phase }, { on := 8, ground := Ground.phase }, { on := 9, ground := Ground.phase }, { on := 10, ground := Ground.phase }, { on := 11, ground := Ground.phase }, { on := 12, ground := Ground.phase }, { on := 13, ground := Ground.phase }, { on := 14, ground := Ground.phase }, { on := 15, ground := Ground.phase }, { on := 16, ground := Ground.phase }, { on := 17, ground := Ground.phase }], guard := none }) (v := .string (s1 ++ s2 ++ s3 ++ sp)) rfl (by kernel_rfl) (by kernel_rfl) (by kernel_rfl) (fun _ _ _ h => h) (Or.inl ⟨by rfl, fun w' hSw => by ((try dsimp only at hSw); go_simp)⟩) (by assumption) ?_
            (try simp only [Act.put, List.setIfInBounds_toArray, List.set_cons_zero, List.set_cons_succ])
            refine wpAnyH_done (by kernel_rfl) ?_ _
            refine NoPanic.normal ?_
            have HH := Lib.hid (HB.out.trans (Below.mono hOld (Below.size HB.out)))
            clear hOld
            go_wp2_with fail
            go_meet
            exact ⟨rfl, HH.out⟩
          exact AllReadyH.nil
        exact AllReadyH.nil
      exact AllReadyH.nil
    exact AllReadyH.nil
  case rest =>
    obtain ⟨rfl, HH⟩ := hcut
    clear HB HX hc0 hc1 hc3 HCK LG NM
    have hsz : (s1 ++ s2 ++ s3 ++ sp).size = 8 + x.pl.length := by rw [ByteArray.size_append, ByteArray.size_append, ByteArray.size_append]; omega
    have HSZ := Lib.hid hsz
    generalize s1 ++ s2 ++ s3 ++ sp = sh at *
    have n1 : ¬ 9223372036854775807 < sh.size + sz.size := by omega
    have n2 : IntKind.i64.wrap ((64 : Int) - (sh.size : Int)) = ((56 - x.pl.length : Nat) : Int) := by
      rw [show (64 : Int) - (sh.size : Int) = ((56 - x.pl.length : Nat) : Int) from by omega]
      exact IntWalk.i64_in _ (by omega)
    clear hsz
    generalize 56 - x.pl.length = n at *
    go_wp2_with fail
    refine (ZE.out _).mono ?_; rintro e u ⟨rfl, hb⟩
    have H2 := Lib.hid (HH.out.trans (hb.mono HH.out.size))
    clear hb
    go_wp2_with fail
    rw [HES.out]
    go_ret2
    exact HP.out _ H2.out
theorem rput_any (x : Sx) (hs : x.pl.length ≤ maxLen) (w : World) : Calls Tryz.prog 7 #[sv x] w fun e w' => PutP x w e w' := by
  cases h : okX x with
  | true =>
    cases hf : x.fr with
    | true => exact rput_oktrue x hf h w
    | false => exact rput_okfalse x hf h w
  | false => exact rput_bad x hs h w
end Go.Proofs.YtbdpmfgphhgigaaGreat
