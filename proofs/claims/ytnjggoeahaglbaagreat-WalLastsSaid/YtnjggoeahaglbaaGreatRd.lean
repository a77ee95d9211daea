/- What the record's writer writes: patches, transactions, dirty pages, records. -/
import Derived.Test.YtnjggoeahaglbaaGreatRows
import Derived.Test.YtnjggoeahaglbaaGreatRc
import Derived.Deep.RegionHeld3
import Derived.StillTailTactics
import Derived.Deep.DeepCutAuto
import Derived.Deep.CutBlock
import Derived.BigQuiet
import Derived.Deep.RegionLaw
import Derived.Shelf.LaysM
import Derived.Shelf.Strconv.Clone
import Derived.Laws.AppendOwn
import Derived.RangeFuncBox
namespace Go.Proofs.YtnjggoeahaglbaaGreat.Rc
open Go.ChangeShapes Go.WideShapes Go.ChangeAt Go.RowKit
set_option linter.unusedVariables false
set_option linter.unusedSimpArgs false
set_option maxRecDepth 100000
theorem Bx.drew {w : World} {B : Nat} {cs : Array Value} {t : TypeId} (h : Bx w B cs t) : Bx w.drew B cs t := h
set_option maxHeartbeats 1000000 in
theorem dirty_w {C p : Nat} (d : Dy) (l0 : BA) (w : World) (h : rightD d = true) (hp : p < w.heap.size) (hw : Wr C w p l0 false) (hb : l0.length ≤ 490000) :
    Calls Tryz.prog 118 #[ptr p, dyv d] w fun e w' => e = .returned (ptr p) ∧ Wrote C p w (l0 ++ encD d) false w' := by
  obtain ⟨h1, h2⟩ := rightD_iff.1 h
  have HE := Lib.hid (show l0 ++ encD d = (l0 ++ w2 d.page) ++ w4 d.lsn from by unfold encD; rw [List.append_assoc])
  rw [HE.out]
  have NU := Lib.hid (fun u (hu : Wr C u p l0 false) => num_w C p d.page l0 u h1 (by omega) hu)
  have LO := Lib.hid (fun u (hu : Wr C u p (l0 ++ w2 d.page) false) => long_w C p d.lsn _ u h2 (by simp only [List.length_append, w2_length]; omega) hu)
  have HX := Lib.hid (Bx.new w #[.int .i64 d.page, .int .i64 d.lsn] 114)
  have HW := Lib.hid (Wrote.start hw |>.alloc (.cells #[.int .i64 d.page, .int .i64 d.lsn] 114))
  have hne : w.heap.size ≠ p := by omega
  unfold dyv
  clear h h1 h2 hw hb hp
  go_enter Tryz.func118, Tryz.ntmps118
  go_upto_region 1 with fail
  generalize w.alloc (.cells #[.int .i64 d.page, .int .i64 d.lsn] 114) = W at *
  obtain ⟨B, hB⟩ : ∃ B, B = w.heap.size := ⟨_, rfl⟩
  rw [← hB] at HX hne ⊢
  clear hB
  have X0 := fun r (h : Bx r B #[.int .i64 d.page, .int .i64 d.lsn] 114) => h.cell 0
  have X1 := fun r (h : Bx r B #[.int .i64 d.page, .int .i64 d.lsn] 114) => h.cell 1
  simp at X0 X1
  have hx0 := HX.out
  have hw0 := HW.out.1.drew
  go_region_held3 (fun w' => Bx w' B #[.int .i64 d.page, .int .i64 d.lsn] 114) (first | assumption) (first
    | (go_at_call 107; refine (NU.out _ hw0).mono ?_; rintro e u ⟨rfl, hu⟩; have hxu := hx0.drew.only hu.2 hne (by decide))
    | (go_at_call 108; refine (LO.out _ hu.1).mono ?_; rintro e v ⟨rfl, hv⟩; have hxv := hxu.only hv.2 hne (by decide)))
  all_goals go_wp2_with fail
  all_goals go_ret
  all_goals exact ⟨rfl, (HW.out.drew.then hu).then hv⟩
theorem ints_lit {u : World} {B : Nat} {a b : Int} (h : Bx u B #[.int .i64 a, .int .i64 b] 3) (ha : rng a) (hb : rng b) : IntsM u.heap.size u (some ⟨B, 0, none⟩) 2 [a, b] :=
  ⟨rfl, by unfold maxLen; omega, fun k hk => by
    rcases k with _ | _ | k
    · exact ⟨B, 0, rfl, h.lt, h.cell 0, ha⟩
    · exact ⟨B, 0, rfl, h.lt, h.cell 1, hb⟩
    · omega⟩
theorem two_rng {v : Int} (h : two v = true) : rng v := by obtain ⟨h0, h1⟩ := two_iff.1 h; unfold rng; omega
theorem four_rng {v : Int} (h : four v = true) : rng v := by obtain ⟨h0, h1⟩ := four_iff.1 h; unfold rng; omega
theorem nums_w {C p c : Nat} {a b : Int} {B : Nat} (l0 : BA) (u : World) (ha : two a = true) (hb : two b = true) (hB : B ≠ p) (hx : Bx u B #[.int .i64 a, .int .i64 b] 3) (hw : Wr C u p l0 false) (hl : l0.length ≤ 490000) :
    Calls Tryz.prog 106 #[.func (.func 107) #[ptr p] #[], .slice (some ⟨B, 0, none⟩) 2 c] u fun e w' => e = .returned (.tuple #[]) ∧ Wrote C p u ((l0 ++ w2 a) ++ w2 b) false w' := by
  have h := eachI_is (c := c) (M := 500000) w2 l0 u (l := [a, b]) (n := 2) rfl (by unfold maxLen; omega) (fun w' ho => ints_lit (hx.only ho hB (by decide)) (two_rng ha) (two_rng hb)) hw (by simp [w2_length]; omega) (fun x hx l1 w1 e f _ => num_w C p x l1 w1 (by simp only [List.mem_cons, List.not_mem_nil, or_false] at hx; rcases hx with rfl | rfl <;> assumption) (by omega) f)
  simpa using h
theorem longs_w {C p c : Nat} {a b : Int} {B : Nat} (l0 : BA) (u : World) (ha : four a = true) (hb : four b = true) (hB : B ≠ p) (hx : Bx u B #[.int .i64 a, .int .i64 b] 3) (hw : Wr C u p l0 false) (hl : l0.length ≤ 490000) :
    Calls Tryz.prog 106 #[.func (.func 108) #[ptr p] #[], .slice (some ⟨B, 0, none⟩) 2 c] u fun e w' => e = .returned (.tuple #[]) ∧ Wrote C p u ((l0 ++ w4 a) ++ w4 b) false w' := by
  have h := eachIL_is (c := c) (M := 500000) w4 l0 u (l := [a, b]) (n := 2) rfl (by unfold maxLen; omega) (fun w' ho => ints_lit (hx.only ho hB (by decide)) (four_rng ha) (four_rng hb)) hw (by simp [w4_length]; omega) (fun x hx l1 w1 e f _ => long_w C p x l1 w1 (by simp only [List.mem_cons, List.not_mem_nil, or_false] at hx; rcases hx with rfl | rfl <;> assumption) (by omega) f)
  simpa using h
theorem texts_w {C p c : Nat} {a b : ByteArray} {B : Nat} (l0 : BA) (u : World) (ha : a.size ≤ 65535) (hb : b.size ≤ 65535) (hB : B ≠ p) (hx : Bx u B #[.string a, .string b] 9) (hw : Wr C u p l0 false) (hl : l0.length ≤ 300000) :
    Calls Tryz.prog 111 #[.func (.func 109) #[ptr p] #[], .slice (some ⟨B, 0, none⟩) 2 c] u fun e w' => e = .returned (.tuple #[]) ∧ Wrote C p u ((l0 ++ encS a) ++ encS b) false w' := by
  have h := eachS_is (c := c) (M := 500000) encS l0 u (l := [a, b]) (n := 2) rfl (by unfold maxLen; omega) (fun w' ho => ⟨rfl, by unfold maxLen; omega, fun k hk => by
    have hx' := hx.only ho hB (by decide)
    rcases k with _ | _ | k
    · exact ⟨B, 0, rfl, hx'.lt, hx'.cell 0⟩
    · exact ⟨B, 0, rfl, hx'.lt, hx'.cell 1⟩
    · omega⟩) hw (by simp [encS_length]; omega) (fun x hx l1 w1 e f _ => text_w C p x l1 w1 (by simp only [List.mem_cons, List.not_mem_nil, or_false] at hx; rcases hx with rfl | rfl <;> assumption) (by omega) f)
  simpa using h
set_option maxHeartbeats 1000000 in
theorem patch_w {C p : Nat} (x : Pt) (l0 : BA) (w : World) (h : rightP x = true) (hp : p < w.heap.size) (hw : Wr C w p l0 false) (hb : l0.length ≤ 480000) :
    Calls Tryz.prog 114 #[ptr p, ptv x] w fun e w' => e = .returned (ptr p) ∧ Wrote C p w (l0 ++ encP x) false w' := by
  obtain ⟨h1, h2, h3, h4, h5⟩ := rightP_iff.1 h
  have HE := Lib.hid (show l0 ++ encP x = ((l0 ++ w2 x.pg) ++ w2 x.ofs) ++ encS x.bs from by unfold encP; simp only [List.append_assoc])
  rw [HE.out]
  have NU := Lib.hid (fun u B (hB : B ≠ p) (hx : Bx u B #[.int .i64 x.pg, .int .i64 x.ofs] 3) (hu : Wr C u p l0 false) => nums_w (c := 2) l0 u (two_iff.2 ⟨h1, by omega⟩) (two_iff.2 ⟨h3, by omega⟩) hB hx hu (by omega))
  have LO := Lib.hid (fun u (hu : Wr C u p ((l0 ++ w2 x.pg) ++ w2 x.ofs) false) => text_w C p x.bs _ u (by omega) (by simp only [List.length_append, w2_length]; omega) hu)
  have HX := Lib.hid (Bx.new w #[.int .i64 x.pg, .int .i64 x.ofs, .string x.bs] 110)
  have HW := Lib.hid (Wrote.start hw |>.alloc (.cells #[.int .i64 x.pg, .int .i64 x.ofs, .string x.bs] 110))
  have hne : w.heap.size ≠ p := by omega
  have HP : Hid (p < (w.alloc (.cells #[.int .i64 x.pg, .int .i64 x.ofs, .string x.bs] 110)).heap.size) := by simp [Hid]; omega
  unfold ptv
  clear h h1 h2 h3 h4 h5 hw hb hp
  go_enter Tryz.func114, Tryz.ntmps114
  go_upto_region 1 with fail
  generalize w.alloc (.cells #[.int .i64 x.pg, .int .i64 x.ofs, .string x.bs] 110) = W at *
  obtain ⟨B, hB⟩ : ∃ B, B = w.heap.size := ⟨_, rfl⟩
  rw [← hB] at HX hne ⊢
  clear hB
  have X0 := fun r (h : Bx r B #[.int .i64 x.pg, .int .i64 x.ofs, .string x.bs] 110) => h.cell 0
  have X1 := fun r (h : Bx r B #[.int .i64 x.pg, .int .i64 x.ofs, .string x.bs] 110) => h.cell 1
  simp at X0 X1
  have hx0 := HX.out
  refine wp_region_noPanic ?_
  refine wp_region_held_drew (S := fun w' => Bx w' B #[.int .i64 x.pg, .int .i64 x.ofs, .string x.bs] 110) (by kernel_rfl) ?_ (fun hHeld => ?_)
  · exact hx0.drew
  refine wpAnyH_take (i := 0) (oi := { dst := some 5, op := Op.move (Operand.tmp 0), type := 135, pos := "record.go:125", after := #[], guard := none }) (v := .pointer (some ⟨p, 0, none⟩)) rfl (by kernel_rfl) (by kernel_rfl) (by kernel_rfl) (fun _ _ _ h => h) (Or.inl ⟨by rfl, fun w' hSw => by ((try dsimp only at hSw); go_simp)⟩) (by assumption) ?_
  (try simp only [Act.put, List.setIfInBounds_toArray, List.set_cons_zero, List.set_cons_succ])
  refine wpAnyH_take (i := 1) (oi := { dst := some 6, op := Op.nilCheck (Operand.tmp 5), type := 0, pos := "record.go:125", after := #[{ on := 0, ground := Ground.data }], guard := none }) (v := .pointer (some ⟨p, 0, none⟩)) rfl (by kernel_rfl) (by kernel_rfl) (by kernel_rfl) (fun _ _ _ h => h) (Or.inl ⟨by rfl, fun w' hSw => by ((try dsimp only at hSw); go_simp)⟩) (by assumption) ?_
  (try simp only [Act.put, List.setIfInBounds_toArray, List.set_cons_zero, List.set_cons_succ])
  refine wpAnyH_take (i := 2) (oi := { dst := some 7, op := Op.fieldAddr 139 (Operand.tmp 6) 0, type := 0, pos := "record.go:125", after := #[{ on := 1, ground := Ground.data }], guard := none }) (v := .pointer (some ⟨p, 0, none⟩)) rfl (by kernel_rfl) (by kernel_rfl) (by kernel_rfl) (fun _ _ _ h => h) (Or.inl ⟨by rfl, fun w' hSw => by ((try dsimp only at hSw); go_simp)⟩) (by assumption) ?_
  (try simp only [Act.put, List.setIfInBounds_toArray, List.set_cons_zero, List.set_cons_succ])
  refine wpAnyH_take (i := 3) (oi := { dst := some 8, op := Op.makeFunc (Go.Fn.func 107) #[Operand.tmp 7] #[], type := 167, pos := "record.go:125", after := #[{ on := 2, ground := Ground.data }], guard := none }) (v := .func (.func 107) #[.pointer (some ⟨p, 0, none⟩)] #[]) rfl (by kernel_rfl) (by kernel_rfl) (by kernel_rfl) (fun _ _ _ h => h) (Or.inl ⟨by rfl, fun w' hSw => by ((try dsimp only at hSw); go_simp)⟩) (by assumption) ?_
  (try simp only [Act.put, List.setIfInBounds_toArray, List.set_cons_zero, List.set_cons_succ])
  refine wpAnyH_take (i := 4) (oi := { dst := some 9, op := Op.fieldAddr 110 (Operand.tmp 3) 0, type := 0, pos := "record.go:125", after := #[], guard := none }) (v := .pointer (some ⟨B, 0, none⟩)) rfl (by kernel_rfl) (by kernel_rfl) (by kernel_rfl) (fun _ _ _ h => h) (Or.inl ⟨by rfl, fun w' hSw => by ((try dsimp only at hSw); go_simp)⟩) (by assumption) ?_
  (try simp only [Act.put, List.setIfInBounds_toArray, List.set_cons_zero, List.set_cons_succ])
  refine wpAnyH_take (i := 5) (oi := { dst := some 10, op := Op.load 3 (Operand.tmp 9), type := 3, pos := "record.go:125", after := #[{ on := 4, ground := Ground.data }], guard := none }) (v := .int .i64 x.pg) rfl (by kernel_rfl) (by kernel_rfl) (by kernel_rfl) (fun _ _ _ h => h) (Or.inl ⟨by rfl, fun w' hSw => by ((try dsimp only at hSw); have := X0 _ hSw; go_simp)⟩) (by assumption) ?_
  (try simp only [Act.put, List.setIfInBounds_toArray, List.set_cons_zero, List.set_cons_succ])
  refine wpAnyH_take (i := 6) (oi := { dst := some 11, op := Op.fieldAddr 110 (Operand.tmp 3) 1, type := 0, pos := "record.go:125", after := #[], guard := none }) (v := .pointer (some ⟨B, 1, none⟩)) rfl (by kernel_rfl) (by kernel_rfl) (by kernel_rfl) (fun _ _ _ h => h) (Or.inl ⟨by rfl, fun w' hSw => by ((try dsimp only at hSw); go_simp)⟩) (by assumption) ?_
  (try simp only [Act.put, List.setIfInBounds_toArray, List.set_cons_zero, List.set_cons_succ])
  refine wpAnyH_take (i := 7) (oi := { dst := some 12, op := Op.load 3 (Operand.tmp 11), type := 3, pos := "record.go:125", after := #[{ on := 6, ground := Ground.data }], guard := none }) (v := .int .i64 x.ofs) rfl (by kernel_rfl) (by kernel_rfl) (by kernel_rfl) (fun _ _ _ h => h) (Or.inl ⟨by rfl, fun w' hSw => by ((try dsimp only at hSw); have := X1 _ hSw; go_simp)⟩) (by assumption) ?_
  (try simp only [Act.put, List.setIfInBounds_toArray, List.set_cons_zero, List.set_cons_succ])
  refine wpAnyH_ready (rs := [8]) (by kernel_rfl) (by simp) ?_
  refine AllReadyH.cons (o := { dst := some 13, op := Op.buildSlice 38 2 #[(0, Operand.tmp 10), (1, Operand.tmp 12)], type := 38, pos := "record.go:125", after := #[{ on := 5, ground := Ground.data }, { on := 7, ground := Ground.data }], guard := none }) rfl (fun K hK => ?_) ?_
  · go_simp
    refine hK.out _ _ ?_ (fun hHeld => ?_)
    · exact hx0.drew.alloc _
    clear hK K
    (try simp only [Act.put, List.setIfInBounds_toArray, List.set_cons_zero, List.set_cons_succ])
    refine wpAnyH_ready (rs := [9]) (by kernel_rfl) (by simp) ?_
    refine AllReadyH.cons (o := { dst := some 14, op := Op.call { callee := Callee.value (Operand.func 106), args := #[Operand.tmp 8, Operand.tmp 13], argTypes := #[167, 38] }, type := 0, pos := "record.go:125", after := #[{ on := 3, ground := Ground.data }, { on := 8, ground := Ground.data }], guard := none }) rfl (fun K hK => ?_) ?_
    · go_simp; go_at_call 106; refine (NU.out _ _ (by have := HP.out; simp; omega) (Bx.new _ _ _) (HW.out.1.drew.alloc _)).mono ?_; rintro e u ⟨rfl, hu⟩; have hxu := (hx0.drew.alloc (.cells #[.int .i64 x.pg, .int .i64 x.ofs] 3)).only hu.2 hne (by decide)
      refine hK.out _ _ ?_ (fun hHeld => ?_)
      · exact hxu
      clear hK K
      (try simp only [Act.put, List.setIfInBounds_toArray, List.set_cons_zero, List.set_cons_succ])
      refine wpAnyH_done (by kernel_rfl) ?_ _
      refine NoPanic.normal ?_
      have H1 := Lib.hid ((HW.out.drew.alloc (.cells #[.int .i64 x.pg, .int .i64 x.ofs] 3)).then hu)
      have HX1 := Lib.hid hxu
      clear hu hxu X0 X1 HX HW HP NU hHeld hx0
      go_upto_region 2 with fail
      have X2 := fun r (h : Bx r B #[.int .i64 x.pg, .int .i64 x.ofs, .string x.bs] 110) => h.cell 2
      simp at X2
      have hx0 := HX1.out
      have hw0 := H1.out.1.drew
      go_region_held3 (fun w' => Bx w' B #[.int .i64 x.pg, .int .i64 x.ofs, .string x.bs] 110) (first | assumption) (first
        | (go_at_call 109; refine (LO.out _ hw0).mono ?_; rintro e v ⟨rfl, hv⟩; have hxv := hx0.drew.only hv.2 hne (by decide)))
      all_goals go_wp2_with fail
      all_goals go_ret
      all_goals exact ⟨rfl, H1.out.drew.then hv⟩
    exact AllReadyH.nil
  exact AllReadyH.nil
set_option maxHeartbeats 1000000 in
theorem tx_w {C p n c : Nat} {A : Option Addr} (x : Tx) (l0 : BA) (w : World) (h : rightT x = true) (hpC : C ≤ p) (hr : IntsM C w A n x.pages) (hp : p < w.heap.size) (hw : Wr C w p l0 false) (hb : l0.length ≤ 480000) :
    Calls Tryz.prog 116 #[ptr p, txv x A n c] w fun e w' => e = .returned (ptr p) ∧ Wrote C p w (l0 ++ encT x) false w' := by
  obtain ⟨h1, h2, h3⟩ := rightT_iff.1 h
  have HE := Lib.hid (show l0 ++ encT x = (((l0 ++ w2 x.id) ++ w4 x.last) ++ encF x.com) ++ encL w2 x.pages from by unfold encT; simp only [List.append_assoc])
  rw [HE.out]
  have NU := Lib.hid (fun u (hu : Wr C u p l0 false) => num_w C p x.id l0 u h1 (by omega) hu)
  have LO := Lib.hid (fun u (hu : Wr C u p (l0 ++ w2 x.id) false) => long_w C p x.last _ u h2 (by simp only [List.length_append, w2_length]; omega) hu)
  have FL := Lib.hid (fun u (hu : Wr C u p ((l0 ++ w2 x.id) ++ w4 x.last) false) => flag_w C p x.com _ u (by simp only [List.length_append, w2_length, w4_length]; omega) hu)
  have PG := Lib.hid (fun u (hu : Wrote C p w (((l0 ++ w2 x.id) ++ w4 x.last) ++ encF x.com) false u) => pages_w (c := c) _ u hpC (hr.kept (hu.2.below hpC)) h3 hu.1 (by simp only [List.length_append, w2_length, w4_length, encF_length]; omega))
  have HX := Lib.hid (Bx.new w #[.int .i64 x.id, .int .i64 x.last, .bool x.com, .slice A n c] 112)
  have HW := Lib.hid (Wrote.start hw |>.alloc (.cells #[.int .i64 x.id, .int .i64 x.last, .bool x.com, .slice A n c] 112))
  have hne : w.heap.size ≠ p := by omega
  unfold txv
  clear h h1 h2 h3 hw hb hp hr hpC
  go_enter Tryz.func116, Tryz.ntmps116
  go_upto_region 1 with fail
  generalize w.alloc (.cells #[.int .i64 x.id, .int .i64 x.last, .bool x.com, .slice A n c] 112) = W at *
  obtain ⟨B, hB⟩ : ∃ B, B = w.heap.size := ⟨_, rfl⟩
  rw [← hB] at HX hne ⊢
  clear hB
  have X0 := fun r (h : Bx r B #[.int .i64 x.id, .int .i64 x.last, .bool x.com, .slice A n c] 112) => h.cell 0
  have X1 := fun r (h : Bx r B #[.int .i64 x.id, .int .i64 x.last, .bool x.com, .slice A n c] 112) => h.cell 1
  simp at X0 X1
  have hx0 := HX.out
  have hw0 := HW.out.1.drew
  go_region_held3 (fun w' => Bx w' B #[.int .i64 x.id, .int .i64 x.last, .bool x.com, .slice A n c] 112) (first | assumption) (first
    | (go_at_call 107; refine (NU.out _ hw0).mono ?_; rintro e u ⟨rfl, hu⟩; have hxu := hx0.drew.only hu.2 hne (by decide))
    | (go_at_call 108; refine (LO.out _ hu.1).mono ?_; rintro e v ⟨rfl, hv⟩; have hxv := hxu.only hv.2 hne (by decide)))
  have H1 := Lib.hid ((HW.out.drew.then hu).then hv)
  have x2 := hxv.cell 2
  have x3 := hxv.cell 3
  have HXV := Lib.hid hxv
  simp at x2 x3
  clear hu hv hxu hxv hw0 hx0 HW HX X0 X1 NU LO
  go_wp2_with fail
  refine (FL.out _ H1.out.1).mono ?_; rintro e u2 ⟨rfl, hu⟩
  have H2 := Lib.hid (H1.out.then hu)
  have x3 := (HXV.out.only hu.2 hne (by decide)).cell 3
  simp at x3
  clear hu x2
  go_wp2_with fail
  refine (PG.out _ H2.out).mono ?_; rintro e u3 ⟨rfl, hu⟩
  have H3 := Lib.hid (H2.out.then hu)
  clear hu x3
  go_wp2_with fail
  go_ret
  exact ⟨rfl, H3.out⟩
set_option maxHeartbeats 4000000 in
theorem record_w {C p : Nat} (r : Rc) (h : Hd) (l0 : BA) (w : World) (hR : RightR r) (hr : RcM C w r h) (hpC : C ≤ p) (hp : p < w.heap.size) (hw : Wr C w p l0 false) (hb : l0.length ≤ 100000) :
    Calls Tryz.prog 78 #[ptr p, rcv r h] w fun e w' => e = .returned (.tuple #[]) ∧ Wrote C p w (l0 ++ encR r) false w' := by
  have hsm := enc_small hR
  obtain ⟨kind, tx, prev, next, key, had, ⟨ok, ov, ob, oz⟩, pages, pts, txs, dys⟩ := r
  obtain ⟨⟨A1, n1, c1⟩, ⟨A2, n2, c2⟩, ⟨A3, n3, c3⟩, ⟨A4, n4, c4⟩⟩ := h
  obtain ⟨q1, q2, q3, q4, q5, q6, m1, m2, m3, m4⟩ := hr
  obtain ⟨k1, k2, k3, k4, k5, k6, k7, k8, k9, k10⟩ := hR
  simp only at q1 q2 q3 q4 q5 q6 m1 m2 m3 m4 k1 k2 k3 k4 k5 k6 k7 k8 k9 k10
  obtain ⟨o1, o2, o3, o4⟩ := rightO_in k6
  simp only at o1 o2 o3 o4
  obtain ⟨p1, p2⟩ := everyB_iff.1 k8
  obtain ⟨t1, t2⟩ := everyB_iff.1 k9
  obtain ⟨d1, d2⟩ := everyB_iff.1 k10
  obtain ⟨a1, e1⟩ : ∃ a, a = (l0 ++ w2 kind) ++ w2 tx := ⟨_, rfl⟩
  obtain ⟨a2, e2⟩ : ∃ a, a = (a1 ++ w4 prev) ++ w4 next := ⟨_, rfl⟩
  obtain ⟨a3, e3⟩ : ∃ a, a = a2 ++ encS key := ⟨_, rfl⟩
  obtain ⟨a4, e4⟩ : ∃ a, a = a3 ++ encF had := ⟨_, rfl⟩
  obtain ⟨a5, e5⟩ : ∃ a, a = (a4 ++ encS ok) ++ encS ov := ⟨_, rfl⟩
  obtain ⟨a6, e6⟩ : ∃ a, a = (a5 ++ w2 ob) ++ w2 oz := ⟨_, rfl⟩
  obtain ⟨a7, e7⟩ : ∃ a, a = a6 ++ encL w2 pages := ⟨_, rfl⟩
  obtain ⟨a8, e8⟩ : ∃ a, a = a7 ++ encL encP pts := ⟨_, rfl⟩
  obtain ⟨a9, e9⟩ : ∃ a, a = a8 ++ encL encT txs := ⟨_, rfl⟩
  obtain ⟨a10, e10⟩ : ∃ a, a = a9 ++ encL encD dys := ⟨_, rfl⟩
  have HE : l0 ++ encR ⟨kind, tx, prev, next, key, had, ⟨ok, ov, ob, oz⟩, pages, pts, txs, dys⟩ = a10 := by
    rw [e10, e9, e8, e7, e6, e5, e4, e3, e2, e1]
    unfold encR encC
    simp only [List.append_assoc]
  have hlen : a10.length ≤ 120000 := by rw [← HE, List.length_append]; omega
  rw [HE]
  clear HE hsm
  have hl9 : a9.length ≤ 120000 := by have := congrArg List.length e10; simp only [List.length_append] at this; omega
  have hl8 : a8.length ≤ 120000 := by have := congrArg List.length e9; simp only [List.length_append] at this; omega
  have hl7 : a7.length ≤ 120000 := by have := congrArg List.length e8; simp only [List.length_append] at this; omega
  have hl6 : a6.length ≤ 120000 := by have := congrArg List.length e7; simp only [List.length_append] at this; omega
  have hl5 : a5.length ≤ 120000 := by have := congrArg List.length e6; simp only [List.length_append] at this; omega
  have hl4 : a4.length ≤ 120000 := by have := congrArg List.length e5; simp only [List.length_append] at this; omega
  have hl3 : a3.length ≤ 120000 := by have := congrArg List.length e4; simp only [List.length_append] at this; omega
  have hl2 : a2.length ≤ 120000 := by have := congrArg List.length e3; simp only [List.length_append] at this; omega
  have hl1 : a1.length ≤ 120000 := by have := congrArg List.length e2; simp only [List.length_append] at this; omega
  have hl0 : l0.length ≤ 120000 := by have := congrArg List.length e1; simp only [List.length_append] at this; omega
  have N1 := Lib.hid (fun u B (hB : B ≠ p) (hx : Bx u B #[.int .i64 kind, .int .i64 tx] 3) (hu : Wr C u p l0 false) => nums_w (c := 2) l0 u (two_iff.2 ⟨by omega, by omega⟩) k2 hB hx hu (by omega))
  have N2 := Lib.hid (fun u B (hB : B ≠ p) (hx : Bx u B #[.int .i64 prev, .int .i64 next] 3) (hu : Wr C u p a1 false) => longs_w (c := 2) a1 u k3 k4 hB hx hu (by omega))
  have N3 := Lib.hid (fun u (hu : Wr C u p a2 false) => text_w C p key a2 u (by omega) (by omega) hu)
  have N4 := Lib.hid (fun u (hu : Wr C u p a3 false) => flag_w C p had a3 u (by omega) hu)
  have N5 := Lib.hid (fun u B (hB : B ≠ p) (hx : Bx u B #[.string ok, .string ov] 9) (hu : Wr C u p a4 false) => texts_w (c := 2) a4 u (by omega) (by omega) hB hx hu (by omega))
  have N6 := Lib.hid (fun u B (hB : B ≠ p) (hx : Bx u B #[.int .i64 ob, .int .i64 oz] 3) (hu : Wr C u p a5 false) => nums_w (c := 2) a5 u o3 o4 hB hx hu (by omega))
  have N7 := Lib.hid (fun u (hu : Wrote C p w a6 false u) => pages_w (c := c1) a6 u hpC (m1.kept (hu.2.below hpC)) k7 hu.1 (by omega))
  have N8 := Lib.hid (fun u (hu : Wrote C p w a7 false u) => countedP_is (M := 480000) (c := c2) encP a7 u m2.1 (by have := m2.1; omega) hpC (m2.kept (hu.2.below hpC)) hu.1 (by omega) (by have := congrArg List.length e8; simp only [List.length_append] at this; omega) (fun x hx l1 w1 hl hw1 _ => patch_w x l1 w1 (p2 x hx) hw1.lt hw1 (by have := encP_length x; omega)))
  have N9 := Lib.hid (fun u (hu : Wrote C p w a8 false u) => countedT_is (M := 480000) (c := c3) encT a8 u m3.1 (by have := m3.1; omega) hpC (m3.kept (hu.2.below hpC)) hu.1 (by omega) (by have := congrArg List.length e9; simp only [List.length_append] at this; omega) (fun x hx l1 w1 hl hw1 _ A n c hin => tx_w x l1 w1 (t2 x hx) hpC hin hw1.lt hw1 (by have := encT_length x; omega)))
  have N10 := Lib.hid (fun u (hu : Wrote C p w a9 false u) => countedD_is (M := 480000) (c := c4) encD a9 u m4.1 (by have := m4.1; omega) hpC (m4.kept (hu.2.below hpC)) hu.1 (by omega) (by have := congrArg List.length e10; simp only [List.length_append] at this; omega) (fun x hx l1 w1 hl hw1 _ => dirty_w x l1 w1 (d2 x hx) hw1.lt hw1 (by have := encD_length x; omega)))
  rw [← e1] at N1
  rw [← e2] at N2
  rw [← e3] at N3
  rw [← e4] at N4
  rw [← e5] at N5
  rw [← e6] at N6
  rw [← e7] at N7
  rw [← e8] at N8
  rw [← e9] at N9
  rw [← e10] at N10
  have HX := Lib.hid (Bx.new w #[.int .i64 kind, .int .i64 tx, .int .i64 prev, .int .i64 next, .string key, .bool had, .string ok, .string ov, .int .i64 ob, .int .i64 oz, .slice A1 n1 c1, .slice A2 n2 c2, .slice A3 n3 c3, .slice A4 n4 c4] 43)
  have H0 := Lib.hid (Wrote.start hw |>.alloc (.cells #[.int .i64 kind, .int .i64 tx, .int .i64 prev, .int .i64 next, .string key, .bool had, .string ok, .string ov, .int .i64 ob, .int .i64 oz, .slice A1 n1 c1, .slice A2 n2 c2, .slice A3 n3 c3, .slice A4 n4 c4] 43))
  have hne : w.heap.size ≠ p := by omega
  unfold rcv
  dsimp only
  clear hw hb hp m1 m2 m3 m4 k1 k2 k3 k4 k5 k6 k7 k8 k9 k10 q1 q2 q3 q4 q5 q6 p1 p2 t1 t2 d1 d2 o1 o2 o3 o4 hpC hlen e1 e2 e3 e4 e5 e6 e7 e8 e9 e10 hl0 hl1 hl2 hl3 hl4 hl5 hl6 hl7 hl8 hl9
  go_enter Tryz.func78, Tryz.ntmps78
  go_upto_region 1 with fail
  generalize w.alloc (.cells #[.int .i64 kind, .int .i64 tx, .int .i64 prev, .int .i64 next, .string key, .bool had, .string ok, .string ov, .int .i64 ob, .int .i64 oz, .slice A1 n1 c1, .slice A2 n2 c2, .slice A3 n3 c3, .slice A4 n4 c4] 43) = u0 at *
  obtain ⟨B, hB⟩ : ∃ B, B = w.heap.size := ⟨_, rfl⟩
  rw [← hB] at HX hne ⊢
  clear hB
  have HX0 := HX
  clear HX
  have X0 := fun r (h : Bx r B #[.int .i64 kind, .int .i64 tx, .int .i64 prev, .int .i64 next, .string key, .bool had, .string ok, .string ov, .int .i64 ob, .int .i64 oz, .slice A1 n1 c1, .slice A2 n2 c2, .slice A3 n3 c3, .slice A4 n4 c4] 43) => (h.cell 0).trans (show (#[.int .i64 kind, .int .i64 tx, .int .i64 prev, .int .i64 next, .string key, .bool had, .string ok, .string ov, .int .i64 ob, .int .i64 oz, .slice A1 n1 c1, .slice A2 n2 c2, .slice A3 n3 c3, .slice A4 n4 c4] : Array Value)[0]? = some (.int .i64 kind) from rfl)
  have X1 := fun r (h : Bx r B #[.int .i64 kind, .int .i64 tx, .int .i64 prev, .int .i64 next, .string key, .bool had, .string ok, .string ov, .int .i64 ob, .int .i64 oz, .slice A1 n1 c1, .slice A2 n2 c2, .slice A3 n3 c3, .slice A4 n4 c4] 43) => (h.cell 1).trans (show (#[.int .i64 kind, .int .i64 tx, .int .i64 prev, .int .i64 next, .string key, .bool had, .string ok, .string ov, .int .i64 ob, .int .i64 oz, .slice A1 n1 c1, .slice A2 n2 c2, .slice A3 n3 c3, .slice A4 n4 c4] : Array Value)[1]? = some (.int .i64 tx) from rfl)
  have hx0 := HX0.out
  have hp0 := H0.out.1.lt
  refine wp_region_noPanic ?_
  refine wp_region_held_drew (S := fun w' => Bx w' B #[.int .i64 kind, .int .i64 tx, .int .i64 prev, .int .i64 next, .string key, .bool had, .string ok, .string ov, .int .i64 ob, .int .i64 oz, .slice A1 n1 c1, .slice A2 n2 c2, .slice A3 n3 c3, .slice A4 n4 c4] 43) (by kernel_rfl) ?_ (fun hHeld => ?_)
  · exact hx0.drew
  refine wpAnyH_take (i := 0) (oi := { dst := some 4, op := Op.move (Operand.tmp 0), type := 135, pos := "record.go:110", after := #[], guard := none }) (v := .pointer (some ⟨p, 0, none⟩)) rfl (by kernel_rfl) (by kernel_rfl) (by kernel_rfl) (fun _ _ _ h => h) (Or.inl ⟨by rfl, fun w' hSw => by ((try dsimp only at hSw); go_simp)⟩) (by assumption) ?_
  (try simp only [Act.put, List.setIfInBounds_toArray, List.set_cons_zero, List.set_cons_succ])
  refine wpAnyH_take (i := 1) (oi := { dst := some 5, op := Op.nilCheck (Operand.tmp 4), type := 0, pos := "record.go:110", after := #[{ on := 0, ground := Ground.data }], guard := none }) (v := .pointer (some ⟨p, 0, none⟩)) rfl (by kernel_rfl) (by kernel_rfl) (by kernel_rfl) (fun _ _ _ h => h) (Or.inl ⟨by rfl, fun w' hSw => by ((try dsimp only at hSw); go_simp)⟩) (by assumption) ?_
  (try simp only [Act.put, List.setIfInBounds_toArray, List.set_cons_zero, List.set_cons_succ])
  refine wpAnyH_take (i := 2) (oi := { dst := some 6, op := Op.fieldAddr 139 (Operand.tmp 5) 0, type := 0, pos := "record.go:110", after := #[{ on := 1, ground := Ground.data }], guard := none }) (v := .pointer (some ⟨p, 0, none⟩)) rfl (by kernel_rfl) (by kernel_rfl) (by kernel_rfl) (fun _ _ _ h => h) (Or.inl ⟨by rfl, fun w' hSw => by ((try dsimp only at hSw); go_simp)⟩) (by assumption) ?_
  (try simp only [Act.put, List.setIfInBounds_toArray, List.set_cons_zero, List.set_cons_succ])
  refine wpAnyH_take (i := 3) (oi := { dst := some 7, op := Op.makeFunc (Go.Fn.func 107) #[Operand.tmp 6] #[], type := 167, pos := "record.go:110", after := #[{ on := 2, ground := Ground.data }], guard := none }) (v := .func (.func 107) #[.pointer (some ⟨p, 0, none⟩)] #[]) rfl (by kernel_rfl) (by kernel_rfl) (by kernel_rfl) (fun _ _ _ h => h) (Or.inl ⟨by rfl, fun w' hSw => by ((try dsimp only at hSw); go_simp)⟩) (by assumption) ?_
  (try simp only [Act.put, List.setIfInBounds_toArray, List.set_cons_zero, List.set_cons_succ])
  refine wpAnyH_take (i := 4) (oi := { dst := some 8, op := Op.fieldAddr 43 (Operand.tmp 3) 0, type := 0, pos := "record.go:110", after := #[], guard := none }) (v := .pointer (some ⟨B, 0, none⟩)) rfl (by kernel_rfl) (by kernel_rfl) (by kernel_rfl) (fun _ _ _ h => h) (Or.inl ⟨by rfl, fun w' hSw => by ((try dsimp only at hSw); go_simp)⟩) (by assumption) ?_
  (try simp only [Act.put, List.setIfInBounds_toArray, List.set_cons_zero, List.set_cons_succ])
  refine wpAnyH_take (i := 5) (oi := { dst := some 9, op := Op.load 3 (Operand.tmp 8), type := 3, pos := "record.go:110", after := #[{ on := 4, ground := Ground.data }], guard := none }) (v := .int .i64 kind) rfl (by kernel_rfl) (by kernel_rfl) (by kernel_rfl) (fun _ _ _ h => h) (Or.inl ⟨by rfl, fun w' hSw => by ((try dsimp only at hSw); have := X0 _ hSw; go_simp)⟩) (by assumption) ?_
  (try simp only [Act.put, List.setIfInBounds_toArray, List.set_cons_zero, List.set_cons_succ])
  refine wpAnyH_take (i := 6) (oi := { dst := some 10, op := Op.fieldAddr 43 (Operand.tmp 3) 1, type := 0, pos := "record.go:110", after := #[], guard := none }) (v := .pointer (some ⟨B, 1, none⟩)) rfl (by kernel_rfl) (by kernel_rfl) (by kernel_rfl) (fun _ _ _ h => h) (Or.inl ⟨by rfl, fun w' hSw => by ((try dsimp only at hSw); go_simp)⟩) (by assumption) ?_
  (try simp only [Act.put, List.setIfInBounds_toArray, List.set_cons_zero, List.set_cons_succ])
  refine wpAnyH_take (i := 7) (oi := { dst := some 11, op := Op.load 3 (Operand.tmp 10), type := 3, pos := "record.go:110", after := #[{ on := 6, ground := Ground.data }], guard := none }) (v := .int .i64 tx) rfl (by kernel_rfl) (by kernel_rfl) (by kernel_rfl) (fun _ _ _ h => h) (Or.inl ⟨by rfl, fun w' hSw => by ((try dsimp only at hSw); have := X1 _ hSw; go_simp)⟩) (by assumption) ?_
  (try simp only [Act.put, List.setIfInBounds_toArray, List.set_cons_zero, List.set_cons_succ])
  refine wpAnyH_ready (rs := [8]) (by kernel_rfl) (by simp) ?_
  refine AllReadyH.cons (o := { dst := some 12, op := Op.buildSlice 38 2 #[(0, Operand.tmp 9), (1, Operand.tmp 11)], type := 38, pos := "record.go:110", after := #[{ on := 5, ground := Ground.data }, { on := 7, ground := Ground.data }], guard := none }) rfl (fun K hK => ?_) ?_
  · go_simp
    refine hK.out _ _ ?_ (fun hHeld => ?_)
    · exact hx0.drew.alloc _
    clear hK K
    (try simp only [Act.put, List.setIfInBounds_toArray, List.set_cons_zero, List.set_cons_succ])
    refine wpAnyH_ready (rs := [9]) (by kernel_rfl) (by simp) ?_
    refine AllReadyH.cons (o := { dst := some 13, op := Op.call { callee := Callee.value (Operand.func 106), args := #[Operand.tmp 7, Operand.tmp 12], argTypes := #[167, 38] }, type := 0, pos := "record.go:110", after := #[{ on := 3, ground := Ground.data }, { on := 8, ground := Ground.data }], guard := none }) rfl (fun K hK => ?_) ?_
    · go_simp; go_at_call 106; refine (N1.out _ _ (by simp; omega) (Bx.new _ _ _) (H0.out.1.drew.alloc _)).mono ?_; rintro e u1 ⟨rfl, hu⟩; have hxu := (hx0.drew.alloc (.cells #[.int .i64 kind, .int .i64 tx] 3)).only hu.2 hne (by decide)
      refine hK.out _ _ ?_ (fun hHeld => ?_)
      · exact hxu
      clear hK K
      (try simp only [Act.put, List.setIfInBounds_toArray, List.set_cons_zero, List.set_cons_succ])
      refine wpAnyH_done (by kernel_rfl) ?_ _
      refine NoPanic.normal ?_
      have H1 := Lib.hid ((H0.out.drew.alloc (.cells #[.int .i64 kind, .int .i64 tx] 3)).then hu)
      have HX1 := Lib.hid hxu
      clear hu hxu hHeld hx0 hp0 H0 HX0 N1 X0 X1
      go_upto_region 2 with fail
      have X2 := fun r (h : Bx r B #[.int .i64 kind, .int .i64 tx, .int .i64 prev, .int .i64 next, .string key, .bool had, .string ok, .string ov, .int .i64 ob, .int .i64 oz, .slice A1 n1 c1, .slice A2 n2 c2, .slice A3 n3 c3, .slice A4 n4 c4] 43) => (h.cell 2).trans (show (#[.int .i64 kind, .int .i64 tx, .int .i64 prev, .int .i64 next, .string key, .bool had, .string ok, .string ov, .int .i64 ob, .int .i64 oz, .slice A1 n1 c1, .slice A2 n2 c2, .slice A3 n3 c3, .slice A4 n4 c4] : Array Value)[2]? = some (.int .i64 prev) from rfl)
      have X3 := fun r (h : Bx r B #[.int .i64 kind, .int .i64 tx, .int .i64 prev, .int .i64 next, .string key, .bool had, .string ok, .string ov, .int .i64 ob, .int .i64 oz, .slice A1 n1 c1, .slice A2 n2 c2, .slice A3 n3 c3, .slice A4 n4 c4] 43) => (h.cell 3).trans (show (#[.int .i64 kind, .int .i64 tx, .int .i64 prev, .int .i64 next, .string key, .bool had, .string ok, .string ov, .int .i64 ob, .int .i64 oz, .slice A1 n1 c1, .slice A2 n2 c2, .slice A3 n3 c3, .slice A4 n4 c4] : Array Value)[3]? = some (.int .i64 next) from rfl)
      have hx0 := HX1.out
      have hp0 := H1.out.1.lt
      refine wp_region_noPanic ?_
      refine wp_region_held_drew (S := fun w' => Bx w' B #[.int .i64 kind, .int .i64 tx, .int .i64 prev, .int .i64 next, .string key, .bool had, .string ok, .string ov, .int .i64 ob, .int .i64 oz, .slice A1 n1 c1, .slice A2 n2 c2, .slice A3 n3 c3, .slice A4 n4 c4] 43) (by kernel_rfl) ?_ (fun hHeld => ?_)
      · exact hx0.drew
      refine wpAnyH_take (i := 0) (oi := { dst := some 14, op := Op.move (Operand.tmp 0), type := 135, pos := "record.go:111", after := #[], guard := none }) (v := .pointer (some ⟨p, 0, none⟩)) rfl (by kernel_rfl) (by kernel_rfl) (by kernel_rfl) (fun _ _ _ h => h) (Or.inl ⟨by rfl, fun w' hSw => by ((try dsimp only at hSw); go_simp)⟩) (by assumption) ?_
      (try simp only [Act.put, List.setIfInBounds_toArray, List.set_cons_zero, List.set_cons_succ])
      refine wpAnyH_take (i := 1) (oi := { dst := some 15, op := Op.nilCheck (Operand.tmp 14), type := 0, pos := "record.go:111", after := #[{ on := 0, ground := Ground.data }], guard := none }) (v := .pointer (some ⟨p, 0, none⟩)) rfl (by kernel_rfl) (by kernel_rfl) (by kernel_rfl) (fun _ _ _ h => h) (Or.inl ⟨by rfl, fun w' hSw => by ((try dsimp only at hSw); go_simp)⟩) (by assumption) ?_
      (try simp only [Act.put, List.setIfInBounds_toArray, List.set_cons_zero, List.set_cons_succ])
      refine wpAnyH_take (i := 2) (oi := { dst := some 16, op := Op.fieldAddr 139 (Operand.tmp 15) 0, type := 0, pos := "record.go:111", after := #[{ on := 1, ground := Ground.data }], guard := none }) (v := .pointer (some ⟨p, 0, none⟩)) rfl (by kernel_rfl) (by kernel_rfl) (by kernel_rfl) (fun _ _ _ h => h) (Or.inl ⟨by rfl, fun w' hSw => by ((try dsimp only at hSw); go_simp)⟩) (by assumption) ?_
      (try simp only [Act.put, List.setIfInBounds_toArray, List.set_cons_zero, List.set_cons_succ])
      refine wpAnyH_take (i := 3) (oi := { dst := some 17, op := Op.makeFunc (Go.Fn.func 108) #[Operand.tmp 16] #[], type := 167, pos := "record.go:111", after := #[{ on := 2, ground := Ground.data }], guard := none }) (v := .func (.func 108) #[.pointer (some ⟨p, 0, none⟩)] #[]) rfl (by kernel_rfl) (by kernel_rfl) (by kernel_rfl) (fun _ _ _ h => h) (Or.inl ⟨by rfl, fun w' hSw => by ((try dsimp only at hSw); go_simp)⟩) (by assumption) ?_
      (try simp only [Act.put, List.setIfInBounds_toArray, List.set_cons_zero, List.set_cons_succ])
      refine wpAnyH_take (i := 4) (oi := { dst := some 18, op := Op.fieldAddr 43 (Operand.tmp 3) 2, type := 0, pos := "record.go:111", after := #[], guard := none }) (v := .pointer (some ⟨B, 2, none⟩)) rfl (by kernel_rfl) (by kernel_rfl) (by kernel_rfl) (fun _ _ _ h => h) (Or.inl ⟨by rfl, fun w' hSw => by ((try dsimp only at hSw); go_simp)⟩) (by assumption) ?_
      (try simp only [Act.put, List.setIfInBounds_toArray, List.set_cons_zero, List.set_cons_succ])
      refine wpAnyH_take (i := 5) (oi := { dst := some 19, op := Op.load 3 (Operand.tmp 18), type := 3, pos := "record.go:111", after := #[{ on := 4, ground := Ground.data }], guard := none }) (v := .int .i64 prev) rfl (by kernel_rfl) (by kernel_rfl) (by kernel_rfl) (fun _ _ _ h => h) (Or.inl ⟨by rfl, fun w' hSw => by ((try dsimp only at hSw); have := X2 _ hSw; go_simp)⟩) (by assumption) ?_
      (try simp only [Act.put, List.setIfInBounds_toArray, List.set_cons_zero, List.set_cons_succ])
      refine wpAnyH_take (i := 6) (oi := { dst := some 20, op := Op.fieldAddr 43 (Operand.tmp 3) 3, type := 0, pos := "record.go:111", after := #[], guard := none }) (v := .pointer (some ⟨B, 3, none⟩)) rfl (by kernel_rfl) (by kernel_rfl) (by kernel_rfl) (fun _ _ _ h => h) (Or.inl ⟨by rfl, fun w' hSw => by ((try dsimp only at hSw); go_simp)⟩) (by assumption) ?_
      (try simp only [Act.put, List.setIfInBounds_toArray, List.set_cons_zero, List.set_cons_succ])
      refine wpAnyH_take (i := 7) (oi := { dst := some 21, op := Op.load 3 (Operand.tmp 20), type := 3, pos := "record.go:111", after := #[{ on := 6, ground := Ground.data }], guard := none }) (v := .int .i64 next) rfl (by kernel_rfl) (by kernel_rfl) (by kernel_rfl) (fun _ _ _ h => h) (Or.inl ⟨by rfl, fun w' hSw => by ((try dsimp only at hSw); have := X3 _ hSw; go_simp)⟩) (by assumption) ?_
      (try simp only [Act.put, List.setIfInBounds_toArray, List.set_cons_zero, List.set_cons_succ])
      refine wpAnyH_ready (rs := [8]) (by kernel_rfl) (by simp) ?_
      refine AllReadyH.cons (o := { dst := some 22, op := Op.buildSlice 38 2 #[(0, Operand.tmp 19), (1, Operand.tmp 21)], type := 38, pos := "record.go:111", after := #[{ on := 5, ground := Ground.data }, { on := 7, ground := Ground.data }], guard := none }) rfl (fun K hK => ?_) ?_
      · go_simp
        refine hK.out _ _ ?_ (fun hHeld => ?_)
        · exact hx0.drew.alloc _
        clear hK K
        (try simp only [Act.put, List.setIfInBounds_toArray, List.set_cons_zero, List.set_cons_succ])
        refine wpAnyH_ready (rs := [9]) (by kernel_rfl) (by simp) ?_
        refine AllReadyH.cons (o := { dst := some 23, op := Op.call { callee := Callee.value (Operand.func 106), args := #[Operand.tmp 17, Operand.tmp 22], argTypes := #[167, 38] }, type := 0, pos := "record.go:111", after := #[{ on := 3, ground := Ground.data }, { on := 8, ground := Ground.data }], guard := none }) rfl (fun K hK => ?_) ?_
        · go_simp; go_at_call 106; refine (N2.out _ _ (by simp; omega) (Bx.new _ _ _) (H1.out.1.drew.alloc _)).mono ?_; rintro e u2 ⟨rfl, hu⟩; have hxu := (hx0.drew.alloc (.cells #[.int .i64 prev, .int .i64 next] 3)).only hu.2 hne (by decide)
          refine hK.out _ _ ?_ (fun hHeld => ?_)
          · exact hxu
          clear hK K
          (try simp only [Act.put, List.setIfInBounds_toArray, List.set_cons_zero, List.set_cons_succ])
          refine wpAnyH_done (by kernel_rfl) ?_ _
          refine NoPanic.normal ?_
          have H2 := Lib.hid ((H1.out.drew.alloc (.cells #[.int .i64 prev, .int .i64 next] 3)).then hu)
          have HX2 := Lib.hid hxu
          clear hu hxu hHeld hx0 hp0 H1 HX1 N2 X2 X3
          go_upto_region 3 with fail
          have X4 := fun r (h : Bx r B #[.int .i64 kind, .int .i64 tx, .int .i64 prev, .int .i64 next, .string key, .bool had, .string ok, .string ov, .int .i64 ob, .int .i64 oz, .slice A1 n1 c1, .slice A2 n2 c2, .slice A3 n3 c3, .slice A4 n4 c4] 43) => (h.cell 4).trans (show (#[.int .i64 kind, .int .i64 tx, .int .i64 prev, .int .i64 next, .string key, .bool had, .string ok, .string ov, .int .i64 ob, .int .i64 oz, .slice A1 n1 c1, .slice A2 n2 c2, .slice A3 n3 c3, .slice A4 n4 c4] : Array Value)[4]? = some (.string key) from rfl)
          have hx0 := HX2.out
          have hw0 := H2.out.1.drew
          go_region_held3 (fun w' => Bx w' B #[.int .i64 kind, .int .i64 tx, .int .i64 prev, .int .i64 next, .string key, .bool had, .string ok, .string ov, .int .i64 ob, .int .i64 oz, .slice A1 n1 c1, .slice A2 n2 c2, .slice A3 n3 c3, .slice A4 n4 c4] 43) (first | assumption) (first
            | (go_at_call 109; refine (N3.out _ hw0).mono ?_; rintro e u3 ⟨rfl, hu⟩; have hxu := hx0.drew.only hu.2 hne (by decide)))
          have H3 := Lib.hid (H2.out.drew.then hu)
          have HX3 := Lib.hid hxu
          clear hu hxu hx0 hw0 H2 HX2 N3 X4
          have x5 := (HX3.out.cell 5).trans (show (#[.int .i64 kind, .int .i64 tx, .int .i64 prev, .int .i64 next, .string key, .bool had, .string ok, .string ov, .int .i64 ob, .int .i64 oz, .slice A1 n1 c1, .slice A2 n2 c2, .slice A3 n3 c3, .slice A4 n4 c4] : Array Value)[5]? = some (.bool had) from rfl)
          go_wp2_with fail
          refine (N4.out _ H3.out.1).mono ?_; rintro e u4 ⟨rfl, hu⟩
          have H4 := Lib.hid (H3.out.then hu)
          have HX4 := Lib.hid (HX3.out.only hu.2 hne (by decide))
          clear hu x5 H3 HX3 N4
          go_upto_region 5 with fail
          have X6 := fun r (h : Bx r B #[.int .i64 kind, .int .i64 tx, .int .i64 prev, .int .i64 next, .string key, .bool had, .string ok, .string ov, .int .i64 ob, .int .i64 oz, .slice A1 n1 c1, .slice A2 n2 c2, .slice A3 n3 c3, .slice A4 n4 c4] 43) => (h.cell 6).trans (show (#[.int .i64 kind, .int .i64 tx, .int .i64 prev, .int .i64 next, .string key, .bool had, .string ok, .string ov, .int .i64 ob, .int .i64 oz, .slice A1 n1 c1, .slice A2 n2 c2, .slice A3 n3 c3, .slice A4 n4 c4] : Array Value)[6]? = some (.string ok) from rfl)
          have X7 := fun r (h : Bx r B #[.int .i64 kind, .int .i64 tx, .int .i64 prev, .int .i64 next, .string key, .bool had, .string ok, .string ov, .int .i64 ob, .int .i64 oz, .slice A1 n1 c1, .slice A2 n2 c2, .slice A3 n3 c3, .slice A4 n4 c4] 43) => (h.cell 7).trans (show (#[.int .i64 kind, .int .i64 tx, .int .i64 prev, .int .i64 next, .string key, .bool had, .string ok, .string ov, .int .i64 ob, .int .i64 oz, .slice A1 n1 c1, .slice A2 n2 c2, .slice A3 n3 c3, .slice A4 n4 c4] : Array Value)[7]? = some (.string ov) from rfl)
          have hx0 := HX4.out
          have hp0 := H4.out.1.lt
          refine wp_region_noPanic ?_
          refine wp_region_held_drew (S := fun w' => Bx w' B #[.int .i64 kind, .int .i64 tx, .int .i64 prev, .int .i64 next, .string key, .bool had, .string ok, .string ov, .int .i64 ob, .int .i64 oz, .slice A1 n1 c1, .slice A2 n2 c2, .slice A3 n3 c3, .slice A4 n4 c4] 43) (by kernel_rfl) ?_ (fun hHeld => ?_)
          · exact hx0.drew
          refine wpAnyH_take (i := 0) (oi := { dst := some 34, op := Op.move (Operand.tmp 0), type := 135, pos := "record.go:114", after := #[], guard := none }) (v := .pointer (some ⟨p, 0, none⟩)) rfl (by kernel_rfl) (by kernel_rfl) (by kernel_rfl) (fun _ _ _ h => h) (Or.inl ⟨by rfl, fun w' hSw => by ((try dsimp only at hSw); go_simp)⟩) (by assumption) ?_
          (try simp only [Act.put, List.setIfInBounds_toArray, List.set_cons_zero, List.set_cons_succ])
          refine wpAnyH_take (i := 1) (oi := { dst := some 35, op := Op.nilCheck (Operand.tmp 34), type := 0, pos := "record.go:114", after := #[{ on := 0, ground := Ground.data }], guard := none }) (v := .pointer (some ⟨p, 0, none⟩)) rfl (by kernel_rfl) (by kernel_rfl) (by kernel_rfl) (fun _ _ _ h => h) (Or.inl ⟨by rfl, fun w' hSw => by ((try dsimp only at hSw); go_simp)⟩) (by assumption) ?_
          (try simp only [Act.put, List.setIfInBounds_toArray, List.set_cons_zero, List.set_cons_succ])
          refine wpAnyH_take (i := 2) (oi := { dst := some 36, op := Op.fieldAddr 139 (Operand.tmp 35) 0, type := 0, pos := "record.go:114", after := #[{ on := 1, ground := Ground.data }], guard := none }) (v := .pointer (some ⟨p, 0, none⟩)) rfl (by kernel_rfl) (by kernel_rfl) (by kernel_rfl) (fun _ _ _ h => h) (Or.inl ⟨by rfl, fun w' hSw => by ((try dsimp only at hSw); go_simp)⟩) (by assumption) ?_
          (try simp only [Act.put, List.setIfInBounds_toArray, List.set_cons_zero, List.set_cons_succ])
          refine wpAnyH_take (i := 3) (oi := { dst := some 37, op := Op.makeFunc (Go.Fn.func 109) #[Operand.tmp 36] #[], type := 169, pos := "record.go:114", after := #[{ on := 2, ground := Ground.data }], guard := none }) (v := .func (.func 109) #[.pointer (some ⟨p, 0, none⟩)] #[]) rfl (by kernel_rfl) (by kernel_rfl) (by kernel_rfl) (fun _ _ _ h => h) (Or.inl ⟨by rfl, fun w' hSw => by ((try dsimp only at hSw); go_simp)⟩) (by assumption) ?_
          (try simp only [Act.put, List.setIfInBounds_toArray, List.set_cons_zero, List.set_cons_succ])
          refine wpAnyH_take (i := 4) (oi := { dst := some 38, op := Op.fieldAddr 43 (Operand.tmp 3) 6, type := 0, pos := "record.go:114", after := #[], guard := none }) (v := .pointer (some ⟨B, 6, none⟩)) rfl (by kernel_rfl) (by kernel_rfl) (by kernel_rfl) (fun _ _ _ h => h) (Or.inl ⟨by rfl, fun w' hSw => by ((try dsimp only at hSw); go_simp)⟩) (by assumption) ?_
          (try simp only [Act.put, List.setIfInBounds_toArray, List.set_cons_zero, List.set_cons_succ])
          refine wpAnyH_take (i := 5) (oi := { dst := some 39, op := Op.fieldAddr 37 (Operand.tmp 38) 0, type := 0, pos := "record.go:114", after := #[{ on := 4, ground := Ground.data }], guard := none }) (v := .pointer (some ⟨B, 6, none⟩)) rfl (by kernel_rfl) (by kernel_rfl) (by kernel_rfl) (fun _ _ _ h => h) (Or.inl ⟨by rfl, fun w' hSw => by ((try dsimp only at hSw); go_simp)⟩) (by assumption) ?_
          (try simp only [Act.put, List.setIfInBounds_toArray, List.set_cons_zero, List.set_cons_succ])
          refine wpAnyH_take (i := 6) (oi := { dst := some 40, op := Op.load 9 (Operand.tmp 39), type := 9, pos := "record.go:114", after := #[{ on := 5, ground := Ground.data }], guard := none }) (v := .string ok) rfl (by kernel_rfl) (by kernel_rfl) (by kernel_rfl) (fun _ _ _ h => h) (Or.inl ⟨by rfl, fun w' hSw => by ((try dsimp only at hSw); have := X6 _ hSw; go_simp)⟩) (by assumption) ?_
          (try simp only [Act.put, List.setIfInBounds_toArray, List.set_cons_zero, List.set_cons_succ])
          refine wpAnyH_take (i := 7) (oi := { dst := some 41, op := Op.fieldAddr 43 (Operand.tmp 3) 6, type := 0, pos := "record.go:114", after := #[], guard := none }) (v := .pointer (some ⟨B, 6, none⟩)) rfl (by kernel_rfl) (by kernel_rfl) (by kernel_rfl) (fun _ _ _ h => h) (Or.inl ⟨by rfl, fun w' hSw => by ((try dsimp only at hSw); go_simp)⟩) (by assumption) ?_
          (try simp only [Act.put, List.setIfInBounds_toArray, List.set_cons_zero, List.set_cons_succ])
          refine wpAnyH_take (i := 8) (oi := { dst := some 42, op := Op.fieldAddr 37 (Operand.tmp 41) 1, type := 0, pos := "record.go:114", after := #[{ on := 7, ground := Ground.data }], guard := none }) (v := .pointer (some ⟨B, 7, none⟩)) rfl (by kernel_rfl) (by kernel_rfl) (by kernel_rfl) (fun _ _ _ h => h) (Or.inl ⟨by rfl, fun w' hSw => by ((try dsimp only at hSw); go_simp)⟩) (by assumption) ?_
          (try simp only [Act.put, List.setIfInBounds_toArray, List.set_cons_zero, List.set_cons_succ])
          refine wpAnyH_take (i := 9) (oi := { dst := some 43, op := Op.load 9 (Operand.tmp 42), type := 9, pos := "record.go:114", after := #[{ on := 8, ground := Ground.data }], guard := none }) (v := .string ov) rfl (by kernel_rfl) (by kernel_rfl) (by kernel_rfl) (fun _ _ _ h => h) (Or.inl ⟨by rfl, fun w' hSw => by ((try dsimp only at hSw); have := X7 _ hSw; go_simp)⟩) (by assumption) ?_
          (try simp only [Act.put, List.setIfInBounds_toArray, List.set_cons_zero, List.set_cons_succ])
          refine wpAnyH_ready (rs := [10]) (by kernel_rfl) (by simp) ?_
          refine AllReadyH.cons (o := { dst := some 44, op := Op.buildSlice 50 2 #[(0, Operand.tmp 40), (1, Operand.tmp 43)], type := 50, pos := "record.go:114", after := #[{ on := 6, ground := Ground.data }, { on := 9, ground := Ground.data }], guard := none }) rfl (fun K hK => ?_) ?_
          · go_simp
            refine hK.out _ _ ?_ (fun hHeld => ?_)
            · exact hx0.drew.alloc _
            clear hK K
            (try simp only [Act.put, List.setIfInBounds_toArray, List.set_cons_zero, List.set_cons_succ])
            refine wpAnyH_ready (rs := [11]) (by kernel_rfl) (by simp) ?_
            refine AllReadyH.cons (o := { dst := some 45, op := Op.call { callee := Callee.value (Operand.func 111), args := #[Operand.tmp 37, Operand.tmp 44], argTypes := #[169, 50] }, type := 0, pos := "record.go:114", after := #[{ on := 3, ground := Ground.data }, { on := 10, ground := Ground.data }], guard := none }) rfl (fun K hK => ?_) ?_
            · go_simp; go_at_call 111; refine (N5.out _ _ (by simp; omega) (Bx.new _ _ _) (H4.out.1.drew.alloc _)).mono ?_; rintro e u5 ⟨rfl, hu⟩; have hxu := (hx0.drew.alloc (.cells #[.string ok, .string ov] 9)).only hu.2 hne (by decide)
              refine hK.out _ _ ?_ (fun hHeld => ?_)
              · exact hxu
              clear hK K
              (try simp only [Act.put, List.setIfInBounds_toArray, List.set_cons_zero, List.set_cons_succ])
              refine wpAnyH_done (by kernel_rfl) ?_ _
              refine NoPanic.normal ?_
              have H5 := Lib.hid ((H4.out.drew.alloc (.cells #[.string ok, .string ov] 9)).then hu)
              have HX5 := Lib.hid hxu
              clear hu hxu hHeld hx0 hp0 H4 HX4 N5 X6 X7
              go_upto_region 6 with fail
              have X8 := fun r (h : Bx r B #[.int .i64 kind, .int .i64 tx, .int .i64 prev, .int .i64 next, .string key, .bool had, .string ok, .string ov, .int .i64 ob, .int .i64 oz, .slice A1 n1 c1, .slice A2 n2 c2, .slice A3 n3 c3, .slice A4 n4 c4] 43) => (h.cell 8).trans (show (#[.int .i64 kind, .int .i64 tx, .int .i64 prev, .int .i64 next, .string key, .bool had, .string ok, .string ov, .int .i64 ob, .int .i64 oz, .slice A1 n1 c1, .slice A2 n2 c2, .slice A3 n3 c3, .slice A4 n4 c4] : Array Value)[8]? = some (.int .i64 ob) from rfl)
              have X9 := fun r (h : Bx r B #[.int .i64 kind, .int .i64 tx, .int .i64 prev, .int .i64 next, .string key, .bool had, .string ok, .string ov, .int .i64 ob, .int .i64 oz, .slice A1 n1 c1, .slice A2 n2 c2, .slice A3 n3 c3, .slice A4 n4 c4] 43) => (h.cell 9).trans (show (#[.int .i64 kind, .int .i64 tx, .int .i64 prev, .int .i64 next, .string key, .bool had, .string ok, .string ov, .int .i64 ob, .int .i64 oz, .slice A1 n1 c1, .slice A2 n2 c2, .slice A3 n3 c3, .slice A4 n4 c4] : Array Value)[9]? = some (.int .i64 oz) from rfl)
              have hx0 := HX5.out
              have hp0 := H5.out.1.lt
              refine wp_region_noPanic ?_
              refine wp_region_held_drew (S := fun w' => Bx w' B #[.int .i64 kind, .int .i64 tx, .int .i64 prev, .int .i64 next, .string key, .bool had, .string ok, .string ov, .int .i64 ob, .int .i64 oz, .slice A1 n1 c1, .slice A2 n2 c2, .slice A3 n3 c3, .slice A4 n4 c4] 43) (by kernel_rfl) ?_ (fun hHeld => ?_)
              · exact hx0.drew
              refine wpAnyH_take (i := 0) (oi := { dst := some 46, op := Op.move (Operand.tmp 0), type := 135, pos := "record.go:115", after := #[], guard := none }) (v := .pointer (some ⟨p, 0, none⟩)) rfl (by kernel_rfl) (by kernel_rfl) (by kernel_rfl) (fun _ _ _ h => h) (Or.inl ⟨by rfl, fun w' hSw => by ((try dsimp only at hSw); go_simp)⟩) (by assumption) ?_
              (try simp only [Act.put, List.setIfInBounds_toArray, List.set_cons_zero, List.set_cons_succ])
              refine wpAnyH_take (i := 1) (oi := { dst := some 47, op := Op.nilCheck (Operand.tmp 46), type := 0, pos := "record.go:115", after := #[{ on := 0, ground := Ground.data }], guard := none }) (v := .pointer (some ⟨p, 0, none⟩)) rfl (by kernel_rfl) (by kernel_rfl) (by kernel_rfl) (fun _ _ _ h => h) (Or.inl ⟨by rfl, fun w' hSw => by ((try dsimp only at hSw); go_simp)⟩) (by assumption) ?_
              (try simp only [Act.put, List.setIfInBounds_toArray, List.set_cons_zero, List.set_cons_succ])
              refine wpAnyH_take (i := 2) (oi := { dst := some 48, op := Op.fieldAddr 139 (Operand.tmp 47) 0, type := 0, pos := "record.go:115", after := #[{ on := 1, ground := Ground.data }], guard := none }) (v := .pointer (some ⟨p, 0, none⟩)) rfl (by kernel_rfl) (by kernel_rfl) (by kernel_rfl) (fun _ _ _ h => h) (Or.inl ⟨by rfl, fun w' hSw => by ((try dsimp only at hSw); go_simp)⟩) (by assumption) ?_
              (try simp only [Act.put, List.setIfInBounds_toArray, List.set_cons_zero, List.set_cons_succ])
              refine wpAnyH_take (i := 3) (oi := { dst := some 49, op := Op.makeFunc (Go.Fn.func 107) #[Operand.tmp 48] #[], type := 167, pos := "record.go:115", after := #[{ on := 2, ground := Ground.data }], guard := none }) (v := .func (.func 107) #[.pointer (some ⟨p, 0, none⟩)] #[]) rfl (by kernel_rfl) (by kernel_rfl) (by kernel_rfl) (fun _ _ _ h => h) (Or.inl ⟨by rfl, fun w' hSw => by ((try dsimp only at hSw); go_simp)⟩) (by assumption) ?_
              (try simp only [Act.put, List.setIfInBounds_toArray, List.set_cons_zero, List.set_cons_succ])
              refine wpAnyH_take (i := 4) (oi := { dst := some 50, op := Op.fieldAddr 43 (Operand.tmp 3) 6, type := 0, pos := "record.go:115", after := #[], guard := none }) (v := .pointer (some ⟨B, 6, none⟩)) rfl (by kernel_rfl) (by kernel_rfl) (by kernel_rfl) (fun _ _ _ h => h) (Or.inl ⟨by rfl, fun w' hSw => by ((try dsimp only at hSw); go_simp)⟩) (by assumption) ?_
              (try simp only [Act.put, List.setIfInBounds_toArray, List.set_cons_zero, List.set_cons_succ])
              refine wpAnyH_take (i := 5) (oi := { dst := some 51, op := Op.fieldAddr 37 (Operand.tmp 50) 2, type := 0, pos := "record.go:115", after := #[{ on := 4, ground := Ground.data }], guard := none }) (v := .pointer (some ⟨B, 8, none⟩)) rfl (by kernel_rfl) (by kernel_rfl) (by kernel_rfl) (fun _ _ _ h => h) (Or.inl ⟨by rfl, fun w' hSw => by ((try dsimp only at hSw); go_simp)⟩) (by assumption) ?_
              (try simp only [Act.put, List.setIfInBounds_toArray, List.set_cons_zero, List.set_cons_succ])
              refine wpAnyH_take (i := 6) (oi := { dst := some 52, op := Op.load 3 (Operand.tmp 51), type := 3, pos := "record.go:115", after := #[{ on := 5, ground := Ground.data }], guard := none }) (v := .int .i64 ob) rfl (by kernel_rfl) (by kernel_rfl) (by kernel_rfl) (fun _ _ _ h => h) (Or.inl ⟨by rfl, fun w' hSw => by ((try dsimp only at hSw); have := X8 _ hSw; go_simp)⟩) (by assumption) ?_
              (try simp only [Act.put, List.setIfInBounds_toArray, List.set_cons_zero, List.set_cons_succ])
              refine wpAnyH_take (i := 7) (oi := { dst := some 53, op := Op.fieldAddr 43 (Operand.tmp 3) 6, type := 0, pos := "record.go:115", after := #[], guard := none }) (v := .pointer (some ⟨B, 6, none⟩)) rfl (by kernel_rfl) (by kernel_rfl) (by kernel_rfl) (fun _ _ _ h => h) (Or.inl ⟨by rfl, fun w' hSw => by ((try dsimp only at hSw); go_simp)⟩) (by assumption) ?_
              (try simp only [Act.put, List.setIfInBounds_toArray, List.set_cons_zero, List.set_cons_succ])
              refine wpAnyH_take (i := 8) (oi := { dst := some 54, op := Op.fieldAddr 37 (Operand.tmp 53) 3, type := 0, pos := "record.go:115", after := #[{ on := 7, ground := Ground.data }], guard := none }) (v := .pointer (some ⟨B, 9, none⟩)) rfl (by kernel_rfl) (by kernel_rfl) (by kernel_rfl) (fun _ _ _ h => h) (Or.inl ⟨by rfl, fun w' hSw => by ((try dsimp only at hSw); go_simp)⟩) (by assumption) ?_
              (try simp only [Act.put, List.setIfInBounds_toArray, List.set_cons_zero, List.set_cons_succ])
              refine wpAnyH_take (i := 9) (oi := { dst := some 55, op := Op.load 3 (Operand.tmp 54), type := 3, pos := "record.go:115", after := #[{ on := 8, ground := Ground.data }], guard := none }) (v := .int .i64 oz) rfl (by kernel_rfl) (by kernel_rfl) (by kernel_rfl) (fun _ _ _ h => h) (Or.inl ⟨by rfl, fun w' hSw => by ((try dsimp only at hSw); have := X9 _ hSw; go_simp)⟩) (by assumption) ?_
              (try simp only [Act.put, List.setIfInBounds_toArray, List.set_cons_zero, List.set_cons_succ])
              refine wpAnyH_ready (rs := [10]) (by kernel_rfl) (by simp) ?_
              refine AllReadyH.cons (o := { dst := some 56, op := Op.buildSlice 38 2 #[(0, Operand.tmp 52), (1, Operand.tmp 55)], type := 38, pos := "record.go:115", after := #[{ on := 6, ground := Ground.data }, { on := 9, ground := Ground.data }], guard := none }) rfl (fun K hK => ?_) ?_
              · go_simp
                refine hK.out _ _ ?_ (fun hHeld => ?_)
                · exact hx0.drew.alloc _
                clear hK K
                (try simp only [Act.put, List.setIfInBounds_toArray, List.set_cons_zero, List.set_cons_succ])
                refine wpAnyH_ready (rs := [11]) (by kernel_rfl) (by simp) ?_
                refine AllReadyH.cons (o := { dst := some 57, op := Op.call { callee := Callee.value (Operand.func 106), args := #[Operand.tmp 49, Operand.tmp 56], argTypes := #[167, 38] }, type := 0, pos := "record.go:115", after := #[{ on := 3, ground := Ground.data }, { on := 10, ground := Ground.data }], guard := none }) rfl (fun K hK => ?_) ?_
                · go_simp; go_at_call 106; refine (N6.out _ _ (by simp; omega) (Bx.new _ _ _) (H5.out.1.drew.alloc _)).mono ?_; rintro e u6 ⟨rfl, hu⟩; have hxu := (hx0.drew.alloc (.cells #[.int .i64 ob, .int .i64 oz] 3)).only hu.2 hne (by decide)
                  refine hK.out _ _ ?_ (fun hHeld => ?_)
                  · exact hxu
                  clear hK K
                  (try simp only [Act.put, List.setIfInBounds_toArray, List.set_cons_zero, List.set_cons_succ])
                  refine wpAnyH_done (by kernel_rfl) ?_ _
                  refine NoPanic.normal ?_
                  have H6 := Lib.hid ((H5.out.drew.alloc (.cells #[.int .i64 ob, .int .i64 oz] 3)).then hu)
                  have HX6 := Lib.hid hxu
                  clear hu hxu hHeld hx0 hp0 H5 HX5 N6 X8 X9
                  have x10 := (HX6.out.cell 10).trans (show (#[.int .i64 kind, .int .i64 tx, .int .i64 prev, .int .i64 next, .string key, .bool had, .string ok, .string ov, .int .i64 ob, .int .i64 oz, .slice A1 n1 c1, .slice A2 n2 c2, .slice A3 n3 c3, .slice A4 n4 c4] : Array Value)[10]? = some (.slice A1 n1 c1) from rfl)
                  go_wp2_with fail
                  refine (N7.out _ H6.out).mono ?_; rintro e u7 ⟨rfl, hu⟩
                  have H7 := Lib.hid (H6.out.then hu)
                  have HX7 := Lib.hid (HX6.out.only hu.2 hne (by decide))
                  clear hu x10 H6 HX6 N7
                  have x11 := (HX7.out.cell 11).trans (show (#[.int .i64 kind, .int .i64 tx, .int .i64 prev, .int .i64 next, .string key, .bool had, .string ok, .string ov, .int .i64 ob, .int .i64 oz, .slice A1 n1 c1, .slice A2 n2 c2, .slice A3 n3 c3, .slice A4 n4 c4] : Array Value)[11]? = some (.slice A2 n2 c2) from rfl)
                  go_wp2_with fail
                  refine (N8.out _ H7.out).mono ?_; rintro e u8 ⟨rfl, hu⟩
                  have H8 := Lib.hid (H7.out.then hu)
                  have HX8 := Lib.hid (HX7.out.only hu.2 hne (by decide))
                  clear hu x11 H7 HX7 N8
                  have x12 := (HX8.out.cell 12).trans (show (#[.int .i64 kind, .int .i64 tx, .int .i64 prev, .int .i64 next, .string key, .bool had, .string ok, .string ov, .int .i64 ob, .int .i64 oz, .slice A1 n1 c1, .slice A2 n2 c2, .slice A3 n3 c3, .slice A4 n4 c4] : Array Value)[12]? = some (.slice A3 n3 c3) from rfl)
                  go_wp2_with fail
                  refine (N9.out _ H8.out).mono ?_; rintro e u9 ⟨rfl, hu⟩
                  have H9 := Lib.hid (H8.out.then hu)
                  have HX9 := Lib.hid (HX8.out.only hu.2 hne (by decide))
                  clear hu x12 H8 HX8 N9
                  have x13 := (HX9.out.cell 13).trans (show (#[.int .i64 kind, .int .i64 tx, .int .i64 prev, .int .i64 next, .string key, .bool had, .string ok, .string ov, .int .i64 ob, .int .i64 oz, .slice A1 n1 c1, .slice A2 n2 c2, .slice A3 n3 c3, .slice A4 n4 c4] : Array Value)[13]? = some (.slice A4 n4 c4) from rfl)
                  go_wp2_with fail
                  refine (N10.out _ H9.out).mono ?_; rintro e u10 ⟨rfl, hu⟩
                  have H10 := Lib.hid (H9.out.then hu)
                  have HX10 := Lib.hid (HX9.out.only hu.2 hne (by decide))
                  clear hu x13 H9 HX9 N10
                  go_wp2_with fail
                  go_end0
                  exact ⟨rfl, H10.out⟩
                exact AllReadyH.nil
              exact AllReadyH.nil
            exact AllReadyH.nil
          exact AllReadyH.nil
        exact AllReadyH.nil
      exact AllReadyH.nil
    exact AllReadyH.nil
  exact AllReadyH.nil
end Go.Proofs.YtnjggoeahaglbaaGreat.Rc

/- What the record's reader reads: texts, flags, lists, patches, transactions, dirty pages. -/
namespace Go.Proofs
open Go.Shelf
def Tryz.RccloL_ren : Go.Shelf.Ren := ⟨fun | 316 => 155 | n => n, fun | 9 => 9 | 3 => 3 | 4 => 4 | 37 => 70 | 0 => 0 | 127 => 219 | 5 => 5 | n => n, fun | n => n⟩
theorem Tryz.RccloL : Go.Proofs.LaysM.n316 Tryz.prog Tryz.RccloL_ren := {
  mixed := by kernel_rfl
  f316 := Tryz.func155.trans (congrArg some (by kernel_rfl))
  t0 := Tryz.underlying0
  a0 := Tryz.isAgg0
  z0 := Tryz.sizeOf0
  v0 := Tryz.zeroValue0
  t3 := Tryz.underlying3
  a3 := Tryz.isAgg3
  z3 := Tryz.sizeOf3
  v3 := Tryz.zeroValue3
  t4 := Tryz.underlying4
  a4 := Tryz.isAgg4
  z4 := Tryz.sizeOf4
  v4 := Tryz.zeroValue4
  t9 := Tryz.underlying9
  a9 := Tryz.isAgg9
  z9 := Tryz.sizeOf9
  v9 := Tryz.zeroValue9
  t37 := Tryz.underlying70
  a37 := Tryz.isAgg70
  z37 := Tryz.sizeOf70
  v37 := Tryz.zeroValue70
  t127 := Tryz.underlying219
  a127 := Tryz.isAgg219
  z127 := Tryz.sizeOf219
  v127 := Tryz.zeroValue219
  t5 := Tryz.underlying5
  a5 := Tryz.isAgg5
  z5 := Tryz.sizeOf5
  v5 := Tryz.zeroValue5
  i0 := by kernel_rfl
  i3 := by kernel_rfl
  i4 := by kernel_rfl
  i5 := by kernel_rfl
  i9 := by kernel_rfl
  i37 := by kernel_rfl
  i127 := by kernel_rfl }
end Go.Proofs
namespace Go.Proofs.YtnjggoeahaglbaaGreat.Rc
open Go.ChangeShapes Go.WideShapes Go.ChangeAt Go.RowKit Go.Shelf
set_option linter.unusedVariables false
set_option linter.unusedSimpArgs false
set_option maxRecDepth 100000
theorem clone_any (s : ByteArray) (hs : s.size ≤ 281474976710656) (w : World) : Calls Tryz.prog 134 #[.string s] w fun e w' => e = .returned (.string s) ∧ Below w.heap.size w w' := by
  have R := Lib.hid (fun w => Any.stringslite_Clone Tryz.RccloL s w hs)
  go_enter Tryz.func134, Tryz.ntmps134
  go_wp2_with fail
  refine (R.out _).mono ?_; rintro e w1 ⟨rfl, hb⟩
  have HB := Lib.hid hb
  clear hb
  go_wp2_with fail
  go_ret
  exact ⟨rfl, HB.out⟩
theorem RdS.lt {w : World} {q : Nat} {s : RS} (h : RdS w q s) : q < w.heap.size := Rd.lt h
theorem RdS.alloc {w : World} {q : Nat} {s : RS} (h : RdS w q s) (o : Obj) : RdS (w.alloc o) q s := Rd.alloc h o
theorem RdS.drew {w : World} {q : Nat} {s : RS} (h : RdS w q s) : RdS w.drew q s := h
theorem ReadS.start {C q : Nat} {w : World} {s : RS} (h : RdS w q s) : ReadS C q w s w := ⟨h, Only.refl _ _ _⟩
theorem ReadS.alloc {C q : Nat} {w w1 : World} {s : RS} (h : ReadS C q w s w1) (hC : C ≤ w.heap.size) (o : Obj) : ReadS C q w s (w1.alloc o) := ⟨h.1.alloc o, h.2.alloc (Nat.le_trans hC h.2.size) o⟩
theorem ReadS.drew {C q : Nat} {w w1 : World} {s : RS} (h : ReadS C q w s w1) : ReadS C q w s w1.drew := ⟨h.1, h.2.drew⟩
theorem ReadS.below {C q : Nat} {w w1 w2 : World} {s : RS} (h : ReadS C q w s w1) (hC : C ≤ w.heap.size) (hb : Below w1.heap.size w1 w2) : ReadS C q w s w2 := Read.on h hC hb
/-- A block made since is written: what was there is as it was. -/
theorem ReadS.set {C q B i : Nat} {w w1 : World} {s : RS} {u : Value} (h : ReadS C q w s w1) (hC : C ≤ w.heap.size) (hB : w.heap.size ≤ B) (hq : q < w.heap.size) : ReadS C q w s (w1.setCell ⟨B, i, none⟩ u) := by
  refine ⟨(Below.heap_setCell w1 ⟨B, i, none⟩ u q (show q ≠ B by omega)).trans h.1, h.2.os, h.2.tape, h.2.output, by rw [World.size_setCell]; exact h.2.size, fun k hk hkq => ?_, fun k cs t fr hkq ht hh => ?_⟩
  · rw [Below.heap_setCell w1 ⟨B, i, none⟩ u k (show k ≠ B by omega)]
    exact h.2.block k hk hkq
  · have hk := block_of_heap hh
    rw [Below.heap_setCell w1 ⟨B, i, none⟩ u k (show k ≠ B by omega)]
    exact h.2.typed k cs t fr hkq ht hh
theorem Bx.set {w : World} {B i : Nat} {cs : Array Value} {t : TypeId} (h : Bx w B cs t) (u : Value) : Bx (w.setCell ⟨B, i, none⟩ u) B (cs.setIfInBounds i u) t := by
  unfold Bx
  rw [setCell_eq_setRow w B i cs t (0, 0) u h, setRow_heap w B _ _ _ _ h]
theorem Bx.other {w : World} {B D i : Nat} {cs : Array Value} {t : TypeId} (h : Bx w B cs t) (hne : B ≠ D) (u : Value) : Bx (w.setCell ⟨D, i, none⟩ u) B cs t := (Below.heap_setCell w ⟨D, i, none⟩ u B hne).trans h
section
variable {P : Program}
theorem step_store_row {ops : Array Oper} {o : Oper} {a : Act} {w : World} {K : Act → World → Prop} {Q : Exit → Act → World → Prop} {E : Prop} (hgd : o.guard = none) (ty : TypeId) (x y : Operand) (ho : o.op = .store ty x y)
    (g : Nat) (cells : Array Value) (hx : a.eval x = .pointer (some ⟨g, 0, none⟩)) (hy : a.eval y = .agg cells)
    (t : TypeId) (old : Array Value) (hg : Bx w g old t) (hi : (P.info? ty).map (·.size) = some cells.size)
    (hold : old.size = cells.size) (h1 : cells.all (·.oneCell') = true)
    (h : K (a.put o.dst undef) (w.setRow g cells)) : if Region.wanted o (yielded ops a.tmps) = true then Oper.wp P o a w K Q else E := by
  have hw : Region.wanted o (yielded ops a.tmps) = true := by simp [Region.wanted, hgd]
  rw [if_pos hw]
  exact wp_store_row ty x y ho g cells hx hy t old hg hi hold h1 h
end
theorem Bx.row {w : World} {B : Nat} {cs : Array Value} {t : TypeId} (h : Bx w B cs t) (ds : Array Value) : Bx (w.setRow B ds) B ds t := setRow_heap w B _ _ _ _ h
theorem row_other (w : World) (B k : Nat) (ds : Array Value) (h : k ≠ B) : (w.setRow B ds).heap[k]? = w.heap[k]? := by
  simp [World.setRow, Array.getElem?_modify, Ne.symm h]
theorem row_size (w : World) (B : Nat) (ds : Array Value) : (w.setRow B ds).heap.size = w.heap.size := by simp [World.setRow]
theorem Bx.orow {w : World} {B D : Nat} {cs : Array Value} {t : TypeId} (h : Bx w B cs t) (hne : B ≠ D) (ds : Array Value) : Bx (w.setRow D ds) B cs t := (row_other w D B ds hne).trans h
theorem ReadS.row {C q B : Nat} {w w1 : World} {s : RS} {ds : Array Value} (h : ReadS C q w s w1) (hC : C ≤ w.heap.size) (hB : w.heap.size ≤ B) (hq : q < w.heap.size) : ReadS C q w s (w1.setRow B ds) := by
  refine ⟨(row_other w1 B q ds (by omega)).trans h.1, h.2.os, h.2.tape, h.2.output, by rw [row_size]; exact h.2.size, fun k hk hkq => ?_, fun k cs t fr hkq ht hh => ?_⟩
  · rw [row_other w1 B k ds (by omega)]
    exact h.2.block k hk hkq
  · have hk := block_of_heap hh
    rw [row_other w1 B k ds (by omega)]
    exact h.2.typed k cs t fr hkq ht hh
theorem text_r (C q : Nat) (s : RS) (w : World) (hs : Few s) (hC : C ≤ w.heap.size) (hr : RdS w q s) : Calls Tryz.prog 124 #[.agg #[ptr q]] w fun e w' => e = .returned (.string (textR s).1) ∧ ReadS C q w (textR s).2 w' := by
  have H0 := Lib.hid (ReadS.start (C := C) hr |>.alloc hC (.cells #[ptr q] 154))
  have TX := Lib.hid (rtext_any C q s (w.alloc (.cells #[ptr q] 154)) hs (by simp; omega) H0.out.1)
  have CL := Lib.hid (fun w => clone_any (textR s).1 (by have := textR_in hs; omega) w)
  have HC := Lib.hid hC
  clear hs hC hr
  generalize (textR s).1 = x at *
  generalize (textR s).2 = s1 at *
  go_enter Tryz.func124, Tryz.ntmps124
  go_wp2_with fail
  refine TX.out.mono ?_; rintro e w1 ⟨rfl, hr⟩
  have H1 := Lib.hid (H0.out.then hr)
  clear hr
  go_wp2_with fail
  refine (CL.out _).mono ?_; rintro e w2 ⟨rfl, hb⟩
  have H2 := Lib.hid (H1.out.below HC.out hb)
  clear hb
  go_wp2_with fail
  go_ret
  exact ⟨rfl, H2.out⟩
theorem flag_r (C q : Nat) (s : RS) (w : World) (hs : Few s) (hC : C ≤ w.heap.size) (hr : RdS w q s) : Calls Tryz.prog 125 #[.agg #[ptr q]] w fun e w' => e = .returned (.bool (flagR s).1) ∧ ReadS C q w (flagR s).2 w' := by
  have H0 := Lib.hid (ReadS.start (C := C) hr |>.alloc hC (.cells #[ptr q] 154))
  have TX := Lib.hid (rnum_any C q s (w.alloc (.cells #[ptr q] 154)) hs (by simp; omega) H0.out.1)
  have HF := Lib.hid (show (flagR s).1 = ((numR s).1 == 1) from by unfold flagR; by_cases h : (numR s).1 = 1 <;> simp [h])
  rw [HF.out, show (flagR s).2 = (numR s).2 from rfl]
  clear hs hC hr HF
  generalize (numR s).1 = x at *
  generalize (numR s).2 = s1 at *
  by_cases hx : x = 1
  · subst hx
    go_enter Tryz.func125, Tryz.ntmps125
    go_wp2_with fail
    refine TX.out.mono ?_; rintro e w1 ⟨rfl, hr⟩
    have H1 := Lib.hid (H0.out.then hr)
    clear hr
    go_wp2_with fail
    go_ret
    exact ⟨rfl, H1.out⟩
  · have hx2 : (x == 1) = false := by rw [beq_eq_false_iff_ne]; exact hx
    rw [hx2]
    go_enter Tryz.func125, Tryz.ntmps125
    go_wp2_with fail
    refine TX.out.mono ?_; rintro e w1 ⟨rfl, hr⟩
    have H1 := Lib.hid (H0.out.then hr)
    clear hr
    go_wp2_with fail
    go_ret
    exact ⟨rfl, H1.out⟩
set_option maxHeartbeats 2000000 in
theorem dirty_r (C q : Nat) (s : RS) (w : World) (hs : Few s) (hC : C ≤ w.heap.size) (hr : RdS w q s) : Calls Tryz.prog 132 #[.agg #[ptr q]] w fun e w' => e = .returned (dyv (dyR s).1) ∧ ReadS C q w (dyR s).2 w' := by
  have N1 := Lib.hid (fun u (hu : RdS u q s) (hc : C ≤ u.heap.size) => rnum_any C q s u hs hc hu)
  have N2 := Lib.hid (fun u (hu : RdS u q (numR s).2) (hc : C ≤ u.heap.size) => rlong_any C q _ u (few_num hs) hc hu)
  unfold dyR dyv
  dsimp only
  generalize (longR (numR s).2).1 = v2 at *
  generalize (longR (numR s).2).2 = t2 at *
  generalize (numR s).1 = v1 at *
  generalize (numR s).2 = t1 at *
  have H0 := Lib.hid (ReadS.start (C := C) hr |>.alloc hC (.cells #[.pointer (some ⟨q, 0, none⟩)] 154) |>.alloc hC (.cells #[.int .i64 0, .int .i64 0] 114))
  have hb1 := (Bx.new w #[.pointer (some ⟨q, 0, none⟩)] 154).alloc (.cells #[.int .i64 0, .int .i64 0] 114)
  have hz0 := Bx.new (w.alloc (.cells #[.pointer (some ⟨q, 0, none⟩)] 154)) #[.int .i64 0, .int .i64 0] 114
  have hqw := hr.lt
  have HC := Lib.hid hC
  have hB2 : w.heap.size ≤ (w.alloc (.cells #[.pointer (some ⟨q, 0, none⟩)] 154)).heap.size := by simp
  have hne1 : w.heap.size ≠ q := by omega
  have hne2 : (w.alloc (.cells #[.pointer (some ⟨q, 0, none⟩)] 154)).heap.size ≠ q := by omega
  have hne12 : w.heap.size ≠ (w.alloc (.cells #[.pointer (some ⟨q, 0, none⟩)] 154)).heap.size := by simp
  clear hC hr hs
  go_enter Tryz.func132, Tryz.ntmps132
  go_upto_region 1 with fail
  rw [← World.size_alloc w (.cells #[.pointer (some ⟨q, 0, none⟩)] 154)]
  generalize hW : (w.alloc (.cells #[.pointer (some ⟨q, 0, none⟩)] 154)).alloc (.cells #[.int .i64 0, .int .i64 0] 114) = W at *
  obtain ⟨B2, hB⟩ : ∃ B, B = (w.alloc (.cells #[.pointer (some ⟨q, 0, none⟩)] 154)).heap.size := ⟨_, rfl⟩
  rw [← hB] at hz0 hB2 hne2 hne12 ⊢
  obtain ⟨B1, hB1⟩ : ∃ B, B = w.heap.size := ⟨_, rfl⟩
  rw [← hB1] at hb1 hne1 hne12 ⊢
  clear hB hB1 hW
  have HR0 := Lib.hid H0.out.drew
  have X0 := fun r (h : Bx r B1 #[.pointer (some ⟨q, 0, none⟩)] 154) => (h.cell 0).trans (show (#[.pointer (some ⟨q, 0, none⟩)] : Array Value)[0]? = some (.pointer (some ⟨q, 0, none⟩)) from rfl)
  clear H0
  refine wp_region_noPanic ?_
  refine wp_region_held_drew (S := fun w' => Bx w' B1 #[.pointer (some ⟨q, 0, none⟩)] 154) (by kernel_rfl) ?_ (fun hHeld => ?_)
  · exact hb1.drew
  refine wpAnyH_take (i := 0) (oi := { dst := some 3, op := Op.fieldAddr 154 (Operand.tmp 1) 0, type := 0, pos := "record.go:184", after := #[], guard := none }) (v := .pointer (some ⟨B1, 0, none⟩)) rfl (by kernel_rfl) (by kernel_rfl) (by kernel_rfl) (fun _ _ _ h => h) (Or.inl ⟨by rfl, fun w' hSw => by ((try dsimp only at hSw); have := X0 _ hSw; go_simp)⟩) (by assumption) ?_
  (try simp only [Act.put, List.setIfInBounds_toArray, List.set_cons_zero, List.set_cons_succ])
  refine wpAnyH_take (i := 1) (oi := { dst := some 4, op := Op.load 151 (Operand.tmp 3), type := 151, pos := "record.go:184", after := #[{ on := 0, ground := Ground.data }], guard := none }) (v := .pointer (some ⟨q, 0, none⟩)) rfl (by kernel_rfl) (by kernel_rfl) (by kernel_rfl) (fun _ _ _ h => h) (Or.inl ⟨by rfl, fun w' hSw => by ((try dsimp only at hSw); have := X0 _ hSw; go_simp)⟩) (by assumption) ?_
  (try simp only [Act.put, List.setIfInBounds_toArray, List.set_cons_zero, List.set_cons_succ])
  refine wpAnyH_take (i := 3) (oi := { dst := some 6, op := Op.fieldAddr 154 (Operand.tmp 1) 0, type := 0, pos := "record.go:184", after := #[], guard := none }) (v := .pointer (some ⟨B1, 0, none⟩)) rfl (by kernel_rfl) (by kernel_rfl) (by kernel_rfl) (fun _ _ _ h => h) (Or.inl ⟨by rfl, fun w' hSw => by ((try dsimp only at hSw); have := X0 _ hSw; go_simp)⟩) (by assumption) ?_
  (try simp only [Act.put, List.setIfInBounds_toArray, List.set_cons_zero, List.set_cons_succ])
  refine wpAnyH_take (i := 4) (oi := { dst := some 7, op := Op.load 151 (Operand.tmp 6), type := 151, pos := "record.go:184", after := #[{ on := 3, ground := Ground.data }], guard := none }) (v := .pointer (some ⟨q, 0, none⟩)) rfl (by kernel_rfl) (by kernel_rfl) (by kernel_rfl) (fun _ _ _ h => h) (Or.inl ⟨by rfl, fun w' hSw => by ((try dsimp only at hSw); have := X0 _ hSw; go_simp)⟩) (by assumption) ?_
  (try simp only [Act.put, List.setIfInBounds_toArray, List.set_cons_zero, List.set_cons_succ])
  refine wpAnyH_ready (rs := [2]) (by kernel_rfl) (by simp) ?_
  refine AllReadyH.cons (o := { dst := some 5, op := Op.call { callee := Callee.value (Operand.func 122), args := #[Operand.tmp 4], argTypes := #[151] }, type := 3, pos := "record.go:184", after := #[{ on := 1, ground := Ground.data }], guard := none }) rfl (fun K hK => ?_) ?_
  · go_simp; go_at_call 122; refine (N1.out _ HR0.out.1 (Nat.le_trans HC.out HR0.out.size)).mono ?_; rintro e u1 ⟨rfl, hr⟩; have hb2 := hb1.drew.only hr.2 hne1 (by decide); have hz1 := hz0.drew.only hr.2 hne2 (by decide); have HR1 := Lib.hid (HR0.out.then hr); clear hr
    refine hK.out _ _ ?_ (fun hHeld => ?_)
    · exact hb2
    clear hK K
    (try simp only [Act.put, List.setIfInBounds_toArray, List.set_cons_zero, List.set_cons_succ])
    refine wpAnyH_ready (rs := [5]) (by kernel_rfl) (by simp) ?_
    refine AllReadyH.cons (o := { dst := some 8, op := Op.call { callee := Callee.value (Operand.func 123), args := #[Operand.tmp 7], argTypes := #[151] }, type := 3, pos := "record.go:184", after := #[{ on := 4, ground := Ground.data }, { on := 2, ground := Ground.chain }], guard := none }) rfl (fun K hK => ?_) ?_
    · go_simp; go_at_call 123; refine (N2.out _ HR1.out.1 (Nat.le_trans HC.out HR1.out.size)).mono ?_; rintro e u2 ⟨rfl, hr⟩; have hb3 := hb2.only hr.2 hne1 (by decide); have hz2 := hz1.only hr.2 hne2 (by decide); have HR2 := Lib.hid (HR1.out.then hr); clear hr
      refine hK.out _ _ ?_ (fun hHeld => ?_)
      · exact hb3
      clear hK K
      (try simp only [Act.put, List.setIfInBounds_toArray, List.set_cons_zero, List.set_cons_succ])
      refine wpAnyH_take (i := 6) (oi := { dst := some 9, op := Op.build 114 #[(0, Operand.tmp 5), (1, Operand.tmp 8)], type := 114, pos := "record.go:184", after := #[{ on := 2, ground := Ground.data }, { on := 5, ground := Ground.data }], guard := none }) (v := .agg #[.int .i64 v1, .int .i64 v2]) rfl (by kernel_rfl) (by kernel_rfl) (by kernel_rfl) (fun _ _ _ h => h) (Or.inl ⟨by rfl, fun w' hSw => by ((try dsimp only at hSw); have := X0 _ hSw; go_simp)⟩) (by assumption) ?_
      (try simp only [Act.put, List.setIfInBounds_toArray, List.set_cons_zero, List.set_cons_succ])

      refine wpAnyH_ready (rs := [7]) (by kernel_rfl) (by simp) ?_
      refine AllReadyH.cons (o := { dst := none, op := Op.store 114 (Operand.tmp 2) (Operand.tmp 9), type := 0, pos := "record.go:184", after := #[{ on := 6, ground := Ground.data }, { on := 5, ground := Ground.chain }, { on := 0, ground := Ground.phase }, { on := 1, ground := Ground.phase }, { on := 2, ground := Ground.phase }, { on := 3, ground := Ground.phase }, { on := 4, ground := Ground.phase }, { on := 5, ground := Ground.phase }, { on := 6, ground := Ground.phase }], guard := none }) rfl (fun K hK => ?_) ?_
      · refine step_store_row rfl 114 (.tmp 2) (.tmp 9) rfl B2 #[.int .i64 v1, .int .i64 v2] rfl rfl 114 _ hz2 (by kernel_rfl) rfl (by simp [Value.oneCell']) ?_
        refine hK.out _ _ ?_ (fun hHeld => ?_)
        · exact hb3.orow hne12 _
        clear hK K
        (try simp only [Act.put, List.setIfInBounds_toArray, List.set_cons_zero, List.set_cons_succ])
        refine wpAnyH_done (by kernel_rfl) ?_ _
        refine NoPanic.normal ?_
        have HZ : Bx (u2.setRow B2 #[.int .i64 v1, .int .i64 v2]) B2 #[.int .i64 v1, .int .i64 v2] 114 := hz2.row _
        have HR := Lib.hid (ReadS.row HR2.out HC.out hB2 hqw : ReadS C q w t2 (u2.setRow B2 #[.int .i64 v1, .int .i64 v2]))
        clear hHeld
        generalize (u2.setRow B2 #[.int .i64 v1, .int .i64 v2]) = V at *
        have y0 : V.cell? ⟨B2, 0, none⟩ = some (.int .i64 v1) := HZ.cell 0
        have y1 : V.cell? ⟨B2, 1, none⟩ = some (.int .i64 v2) := HZ.cell 1
        clear HZ
        go_wp2_with fail
        refine bodyPost_ret (v := .agg #[.int .i64 v1, .int .i64 v2]) (by simp [results, Tryz.results132, go_sem, y0, y1]) rfl ⟨rfl, HR.out⟩
      exact AllReadyH.nil
    exact AllReadyH.nil
  exact AllReadyH.nil
set_option maxHeartbeats 2000000 in
theorem patch_r (C q : Nat) (s : RS) (w : World) (hs : Few s) (hC : C ≤ w.heap.size) (hr : RdS w q s) : Calls Tryz.prog 128 #[.agg #[ptr q]] w fun e w' => e = .returned (ptv (ptR s).1) ∧ ReadS C q w (ptR s).2 w' := by
  have N1 := Lib.hid (fun u (hu : RdS u q s) (hc : C ≤ u.heap.size) => rnum_any C q s u hs hc hu)
  have N2 := Lib.hid (fun u (hu : RdS u q (numR s).2) (hc : C ≤ u.heap.size) => rnum_any C q _ u (few_num hs) hc hu)
  have N3 := Lib.hid (fun u (hu : RdS u q (numR (numR s).2).2) (hc : C ≤ u.heap.size) => text_r C q _ u (few_num (few_num hs)) hc hu)
  unfold ptR ptv
  dsimp only
  generalize (textR (numR (numR s).2).2).1 = v3 at *
  generalize (textR (numR (numR s).2).2).2 = t3 at *
  generalize (numR (numR s).2).1 = v2 at *
  generalize (numR (numR s).2).2 = t2 at *
  generalize (numR s).1 = v1 at *
  generalize (numR s).2 = t1 at *
  have H0 := Lib.hid (ReadS.start (C := C) hr |>.alloc hC (.cells #[.pointer (some ⟨q, 0, none⟩)] 154) |>.alloc hC (.cells #[.int .i64 0, .int .i64 0, .string ⟨#[]⟩] 110))
  have hb1 := (Bx.new w #[.pointer (some ⟨q, 0, none⟩)] 154).alloc (.cells #[.int .i64 0, .int .i64 0, .string ⟨#[]⟩] 110)
  have hz0 := Bx.new (w.alloc (.cells #[.pointer (some ⟨q, 0, none⟩)] 154)) #[.int .i64 0, .int .i64 0, .string ⟨#[]⟩] 110
  have hqw := hr.lt
  have HC := Lib.hid hC
  have hB2 : w.heap.size ≤ (w.alloc (.cells #[.pointer (some ⟨q, 0, none⟩)] 154)).heap.size := by simp
  have hne1 : w.heap.size ≠ q := by omega
  have hne2 : (w.alloc (.cells #[.pointer (some ⟨q, 0, none⟩)] 154)).heap.size ≠ q := by omega
  have hne12 : w.heap.size ≠ (w.alloc (.cells #[.pointer (some ⟨q, 0, none⟩)] 154)).heap.size := by simp
  clear hC hr hs
  go_enter Tryz.func128, Tryz.ntmps128
  go_upto_region 1 with fail
  rw [← World.size_alloc w (.cells #[.pointer (some ⟨q, 0, none⟩)] 154)]
  generalize hW : (w.alloc (.cells #[.pointer (some ⟨q, 0, none⟩)] 154)).alloc (.cells #[.int .i64 0, .int .i64 0, .string ⟨#[]⟩] 110) = W at *
  obtain ⟨B2, hB⟩ : ∃ B, B = (w.alloc (.cells #[.pointer (some ⟨q, 0, none⟩)] 154)).heap.size := ⟨_, rfl⟩
  rw [← hB] at hz0 hB2 hne2 hne12 ⊢
  obtain ⟨B1, hB1⟩ : ∃ B, B = w.heap.size := ⟨_, rfl⟩
  rw [← hB1] at hb1 hne1 hne12 ⊢
  clear hB hB1 hW
  have HR0 := Lib.hid H0.out.drew
  have X0 := fun r (h : Bx r B1 #[.pointer (some ⟨q, 0, none⟩)] 154) => (h.cell 0).trans (show (#[.pointer (some ⟨q, 0, none⟩)] : Array Value)[0]? = some (.pointer (some ⟨q, 0, none⟩)) from rfl)
  clear H0
  refine wp_region_noPanic ?_
  refine wp_region_held_drew (S := fun w' => Bx w' B1 #[.pointer (some ⟨q, 0, none⟩)] 154) (by kernel_rfl) ?_ (fun hHeld => ?_)
  · exact hb1.drew
  refine wpAnyH_take (i := 0) (oi := { dst := some 3, op := Op.fieldAddr 154 (Operand.tmp 1) 0, type := 0, pos := "record.go:178", after := #[], guard := none }) (v := .pointer (some ⟨B1, 0, none⟩)) rfl (by kernel_rfl) (by kernel_rfl) (by kernel_rfl) (fun _ _ _ h => h) (Or.inl ⟨by rfl, fun w' hSw => by ((try dsimp only at hSw); have := X0 _ hSw; go_simp)⟩) (by assumption) ?_
  (try simp only [Act.put, List.setIfInBounds_toArray, List.set_cons_zero, List.set_cons_succ])
  refine wpAnyH_take (i := 1) (oi := { dst := some 4, op := Op.load 151 (Operand.tmp 3), type := 151, pos := "record.go:178", after := #[{ on := 0, ground := Ground.data }], guard := none }) (v := .pointer (some ⟨q, 0, none⟩)) rfl (by kernel_rfl) (by kernel_rfl) (by kernel_rfl) (fun _ _ _ h => h) (Or.inl ⟨by rfl, fun w' hSw => by ((try dsimp only at hSw); have := X0 _ hSw; go_simp)⟩) (by assumption) ?_
  (try simp only [Act.put, List.setIfInBounds_toArray, List.set_cons_zero, List.set_cons_succ])
  refine wpAnyH_take (i := 3) (oi := { dst := some 6, op := Op.fieldAddr 154 (Operand.tmp 1) 0, type := 0, pos := "record.go:178", after := #[], guard := none }) (v := .pointer (some ⟨B1, 0, none⟩)) rfl (by kernel_rfl) (by kernel_rfl) (by kernel_rfl) (fun _ _ _ h => h) (Or.inl ⟨by rfl, fun w' hSw => by ((try dsimp only at hSw); have := X0 _ hSw; go_simp)⟩) (by assumption) ?_
  (try simp only [Act.put, List.setIfInBounds_toArray, List.set_cons_zero, List.set_cons_succ])
  refine wpAnyH_take (i := 4) (oi := { dst := some 7, op := Op.load 151 (Operand.tmp 6), type := 151, pos := "record.go:178", after := #[{ on := 3, ground := Ground.data }], guard := none }) (v := .pointer (some ⟨q, 0, none⟩)) rfl (by kernel_rfl) (by kernel_rfl) (by kernel_rfl) (fun _ _ _ h => h) (Or.inl ⟨by rfl, fun w' hSw => by ((try dsimp only at hSw); have := X0 _ hSw; go_simp)⟩) (by assumption) ?_
  (try simp only [Act.put, List.setIfInBounds_toArray, List.set_cons_zero, List.set_cons_succ])
  refine wpAnyH_take (i := 6) (oi := { dst := some 9, op := Op.load 154 (Operand.tmp 1), type := 154, pos := "record.go:178", after := #[], guard := none }) (v := .agg #[.pointer (some ⟨q, 0, none⟩)]) rfl (by kernel_rfl) (by kernel_rfl) (by kernel_rfl) (fun _ _ _ h => h) (Or.inl ⟨by rfl, fun w' hSw => by ((try dsimp only at hSw); have := X0 _ hSw; go_simp)⟩) (by assumption) ?_
  (try simp only [Act.put, List.setIfInBounds_toArray, List.set_cons_zero, List.set_cons_succ])
  refine wpAnyH_ready (rs := [2]) (by kernel_rfl) (by simp) ?_
  refine AllReadyH.cons (o := { dst := some 5, op := Op.call { callee := Callee.value (Operand.func 122), args := #[Operand.tmp 4], argTypes := #[151] }, type := 3, pos := "record.go:178", after := #[{ on := 1, ground := Ground.data }], guard := none }) rfl (fun K hK => ?_) ?_
  · go_simp; go_at_call 122; refine (N1.out _ HR0.out.1 (Nat.le_trans HC.out HR0.out.size)).mono ?_; rintro e u1 ⟨rfl, hr⟩; have hb2 := hb1.drew.only hr.2 hne1 (by decide); have hz1 := hz0.drew.only hr.2 hne2 (by decide); have HR1 := Lib.hid (HR0.out.then hr); clear hr
    refine hK.out _ _ ?_ (fun hHeld => ?_)
    · exact hb2
    clear hK K
    (try simp only [Act.put, List.setIfInBounds_toArray, List.set_cons_zero, List.set_cons_succ])
    refine wpAnyH_ready (rs := [5]) (by kernel_rfl) (by simp) ?_
    refine AllReadyH.cons (o := { dst := some 8, op := Op.call { callee := Callee.value (Operand.func 122), args := #[Operand.tmp 7], argTypes := #[151] }, type := 3, pos := "record.go:178", after := #[{ on := 4, ground := Ground.data }, { on := 2, ground := Ground.chain }], guard := none }) rfl (fun K hK => ?_) ?_
    · go_simp; go_at_call 122; refine (N2.out _ HR1.out.1 (Nat.le_trans HC.out HR1.out.size)).mono ?_; rintro e u2 ⟨rfl, hr⟩; have hb3 := hb2.only hr.2 hne1 (by decide); have hz2 := hz1.only hr.2 hne2 (by decide); have HR2 := Lib.hid (HR1.out.then hr); clear hr
      refine hK.out _ _ ?_ (fun hHeld => ?_)
      · exact hb3
      clear hK K
      (try simp only [Act.put, List.setIfInBounds_toArray, List.set_cons_zero, List.set_cons_succ])
      refine wpAnyH_ready (rs := [7]) (by kernel_rfl) (by simp) ?_
      refine AllReadyH.cons (o := { dst := some 10, op := Op.call { callee := Callee.value (Operand.func 124), args := #[Operand.tmp 9], argTypes := #[154] }, type := 9, pos := "record.go:178", after := #[{ on := 6, ground := Ground.data }, { on := 5, ground := Ground.chain }], guard := none }) rfl (fun K hK => ?_) ?_
      · go_simp; go_at_call 124; refine (N3.out _ HR2.out.1 (Nat.le_trans HC.out HR2.out.size)).mono ?_; rintro e u3 ⟨rfl, hr⟩; have hb4 := hb3.only hr.2 hne1 (by decide); have hz3 := hz2.only hr.2 hne2 (by decide); have HR3 := Lib.hid (HR2.out.then hr); clear hr
        refine hK.out _ _ ?_ (fun hHeld => ?_)
        · exact hb4
        clear hK K
        (try simp only [Act.put, List.setIfInBounds_toArray, List.set_cons_zero, List.set_cons_succ])
        refine wpAnyH_take (i := 8) (oi := { dst := some 11, op := Op.build 110 #[(0, Operand.tmp 5), (1, Operand.tmp 8), (2, Operand.tmp 10)], type := 110, pos := "record.go:178", after := #[{ on := 2, ground := Ground.data }, { on := 5, ground := Ground.data }, { on := 7, ground := Ground.data }], guard := none }) (v := .agg #[.int .i64 v1, .int .i64 v2, .string v3]) rfl (by kernel_rfl) (by kernel_rfl) (by kernel_rfl) (fun _ _ _ h => h) (Or.inl ⟨by rfl, fun w' hSw => by ((try dsimp only at hSw); have := X0 _ hSw; go_simp)⟩) (by assumption) ?_
        (try simp only [Act.put, List.setIfInBounds_toArray, List.set_cons_zero, List.set_cons_succ])

        refine wpAnyH_ready (rs := [9]) (by kernel_rfl) (by simp) ?_
        refine AllReadyH.cons (o := { dst := none, op := Op.store 110 (Operand.tmp 2) (Operand.tmp 11), type := 0, pos := "record.go:178", after := #[{ on := 8, ground := Ground.data }, { on := 7, ground := Ground.chain }, { on := 0, ground := Ground.phase }, { on := 1, ground := Ground.phase }, { on := 2, ground := Ground.phase }, { on := 3, ground := Ground.phase }, { on := 4, ground := Ground.phase }, { on := 5, ground := Ground.phase }, { on := 6, ground := Ground.phase }, { on := 7, ground := Ground.phase }, { on := 8, ground := Ground.phase }], guard := none }) rfl (fun K hK => ?_) ?_
        · refine step_store_row rfl 110 (.tmp 2) (.tmp 11) rfl B2 #[.int .i64 v1, .int .i64 v2, .string v3] rfl rfl 110 _ hz3 (by kernel_rfl) rfl (by simp [Value.oneCell']) ?_
          refine hK.out _ _ ?_ (fun hHeld => ?_)
          · exact hb4.orow hne12 _
          clear hK K
          (try simp only [Act.put, List.setIfInBounds_toArray, List.set_cons_zero, List.set_cons_succ])
          refine wpAnyH_done (by kernel_rfl) ?_ _
          refine NoPanic.normal ?_
          have HZ : Bx (u3.setRow B2 #[.int .i64 v1, .int .i64 v2, .string v3]) B2 #[.int .i64 v1, .int .i64 v2, .string v3] 110 := hz3.row _
          have HR := Lib.hid (ReadS.row HR3.out HC.out hB2 hqw : ReadS C q w t3 (u3.setRow B2 #[.int .i64 v1, .int .i64 v2, .string v3]))
          clear hHeld
          generalize (u3.setRow B2 #[.int .i64 v1, .int .i64 v2, .string v3]) = V at *
          have y0 : V.cell? ⟨B2, 0, none⟩ = some (.int .i64 v1) := HZ.cell 0
          have y1 : V.cell? ⟨B2, 1, none⟩ = some (.int .i64 v2) := HZ.cell 1
          have y2 : V.cell? ⟨B2, 2, none⟩ = some (.string v3) := HZ.cell 2
          clear HZ
          go_wp2_with fail
          refine bodyPost_ret (v := .agg #[.int .i64 v1, .int .i64 v2, .string v3]) (by simp [results, Tryz.results128, go_sem, y0, y1, y2]) rfl ⟨rfl, HR.out⟩
        exact AllReadyH.nil
      exact AllReadyH.nil
    exact AllReadyH.nil
  exact AllReadyH.nil
end Go.Proofs.YtnjggoeahaglbaaGreat.Rc

/- What the record's reader reads: lists, transactions. -/
namespace Go.Proofs.YtnjggoeahaglbaaGreat.Rc
open Go.ChangeShapes Go.WideShapes Go.ChangeAt Go.RowKit
set_option linter.unusedVariables false
set_option linter.unusedSimpArgs false
set_option maxRecDepth 100000
/-! Rows of a call's own. -/
def ics (l : List Int) : List Value := l.map (Value.int .i64)
def pcell (p : Pt) : List Value := [.int .i64 p.pg, .int .i64 p.ofs, .string p.bs]
def pcs (l : List Pt) : List Value := l.flatMap pcell
def dcell (d : Dy) : List Value := [.int .i64 d.page, .int .i64 d.lsn]
def dcs (l : List Dy) : List Value := l.flatMap dcell
def tcell (x : Tx × Sl) : List Value := [.int .i64 x.1.id, .int .i64 x.1.last, .bool x.1.com, .slice x.2.A x.2.n x.2.c]
def tcs (l : List (Tx × Sl)) : List Value := l.flatMap tcell
theorem infoI : (Tryz.prog.info? 3).map (fun i => (i.zero, i.size, i.bytes)) = some (some (.int .i64 0), 1, 8) := by kernel_rfl
theorem infoP : (Tryz.prog.info? 110).map (fun i => (i.zero, i.size, i.bytes)) = some (some (.agg #[.int .i64 0, .int .i64 0, .string ⟨#[]⟩]), 3, 32) := by kernel_rfl
theorem infoD : (Tryz.prog.info? 114).map (fun i => (i.zero, i.size, i.bytes)) = some (some (.agg #[.int .i64 0, .int .i64 0]), 2, 16) := by kernel_rfl
theorem infoT : (Tryz.prog.info? 112).map (fun i => (i.zero, i.size, i.bytes)) = some (some (.agg #[.int .i64 0, .int .i64 0, .bool false, .slice none 0 0]), 4, 48) := by kernel_rfl
theorem add_plain (b off i : Nat) : (⟨b, off, none⟩ : Addr).add i = ⟨b, off + i, none⟩ := by unfold Addr.add; split <;> simp_all
theorem own_shape {w : World} {B e s n : Nat} {v : Value} {xs : List Value} (h : w.ownsRow B e s v n xs) : ∃ A c, v = .slice A n c := by
  rcases h.2 with ⟨rfl, rfl⟩ | ⟨g, cap, cur, rfl, _⟩
  · exact ⟨_, _, rfl⟩
  · exact ⟨_, _, rfl⟩
theorem owns_block {w : World} {B e s n : Nat} {v : Value} {xs : List Value} (h : w.ownsRow B e s v n xs) {g : Nat} (hg : v.ownBlock = some g) : ∃ cur, w.heap[g]? = some (.cells cur e (0, 0)) := by
  rcases h.2 with ⟨rfl, _⟩ | ⟨g', cap, cur, rfl, _, h2, _⟩
  · simp [Value.ownBlock] at hg
  · simp only [Value.ownBlock, Option.some.injEq] at hg
    subst hg
    exact ⟨cur, h2⟩
theorem owns_kept {w w' : World} {B e s n : Nat} {v : Value} {xs : List Value} (h : w.ownsRow B e s v n xs) (hk : ∀ g, v.ownBlock = some g → w'.heap[g]? = w.heap[g]?) : w'.ownsRow B e s v n xs := by
  refine ⟨h.1, ?_⟩
  rcases h.2 with h1 | ⟨g', cap, cur, rfl, h1, h2, h3⟩
  · exact .inl h1
  · exact .inr ⟨g', cap, cur, rfl, h1, (hk g' rfl).trans h2, h3⟩
theorem own_base {w : World} {B D e s n : Nat} {v : Value} {xs : List Value} (h : w.ownsRow B e s v n xs) (hD : D ≤ B) : w.ownsRow D e s v n xs := by
  refine ⟨h.1, ?_⟩
  rcases h.2 with h | ⟨g, cap, cur, h1, h2, h3⟩
  · exact .inl h
  · exact .inr ⟨g, cap, cur, h1, Nat.le_trans hD h2, h3⟩
theorem own_only {w w' : World} {C q B e s n : Nat} {v : Value} {xs : List Value} {t : RS} (h : w.ownsRow B e s v n xs) (ho : Only C q w w') (hr : RdS w q t) (he : e ≠ 5) (he2 : e ≠ 186) : w'.ownsRow B e s v n xs :=
  owns_kept h fun g hg => by
    obtain ⟨cur, hc⟩ := owns_block h hg
    rw [ho.typed g cur e _ (fun hh => by
      subst hh
      have h2 : w.heap[g]? = _ := hr
      rw [hc] at h2
      simp only [Option.some.injEq, Obj.cells.injEq] at h2
      exact he2 h2.2.1) he hc, hc]
theorem own_below {w w' : World} {B e s n : Nat} {v : Value} {xs : List Value} (h : w.ownsRow B e s v n xs) (hb : Below w.heap.size w w') : w'.ownsRow B e s v n xs := owns_kept h fun g hg => hb.block g (h.lt g hg).2
/-- A row of another kind is as it was behind an append. -/
theorem own_grown {w1 w2 : World} {B B' e e' s s' n n' : Nat} {v v' : Value} {xs xs' : List Value} {o : Obj} (h : w1.ownsRow B e s v n xs) (h' : w1.ownsRow B' e' s' v' n' xs') (hne : e ≠ e') (hg : (w1.alloc o).grownBy w2 v'.ownBlock) : w2.ownsRow B e s v n xs :=
  owns_kept h fun g hgo => by
    have hlt := (h.lt g hgo).2
    rw [hg.block g (by simp; omega) (fun hh => by
      obtain ⟨c1, hc1⟩ := owns_block h hgo
      obtain ⟨c2, hc2⟩ := owns_block h' hh.symm
      rw [hc1] at hc2
      simp only [Option.some.injEq, Obj.cells.injEq] at hc2
      exact hne hc2.2.1), Below.heap_alloc w1 o g hlt]
theorem ReadS.grown {C q : Nat} {w w1 w2 : World} {s : RS} {o : Obj} {row : Option Nat} (h : ReadS C q w s w1) (hC : C ≤ w.heap.size) (hq : q < w.heap.size) (hg : (w1.alloc o).grownBy w2 row) (hrow : ∀ g, row = some g → w.heap.size ≤ g) : ReadS C q w s w2 := by
  have hsz := h.2.size
  have key : ∀ k, k < w.heap.size → w2.heap[k]? = w1.heap[k]? := fun k hk => (hg.block k (by simp; omega) (fun e => by have := hrow k e.symm; omega)).trans (Below.heap_alloc w1 o k (by omega))
  refine ⟨(key q hq).trans h.1, hg.os.trans h.2.os, hg.tape.trans h.2.tape, hg.output.trans h.2.output, ?_, fun k hk hkq => (key k (by omega)).trans (h.2.block k hk hkq), fun k cs t fr hkq ht hh => (key k (block_of_heap hh)).trans (h.2.typed k cs t fr hkq ht hh)⟩
  have := hg.size
  simp at this
  omega
theorem listN_length {α : Type} (f : RS → α × RS) : ∀ (n : Nat) (s : RS), (listN f n s).1.length = n
  | 0, s => rfl
  | n + 1, s => by unfold listN; rw [List.length_append, listN_length f n s]; rfl
theorem news_of (w : World) (xs : List Value) (t : TypeId) : ∀ j u, xs[j]? = some u → (w.alloc (.cells xs.toArray t)).cell? ((⟨w.heap.size, 0, none⟩ : Addr).add j) = some u := by
  intro j u hu
  rw [add_plain, cell_of_row _ _ _ _ _ _ (heap_alloc_new w _), Nat.zero_add]
  simpa using hu
theorem pcs_snoc (l : List Pt) (x : Pt) : pcs (l ++ [x]) = pcs l ++ pcell x := by simp [pcs]
theorem dcs_snoc (l : List Dy) (x : Dy) : dcs (l ++ [x]) = dcs l ++ dcell x := by simp [dcs]
theorem tcs_snoc (l : List (Tx × Sl)) (x : Tx × Sl) : tcs (l ++ [x]) = tcs l ++ tcell x := by simp [tcs]
theorem ics_snoc (l : List Int) (x : Int) : ics (l ++ [x]) = ics l ++ [.int .i64 x] := by simp [ics]
/-- A list of numbers in a row of a call's own. -/
def RowI (B : Nat) (w : World) (s : Sl) (l : List Int) : Prop := s.n = l.length ∧ w.ownsRow B 3 1 (.slice s.A s.n s.c) s.n (ics l)
def RowP (B : Nat) (w : World) (s : Sl) (l : List Pt) : Prop := s.n = l.length ∧ w.ownsRow B 110 3 (.slice s.A s.n s.c) s.n (pcs l)
def RowD (B : Nat) (w : World) (s : Sl) (l : List Dy) : Prop := s.n = l.length ∧ w.ownsRow B 114 2 (.slice s.A s.n s.c) s.n (dcs l)
def RowT (B : Nat) (w : World) (s : Sl) (l : List Tx) (ss : List Sl) : Prop := s.n = l.length ∧ ss.length = l.length ∧ w.ownsRow B 112 4 (.slice s.A s.n s.c) s.n (tcs (l.zip ss)) ∧ ∀ k, k < l.length → RowI 0 w (ss.getD k sl0) (l.getD k nilT).pages
/-- The state of the loop. -/
def LStI (C q : Nat) (w0 : World) (B : Nat) (s : RS) (k : Nat) (u : Value) (wr : World) : Prop := wr.ownsRow B 3 1 u k (ics (listN numR k s).1) ∧ ReadS C q w0 (listN numR k s).2 wr
set_option maxHeartbeats 2000000 in
theorem listI_r (C q m : Nat) (M : Int) (hM : M = (m : Nat)) (hm : m ≤ 64) (s : RS) (w : World) (hs : Few s) (hC : C ≤ w.heap.size) (hr : RdS w q s) :
    Calls Tryz.prog 154 #[.agg #[ptr q], .int .i64 M, .func (.func 122) #[ptr q] #[]] w fun e w' => ∃ A c, e = .returned (.slice A (listR numR m s).1.length c) ∧ RowI w.heap.size w' ⟨A, (listR numR m s).1.length, c⟩ (listR numR m s).1 ∧ ReadS C q w (listR numR m s).2 w' := by
  subst hM
  obtain ⟨i0, hi0, hz0, hz1, hz2⟩ := info_parts infoI
  have hin := numR_in s
  have hqw := hr.lt
  have HC := Lib.hid hC
  have H0 := Lib.hid (ReadS.start (C := C) hr |>.alloc hC (.cells #[ptr q] 154))
  have NU := Lib.hid (rnum_any C q s (w.alloc (.cells #[ptr q] 154)) hs (by simp; omega) H0.out.1)
  obtain ⟨cnt, hcnt⟩ : ∃ cnt : Nat, cnt = (min (numR s).1 (m : Int)).toNat := ⟨_, rfl⟩
  have HL := Lib.hid (show (listR numR m s) = listN numR cnt (numR s).2 from by unfold listR; rw [hcnt])
  have hc1 : min (numR s).1 (m : Int) = (cnt : Int) := by omega
  have hcm : cnt ≤ 64 := by omega
  rw [HL.out]
  have FW := Lib.hid (fun k => few_listN (f := numR) (fun s h => few_num h) k (few_num hs))
  have hB : w.heap.size ≤ (w.alloc (.cells #[ptr q] 154)).heap.size := by simp
  have HB := Lib.hid hB
  have HQ0 := Lib.hid hqw
  generalize (numR s).1 = v1 at *
  generalize (numR s).2 = t1 at *
  have LN := Lib.hid (fun k => listN_length numR k t1)
  have hcN : (cnt : Int) ≤ 64 := by omega
  clear hcnt hC hr hs hin hm HL hB hqw
  go_enter Tryz.func154, Tryz.ntmps154
  go_wp2_with fail
  refine NU.out.mono ?_; rintro e w1 ⟨rfl, hr⟩
  have H1 := Lib.hid (H0.out.then hr)
  clear hr NU H0
  go_wp2_with fail
  go_loopw [7, 13] (fun u x wr => ∃ k : Nat, k ≤ cnt ∧ x = .int .i64 k ∧ Hid (LStI C q w w.heap.size t1 k u wr)) (fun _ x _ => cnt - (intOf x).toNat)
  case atStart => exact ⟨0, Nat.zero_le _, rfl, World.ownsRow_nil _ _ _ _, H1.out⟩
  case round =>
    obtain ⟨k, hk, rfl, hq⟩ := hrel
    have HQ := Lib.hid hq.out
    clear hq
    obtain ⟨Av, cv, rfl⟩ := own_shape HQ.out.1
    have b0 : (0 : Int) ≤ (k : Int) := by omega
    by_cases hlt : k < cnt
    · have b1 : (k : Int) < (cnt : Int) := by omega
      have b2 : (k : Int) < min v1 (m : Int) := by rw [hc1]; exact b1
      have RD := Lib.hid (rnum_any C q (listN numR k t1).2 wr (FW.out k) (Nat.le_trans HC.out HQ.out.2.size) HQ.out.2.1)
      have E1 := Lib.hid (show (listN numR (k + 1) t1).1 = (listN numR k t1).1 ++ [(numR (listN numR k t1).2).1] from rfl)
      have E2 := Lib.hid (show (listN numR (k + 1) t1).2 = (numR (listN numR k t1).2).2 from rfl)
      generalize (numR (listN numR k t1).2).1 = x at *
      generalize (numR (listN numR k t1).2).2 = t2 at *
      go_wp2_with fail
      refine RD.out.mono ?_; rintro e w2 ⟨rfl, hr⟩
      have hO2 := own_only HQ.out.1 hr.2 HQ.out.2.1 (by decide) (by decide)
      have H2 := Lib.hid (HQ.out.2.then hr)
      clear hr RD
      go_wp2_with (at_builtin; refine wpList_append_own _ rfl (.tmp 15) (.tmp 18) 38 rfl w.heap.size 3 i0 (.int .i64 0) 1 8 Tryz.underlying38 hi0 hz0 hz1 hz2 rfl (by decide) _ _ _ rfl (hO2.alloc _) ⟨w2.heap.size, 0, none⟩ 1 1 [.int .i64 x] rfl rfl (news_of w2 _ _) (by intro u hu; simp at hu; first | (rcases hu with rfl | rfl | rfl <;> rfl) | (rcases hu with rfl | rfl <;> rfl) | (subst hu; rfl)) (by unfold maxLen; omega) (by omega) (by have := H2.out.size; simp; omega) ?_; intro v' w3 hown' hgrow _; obtain ⟨g', cap', rfl⟩ := ownsRow_succ hown')
      have HN : Hid (LStI C q w w.heap.size t1 (k + 1) (.slice (some ⟨g', 0, none⟩) (k + 1) cap') w3) := by
        refine ⟨?_, ?_⟩
        · rw [E1.out, ics_snoc]
          exact hown'
        · rw [E2.out]
          exact H2.out.grown HC.out HQ0.out hgrow (fun g hg => (hO2.lt g hg).1)
      clear hown' hgrow hO2
      go_wp2_with fail
      go_roundw
      case rel => exact ⟨k + 1, by omega, by go_num, HN.out⟩
      case measure => simp [intOf]; omega
    · obtain rfl : k = cnt := by omega
      have b2 : ¬ (k : Int) < min v1 (m : Int) := by rw [hc1]; omega
      go_wp2_with fail
      go_ret
      refine ⟨Av, cv, by rw [LN.out]; rfl, ⟨rfl, ?_⟩, HQ.out.2⟩
      rw [LN.out]
      exact HQ.out.1
theorem pages_r (C q : Nat) (s : RS) (w : World) (hs : Few s) (hC : C ≤ w.heap.size) (hr : RdS w q s) :
    Calls Tryz.prog 126 #[.agg #[ptr q]] w fun e w' => ∃ A c, e = .returned (.slice A (pagesR s).1.length c) ∧ RowI w.heap.size w' ⟨A, (pagesR s).1.length, c⟩ (pagesR s).1 ∧ ReadS C q w (pagesR s).2 w' := by
  have H0 := Lib.hid (ReadS.start (C := C) hr |>.alloc hC (.cells #[ptr q] 154))
  have LI := Lib.hid (listI_r C q 64 64 rfl (Nat.le_refl _) s (w.alloc (.cells #[ptr q] 154)) hs (by simp; omega) H0.out.1)
  have HS := Lib.hid (show w.heap.size ≤ (w.alloc (.cells #[ptr q] 154)).heap.size from by simp)
  unfold pagesR
  generalize (listR numR 64 s).1 = l at *
  generalize (listR numR 64 s).2 = t at *
  clear hs hC hr
  go_enter Tryz.func126, Tryz.ntmps126
  go_wp2_with fail
  refine LI.out.mono ?_; rintro e w1 ⟨A, c, rfl, hrow, hr⟩
  have HR := Lib.hid (show RowI w.heap.size w1 ⟨A, l.length, c⟩ l from ⟨hrow.1, own_base hrow.2 HS.out⟩)
  have H1 := Lib.hid (H0.out.then hr)
  clear hrow hr
  go_wp2_with fail
  go_ret
  exact ⟨A, c, rfl, HR.out, H1.out⟩
/-- The state of the loop. -/
def LStP (C q : Nat) (w0 : World) (B : Nat) (s : RS) (k : Nat) (u : Value) (wr : World) : Prop := wr.ownsRow B 110 3 u k (pcs (listN ptR k s).1) ∧ ReadS C q w0 (listN ptR k s).2 wr
set_option maxHeartbeats 2000000 in
theorem listP_r (C q m : Nat) (M : Int) (hM : M = (m : Nat)) (hm : m ≤ 64) (s : RS) (w : World) (hs : Few s) (hC : C ≤ w.heap.size) (hr : RdS w q s) :
    Calls Tryz.prog 127 #[.agg #[ptr q], .int .i64 M, .func (.func 128) #[.agg #[ptr q]] #[]] w fun e w' => ∃ A c, e = .returned (.slice A (listR ptR m s).1.length c) ∧ RowP w.heap.size w' ⟨A, (listR ptR m s).1.length, c⟩ (listR ptR m s).1 ∧ ReadS C q w (listR ptR m s).2 w' := by
  subst hM
  obtain ⟨i0, hi0, hz0, hz1, hz2⟩ := info_parts infoP
  have hin := numR_in s
  have hqw := hr.lt
  have HC := Lib.hid hC
  have H0 := Lib.hid (ReadS.start (C := C) hr |>.alloc hC (.cells #[ptr q] 154))
  have NU := Lib.hid (rnum_any C q s (w.alloc (.cells #[ptr q] 154)) hs (by simp; omega) H0.out.1)
  obtain ⟨cnt, hcnt⟩ : ∃ cnt : Nat, cnt = (min (numR s).1 (m : Int)).toNat := ⟨_, rfl⟩
  have HL := Lib.hid (show (listR ptR m s) = listN ptR cnt (numR s).2 from by unfold listR; rw [hcnt])
  have hc1 : min (numR s).1 (m : Int) = (cnt : Int) := by omega
  have hcm : cnt ≤ 64 := by omega
  rw [HL.out]
  have FW := Lib.hid (fun k => few_listN (f := ptR) (fun s h => few_pt h) k (few_num hs))
  have hB : w.heap.size ≤ (w.alloc (.cells #[ptr q] 154)).heap.size := by simp
  have HB := Lib.hid hB
  have HQ0 := Lib.hid hqw
  generalize (numR s).1 = v1 at *
  generalize (numR s).2 = t1 at *
  have LN := Lib.hid (fun k => listN_length ptR k t1)
  have hcN : (cnt : Int) ≤ 64 := by omega
  clear hcnt hC hr hs hin hm HL hB hqw
  go_enter Tryz.func127, Tryz.ntmps127
  go_wp2_with fail
  refine NU.out.mono ?_; rintro e w1 ⟨rfl, hr⟩
  have H1 := Lib.hid (H0.out.then hr)
  clear hr NU H0
  go_wp2_with fail
  go_loopw [7, 13] (fun u x wr => ∃ k : Nat, k ≤ cnt ∧ x = .int .i64 k ∧ Hid (LStP C q w w.heap.size t1 k u wr)) (fun _ x _ => cnt - (intOf x).toNat)
  case atStart => exact ⟨0, Nat.zero_le _, rfl, World.ownsRow_nil _ _ _ _, H1.out⟩
  case round =>
    obtain ⟨k, hk, rfl, hq⟩ := hrel
    have HQ := Lib.hid hq.out
    clear hq
    obtain ⟨Av, cv, rfl⟩ := own_shape HQ.out.1
    have b0 : (0 : Int) ≤ (k : Int) := by omega
    by_cases hlt : k < cnt
    · have b1 : (k : Int) < (cnt : Int) := by omega
      have b2 : (k : Int) < min v1 (m : Int) := by rw [hc1]; exact b1
      have RD := Lib.hid (patch_r C q (listN ptR k t1).2 wr (FW.out k) (Nat.le_trans HC.out HQ.out.2.size) HQ.out.2.1)
      have E1 := Lib.hid (show (listN ptR (k + 1) t1).1 = (listN ptR k t1).1 ++ [(ptR (listN ptR k t1).2).1] from rfl)
      have E2 := Lib.hid (show (listN ptR (k + 1) t1).2 = (ptR (listN ptR k t1).2).2 from rfl)
      unfold ptv at RD
      generalize (ptR (listN ptR k t1).2).1 = x at *
      generalize (ptR (listN ptR k t1).2).2 = t2 at *
      go_wp2_with fail
      refine RD.out.mono ?_; rintro e w2 ⟨rfl, hr⟩
      have hO2 := own_only HQ.out.1 hr.2 HQ.out.2.1 (by decide) (by decide)
      have H2 := Lib.hid (HQ.out.2.then hr)
      clear hr RD
      go_wp2_with (at_builtin; refine wpList_append_own _ rfl (.tmp 15) (.tmp 18) 39 rfl w.heap.size 110 i0 (.agg #[.int .i64 0, .int .i64 0, .string ⟨#[]⟩]) 3 32 Tryz.underlying39 hi0 hz0 hz1 hz2 rfl (by decide) _ _ _ rfl (hO2.alloc _) ⟨w2.heap.size, 0, none⟩ 1 1 [.int .i64 x.pg, .int .i64 x.ofs, .string x.bs] rfl rfl (news_of w2 _ _) (by intro u hu; simp at hu; first | (rcases hu with rfl | rfl | rfl <;> rfl) | (rcases hu with rfl | rfl <;> rfl) | (subst hu; rfl)) (by unfold maxLen; omega) (by omega) (by have := H2.out.size; simp; omega) ?_; intro v' w3 hown' hgrow _; obtain ⟨g', cap', rfl⟩ := ownsRow_succ hown')
      have HN : Hid (LStP C q w w.heap.size t1 (k + 1) (.slice (some ⟨g', 0, none⟩) (k + 1) cap') w3) := by
        refine ⟨?_, ?_⟩
        · rw [E1.out, pcs_snoc]
          exact hown'
        · rw [E2.out]
          exact H2.out.grown HC.out HQ0.out hgrow (fun g hg => (hO2.lt g hg).1)
      clear hown' hgrow hO2
      go_wp2_with fail
      go_roundw
      case rel => exact ⟨k + 1, by omega, by go_num, HN.out⟩
      case measure => simp [intOf]; omega
    · obtain rfl : k = cnt := by omega
      have b2 : ¬ (k : Int) < min v1 (m : Int) := by rw [hc1]; omega
      go_wp2_with fail
      go_ret
      refine ⟨Av, cv, by rw [LN.out]; rfl, ⟨rfl, ?_⟩, HQ.out.2⟩
      rw [LN.out]
      exact HQ.out.1
/-- The state of the loop. -/
def LStD (C q : Nat) (w0 : World) (B : Nat) (s : RS) (k : Nat) (u : Value) (wr : World) : Prop := wr.ownsRow B 114 2 u k (dcs (listN dyR k s).1) ∧ ReadS C q w0 (listN dyR k s).2 wr
set_option maxHeartbeats 2000000 in
theorem listD_r (C q m : Nat) (M : Int) (hM : M = (m : Nat)) (hm : m ≤ 64) (s : RS) (w : World) (hs : Few s) (hC : C ≤ w.heap.size) (hr : RdS w q s) :
    Calls Tryz.prog 131 #[.agg #[ptr q], .int .i64 M, .func (.func 132) #[.agg #[ptr q]] #[]] w fun e w' => ∃ A c, e = .returned (.slice A (listR dyR m s).1.length c) ∧ RowD w.heap.size w' ⟨A, (listR dyR m s).1.length, c⟩ (listR dyR m s).1 ∧ ReadS C q w (listR dyR m s).2 w' := by
  subst hM
  obtain ⟨i0, hi0, hz0, hz1, hz2⟩ := info_parts infoD
  have hin := numR_in s
  have hqw := hr.lt
  have HC := Lib.hid hC
  have H0 := Lib.hid (ReadS.start (C := C) hr |>.alloc hC (.cells #[ptr q] 154))
  have NU := Lib.hid (rnum_any C q s (w.alloc (.cells #[ptr q] 154)) hs (by simp; omega) H0.out.1)
  obtain ⟨cnt, hcnt⟩ : ∃ cnt : Nat, cnt = (min (numR s).1 (m : Int)).toNat := ⟨_, rfl⟩
  have HL := Lib.hid (show (listR dyR m s) = listN dyR cnt (numR s).2 from by unfold listR; rw [hcnt])
  have hc1 : min (numR s).1 (m : Int) = (cnt : Int) := by omega
  have hcm : cnt ≤ 64 := by omega
  rw [HL.out]
  have FW := Lib.hid (fun k => few_listN (f := dyR) (fun s h => few_dy h) k (few_num hs))
  have hB : w.heap.size ≤ (w.alloc (.cells #[ptr q] 154)).heap.size := by simp
  have HB := Lib.hid hB
  have HQ0 := Lib.hid hqw
  generalize (numR s).1 = v1 at *
  generalize (numR s).2 = t1 at *
  have LN := Lib.hid (fun k => listN_length dyR k t1)
  have hcN : (cnt : Int) ≤ 64 := by omega
  clear hcnt hC hr hs hin hm HL hB hqw
  go_enter Tryz.func131, Tryz.ntmps131
  go_wp2_with fail
  refine NU.out.mono ?_; rintro e w1 ⟨rfl, hr⟩
  have H1 := Lib.hid (H0.out.then hr)
  clear hr NU H0
  go_wp2_with fail
  go_loopw [7, 13] (fun u x wr => ∃ k : Nat, k ≤ cnt ∧ x = .int .i64 k ∧ Hid (LStD C q w w.heap.size t1 k u wr)) (fun _ x _ => cnt - (intOf x).toNat)
  case atStart => exact ⟨0, Nat.zero_le _, rfl, World.ownsRow_nil _ _ _ _, H1.out⟩
  case round =>
    obtain ⟨k, hk, rfl, hq⟩ := hrel
    have HQ := Lib.hid hq.out
    clear hq
    obtain ⟨Av, cv, rfl⟩ := own_shape HQ.out.1
    have b0 : (0 : Int) ≤ (k : Int) := by omega
    by_cases hlt : k < cnt
    · have b1 : (k : Int) < (cnt : Int) := by omega
      have b2 : (k : Int) < min v1 (m : Int) := by rw [hc1]; exact b1
      have RD := Lib.hid (dirty_r C q (listN dyR k t1).2 wr (FW.out k) (Nat.le_trans HC.out HQ.out.2.size) HQ.out.2.1)
      have E1 := Lib.hid (show (listN dyR (k + 1) t1).1 = (listN dyR k t1).1 ++ [(dyR (listN dyR k t1).2).1] from rfl)
      have E2 := Lib.hid (show (listN dyR (k + 1) t1).2 = (dyR (listN dyR k t1).2).2 from rfl)
      unfold dyv at RD
      generalize (dyR (listN dyR k t1).2).1 = x at *
      generalize (dyR (listN dyR k t1).2).2 = t2 at *
      go_wp2_with fail
      refine RD.out.mono ?_; rintro e w2 ⟨rfl, hr⟩
      have hO2 := own_only HQ.out.1 hr.2 HQ.out.2.1 (by decide) (by decide)
      have H2 := Lib.hid (HQ.out.2.then hr)
      clear hr RD
      go_wp2_with (at_builtin; refine wpList_append_own _ rfl (.tmp 15) (.tmp 18) 41 rfl w.heap.size 114 i0 (.agg #[.int .i64 0, .int .i64 0]) 2 16 Tryz.underlying41 hi0 hz0 hz1 hz2 rfl (by decide) _ _ _ rfl (hO2.alloc _) ⟨w2.heap.size, 0, none⟩ 1 1 [.int .i64 x.page, .int .i64 x.lsn] rfl rfl (news_of w2 _ _) (by intro u hu; simp at hu; first | (rcases hu with rfl | rfl | rfl <;> rfl) | (rcases hu with rfl | rfl <;> rfl) | (subst hu; rfl)) (by unfold maxLen; omega) (by omega) (by have := H2.out.size; simp; omega) ?_; intro v' w3 hown' hgrow _; obtain ⟨g', cap', rfl⟩ := ownsRow_succ hown')
      have HN : Hid (LStD C q w w.heap.size t1 (k + 1) (.slice (some ⟨g', 0, none⟩) (k + 1) cap') w3) := by
        refine ⟨?_, ?_⟩
        · rw [E1.out, dcs_snoc]
          exact hown'
        · rw [E2.out]
          exact H2.out.grown HC.out HQ0.out hgrow (fun g hg => (hO2.lt g hg).1)
      clear hown' hgrow hO2
      go_wp2_with fail
      go_roundw
      case rel => exact ⟨k + 1, by omega, by go_num, HN.out⟩
      case measure => simp [intOf]; omega
    · obtain rfl : k = cnt := by omega
      have b2 : ¬ (k : Int) < min v1 (m : Int) := by rw [hc1]; omega
      go_wp2_with fail
      go_ret
      refine ⟨Av, cv, by rw [LN.out]; rfl, ⟨rfl, ?_⟩, HQ.out.2⟩
      rw [LN.out]
      exact HQ.out.1
theorem RowI.only {B C q : Nat} {w w' : World} {s : Sl} {l : List Int} {t : RS} (h : RowI B w s l) (ho : Only C q w w') (hr : RdS w q t) : RowI B w' s l := ⟨h.1, own_only h.2 ho hr (by decide) (by decide)⟩
theorem RowP.only {B C q : Nat} {w w' : World} {s : Sl} {l : List Pt} {t : RS} (h : RowP B w s l) (ho : Only C q w w') (hr : RdS w q t) : RowP B w' s l := ⟨h.1, own_only h.2 ho hr (by decide) (by decide)⟩
theorem RowD.only {B C q : Nat} {w w' : World} {s : Sl} {l : List Dy} {t : RS} (h : RowD B w s l) (ho : Only C q w w') (hr : RdS w q t) : RowD B w' s l := ⟨h.1, own_only h.2 ho hr (by decide) (by decide)⟩
theorem RowT.only {B C q : Nat} {w w' : World} {s : Sl} {l : List Tx} {ss : List Sl} {t : RS} (h : RowT B w s l ss) (ho : Only C q w w') (hr : RdS w q t) : RowT B w' s l ss := ⟨h.1, h.2.1, own_only h.2.2.1 ho hr (by decide) (by decide), fun k hk => (h.2.2.2 k hk).only ho hr⟩
theorem RowI.base {B D : Nat} {w : World} {s : Sl} {l : List Int} (h : RowI B w s l) (hD : D ≤ B) : RowI D w s l := ⟨h.1, own_base h.2 hD⟩
theorem RowP.base {B D : Nat} {w : World} {s : Sl} {l : List Pt} (h : RowP B w s l) (hD : D ≤ B) : RowP D w s l := ⟨h.1, own_base h.2 hD⟩
theorem RowD.base {B D : Nat} {w : World} {s : Sl} {l : List Dy} (h : RowD B w s l) (hD : D ≤ B) : RowD D w s l := ⟨h.1, own_base h.2 hD⟩
theorem RowT.base {B D : Nat} {w : World} {s : Sl} {l : List Tx} {ss : List Sl} (h : RowT B w s l ss) (hD : D ≤ B) : RowT D w s l ss := ⟨h.1, h.2.1, own_base h.2.2.1 hD, h.2.2.2⟩
theorem RowI.below {B : Nat} {w w' : World} {s : Sl} {l : List Int} (h : RowI B w s l) (hb : Below w.heap.size w w') : RowI B w' s l := ⟨h.1, own_below h.2 hb⟩
theorem RowP.below {B : Nat} {w w' : World} {s : Sl} {l : List Pt} (h : RowP B w s l) (hb : Below w.heap.size w w') : RowP B w' s l := ⟨h.1, own_below h.2 hb⟩
theorem RowD.below {B : Nat} {w w' : World} {s : Sl} {l : List Dy} (h : RowD B w s l) (hb : Below w.heap.size w w') : RowD B w' s l := ⟨h.1, own_below h.2 hb⟩
theorem RowT.below {B : Nat} {w w' : World} {s : Sl} {l : List Tx} {ss : List Sl} (h : RowT B w s l ss) (hb : Below w.heap.size w w') : RowT B w' s l ss := ⟨h.1, h.2.1, own_below h.2.2.1 hb, fun k hk => (h.2.2.2 k hk).below hb⟩
/-- One block alone has turned. -/
def Aside (D : Nat) (w w' : World) : Prop := ∀ k, k ≠ D → w'.heap[k]? = w.heap[k]?
theorem Aside.refl (D : Nat) (w : World) : Aside D w w := fun _ _ => rfl
theorem Aside.row (D : Nat) (w : World) (ds : Array Value) : Aside D w (w.setRow D ds) := fun k hk => row_other w D k ds hk
theorem Aside.set {D i : Nat} {w w' : World} {u : Value} (h : Aside D w w') : Aside D w (w'.setCell ⟨D, i, none⟩ u) := fun k hk => (Below.heap_setCell w' ⟨D, i, none⟩ u k hk).trans (h k hk)
theorem own_aside {B D e s n : Nat} {w w' : World} {v : Value} {xs : List Value} {cs : Array Value} {t : TypeId} (h : w.ownsRow B e s v n xs) (ha : Aside D w w') (hz : Bx w D cs t) (ht : t ≠ e) : w'.ownsRow B e s v n xs :=
  owns_kept h fun g hg => ha g fun hh => by
    subst hh
    obtain ⟨cur, hc⟩ := owns_block h hg
    have h2 : w.heap[g]? = _ := hz
    rw [hc] at h2
    simp only [Option.some.injEq, Obj.cells.injEq] at h2
    exact ht h2.2.1.symm
theorem RowI.aside {B D : Nat} {w w' : World} {s : Sl} {l : List Int} {cs : Array Value} {t : TypeId} (h : RowI B w s l) (ha : Aside D w w') (hz : Bx w D cs t) (ht : t ≠ 3) : RowI B w' s l := ⟨h.1, own_aside h.2 ha hz ht⟩
theorem RowP.aside {B D : Nat} {w w' : World} {s : Sl} {l : List Pt} {cs : Array Value} {t : TypeId} (h : RowP B w s l) (ha : Aside D w w') (hz : Bx w D cs t) (ht : t ≠ 110) : RowP B w' s l := ⟨h.1, own_aside h.2 ha hz ht⟩
theorem RowD.aside {B D : Nat} {w w' : World} {s : Sl} {l : List Dy} {cs : Array Value} {t : TypeId} (h : RowD B w s l) (ha : Aside D w w') (hz : Bx w D cs t) (ht : t ≠ 114) : RowD B w' s l := ⟨h.1, own_aside h.2 ha hz ht⟩
theorem RowT.aside {B D : Nat} {w w' : World} {s : Sl} {l : List Tx} {ss : List Sl} {cs : Array Value} {t : TypeId} (h : RowT B w s l ss) (ha : Aside D w w') (hz : Bx w D cs t) (ht : t ≠ 112) (ht2 : t ≠ 3) : RowT B w' s l ss := ⟨h.1, h.2.1, own_aside h.2.2.1 ha hz ht, fun k hk => (h.2.2.2 k hk).aside ha hz ht2⟩
theorem RowI.grown {B B' e' s' n' : Nat} {w1 w2 : World} {s : Sl} {l : List Int} {v' : Value} {xs' : List Value} {o : Obj} (h : RowI B w1 s l) (h' : w1.ownsRow B' e' s' v' n' xs') (hne : 3 ≠ e') (hg : (w1.alloc o).grownBy w2 v'.ownBlock) : RowI B w2 s l := ⟨h.1, own_grown h.2 h' hne hg⟩
set_option maxHeartbeats 2000000 in
theorem tx_r (C q : Nat) (s : RS) (w : World) (hs : Few s) (hC : C ≤ w.heap.size) (hr : RdS w q s) : Calls Tryz.prog 130 #[.agg #[ptr q]] w fun e w' => ∃ A c, e = .returned (txv (txR s).1 A (txR s).1.pages.length c) ∧ RowI w.heap.size w' ⟨A, (txR s).1.pages.length, c⟩ (txR s).1.pages ∧ ReadS C q w (txR s).2 w' := by
  have N1 := Lib.hid (fun u (hu : RdS u q s) (hc : C ≤ u.heap.size) => rnum_any C q s u hs hc hu)
  have N2 := Lib.hid (fun u (hu : RdS u q (numR s).2) (hc : C ≤ u.heap.size) => rlong_any C q _ u (few_num hs) hc hu)
  have N3 := Lib.hid (fun u (hu : RdS u q (txR1 s)) (hc : C ≤ u.heap.size) => flag_r C q (txR1 s) u (few_long (few_num hs)) hc hu)
  have N4 := Lib.hid (fun u (hu : RdS u q (flagR (txR1 s)).2) (hc : C ≤ u.heap.size) => pages_r C q (flagR (txR1 s)).2 u (few_flag (few_long (few_num hs))) hc hu)
  unfold txR txv
  dsimp only
  generalize (pagesR (flagR (txR1 s)).2).1 = v4 at *
  generalize (pagesR (flagR (txR1 s)).2).2 = t4 at *
  generalize (flagR (txR1 s)).1 = v3 at *
  generalize (flagR (txR1 s)).2 = t3 at *
  unfold txR1 at *
  generalize (longR (numR s).2).1 = v2 at *
  generalize (longR (numR s).2).2 = t2 at *
  generalize (numR s).1 = v1 at *
  generalize (numR s).2 = t1 at *
  have H0 := Lib.hid (ReadS.start (C := C) hr |>.alloc hC (.cells #[.pointer (some ⟨q, 0, none⟩)] 154) |>.alloc hC (.cells #[.int .i64 0, .int .i64 0, .bool false, .slice none 0 0] 112))
  have hb1 := (Bx.new w #[.pointer (some ⟨q, 0, none⟩)] 154).alloc (.cells #[.int .i64 0, .int .i64 0, .bool false, .slice none 0 0] 112)
  have hz0 := Bx.new (w.alloc (.cells #[.pointer (some ⟨q, 0, none⟩)] 154)) #[.int .i64 0, .int .i64 0, .bool false, .slice none 0 0] 112
  have hqw := hr.lt
  have HC := Lib.hid hC
  have hB2 : w.heap.size ≤ (w.alloc (.cells #[.pointer (some ⟨q, 0, none⟩)] 154)).heap.size := by simp
  have hne1 : w.heap.size ≠ q := by omega
  have hne2 : (w.alloc (.cells #[.pointer (some ⟨q, 0, none⟩)] 154)).heap.size ≠ q := by omega
  have hne12 : w.heap.size ≠ (w.alloc (.cells #[.pointer (some ⟨q, 0, none⟩)] 154)).heap.size := by simp
  clear hC hr hs
  go_enter Tryz.func130, Tryz.ntmps130
  go_upto_region 1 with fail
  rw [← World.size_alloc w (.cells #[.pointer (some ⟨q, 0, none⟩)] 154)]
  generalize hW : (w.alloc (.cells #[.pointer (some ⟨q, 0, none⟩)] 154)).alloc (.cells #[.int .i64 0, .int .i64 0, .bool false, .slice none 0 0] 112) = W at *
  obtain ⟨B2, hB⟩ : ∃ B, B = (w.alloc (.cells #[.pointer (some ⟨q, 0, none⟩)] 154)).heap.size := ⟨_, rfl⟩
  rw [← hB] at hz0 hB2 hne2 hne12 ⊢
  obtain ⟨B1, hB1⟩ : ∃ B, B = w.heap.size := ⟨_, rfl⟩
  rw [← hB1] at hb1 hne1 hne12 ⊢
  clear hB hB1 hW
  have HR0 := Lib.hid H0.out.drew
  have X0 := fun r (h : Bx r B1 #[.pointer (some ⟨q, 0, none⟩)] 154) => (h.cell 0).trans (show (#[.pointer (some ⟨q, 0, none⟩)] : Array Value)[0]? = some (.pointer (some ⟨q, 0, none⟩)) from rfl)
  clear H0
  refine wp_region_noPanic ?_
  refine wp_region_held_drew (S := fun w' => Bx w' B1 #[.pointer (some ⟨q, 0, none⟩)] 154) (by kernel_rfl) ?_ (fun hHeld => ?_)
  · exact hb1.drew
  refine wpAnyH_take (i := 0) (oi := { dst := some 3, op := Op.fieldAddr 154 (Operand.tmp 1) 0, type := 0, pos := "record.go:181", after := #[], guard := none }) (v := .pointer (some ⟨B1, 0, none⟩)) rfl (by kernel_rfl) (by kernel_rfl) (by kernel_rfl) (fun _ _ _ h => h) (Or.inl ⟨by rfl, fun w' hSw => by ((try dsimp only at hSw); have := X0 _ hSw; go_simp)⟩) (by assumption) ?_
  (try simp only [Act.put, List.setIfInBounds_toArray, List.set_cons_zero, List.set_cons_succ])
  refine wpAnyH_take (i := 1) (oi := { dst := some 4, op := Op.load 151 (Operand.tmp 3), type := 151, pos := "record.go:181", after := #[{ on := 0, ground := Ground.data }], guard := none }) (v := .pointer (some ⟨q, 0, none⟩)) rfl (by kernel_rfl) (by kernel_rfl) (by kernel_rfl) (fun _ _ _ h => h) (Or.inl ⟨by rfl, fun w' hSw => by ((try dsimp only at hSw); have := X0 _ hSw; go_simp)⟩) (by assumption) ?_
  (try simp only [Act.put, List.setIfInBounds_toArray, List.set_cons_zero, List.set_cons_succ])
  refine wpAnyH_take (i := 3) (oi := { dst := some 6, op := Op.fieldAddr 154 (Operand.tmp 1) 0, type := 0, pos := "record.go:181", after := #[], guard := none }) (v := .pointer (some ⟨B1, 0, none⟩)) rfl (by kernel_rfl) (by kernel_rfl) (by kernel_rfl) (fun _ _ _ h => h) (Or.inl ⟨by rfl, fun w' hSw => by ((try dsimp only at hSw); have := X0 _ hSw; go_simp)⟩) (by assumption) ?_
  (try simp only [Act.put, List.setIfInBounds_toArray, List.set_cons_zero, List.set_cons_succ])
  refine wpAnyH_take (i := 4) (oi := { dst := some 7, op := Op.load 151 (Operand.tmp 6), type := 151, pos := "record.go:181", after := #[{ on := 3, ground := Ground.data }], guard := none }) (v := .pointer (some ⟨q, 0, none⟩)) rfl (by kernel_rfl) (by kernel_rfl) (by kernel_rfl) (fun _ _ _ h => h) (Or.inl ⟨by rfl, fun w' hSw => by ((try dsimp only at hSw); have := X0 _ hSw; go_simp)⟩) (by assumption) ?_
  (try simp only [Act.put, List.setIfInBounds_toArray, List.set_cons_zero, List.set_cons_succ])
  refine wpAnyH_take (i := 6) (oi := { dst := some 9, op := Op.load 154 (Operand.tmp 1), type := 154, pos := "record.go:181", after := #[], guard := none }) (v := .agg #[.pointer (some ⟨q, 0, none⟩)]) rfl (by kernel_rfl) (by kernel_rfl) (by kernel_rfl) (fun _ _ _ h => h) (Or.inl ⟨by rfl, fun w' hSw => by ((try dsimp only at hSw); have := X0 _ hSw; go_simp)⟩) (by assumption) ?_
  (try simp only [Act.put, List.setIfInBounds_toArray, List.set_cons_zero, List.set_cons_succ])
  refine wpAnyH_take (i := 8) (oi := { dst := some 11, op := Op.load 154 (Operand.tmp 1), type := 154, pos := "record.go:181", after := #[], guard := none }) (v := .agg #[.pointer (some ⟨q, 0, none⟩)]) rfl (by kernel_rfl) (by kernel_rfl) (by kernel_rfl) (fun _ _ _ h => h) (Or.inl ⟨by rfl, fun w' hSw => by ((try dsimp only at hSw); have := X0 _ hSw; go_simp)⟩) (by assumption) ?_
  (try simp only [Act.put, List.setIfInBounds_toArray, List.set_cons_zero, List.set_cons_succ])
  refine wpAnyH_ready (rs := [2]) (by kernel_rfl) (by simp) ?_
  refine AllReadyH.cons (o := { dst := some 5, op := Op.call { callee := Callee.value (Operand.func 122), args := #[Operand.tmp 4], argTypes := #[151] }, type := 3, pos := "record.go:181", after := #[{ on := 1, ground := Ground.data }], guard := none }) rfl (fun K hK => ?_) ?_
  · go_simp; go_at_call 122; refine (N1.out _ HR0.out.1 (Nat.le_trans HC.out HR0.out.size)).mono ?_; rintro e u1 ⟨rfl, hr⟩; have hb2 := hb1.drew.only hr.2 hne1 (by decide); have hz1 := hz0.drew.only hr.2 hne2 (by decide); have HR1 := Lib.hid (HR0.out.then hr); clear hr
    refine hK.out _ _ ?_ (fun hHeld => ?_)
    · exact hb2
    clear hK K
    (try simp only [Act.put, List.setIfInBounds_toArray, List.set_cons_zero, List.set_cons_succ])
    refine wpAnyH_ready (rs := [5]) (by kernel_rfl) (by simp) ?_
    refine AllReadyH.cons (o := { dst := some 8, op := Op.call { callee := Callee.value (Operand.func 123), args := #[Operand.tmp 7], argTypes := #[151] }, type := 3, pos := "record.go:181", after := #[{ on := 4, ground := Ground.data }, { on := 2, ground := Ground.chain }], guard := none }) rfl (fun K hK => ?_) ?_
    · go_simp; go_at_call 123; refine (N2.out _ HR1.out.1 (Nat.le_trans HC.out HR1.out.size)).mono ?_; rintro e u2 ⟨rfl, hr⟩; have hb3 := hb2.only hr.2 hne1 (by decide); have hz2 := hz1.only hr.2 hne2 (by decide); have HR2 := Lib.hid (HR1.out.then hr); clear hr
      refine hK.out _ _ ?_ (fun hHeld => ?_)
      · exact hb3
      clear hK K
      (try simp only [Act.put, List.setIfInBounds_toArray, List.set_cons_zero, List.set_cons_succ])
      refine wpAnyH_ready (rs := [7]) (by kernel_rfl) (by simp) ?_
      refine AllReadyH.cons (o := { dst := some 10, op := Op.call { callee := Callee.value (Operand.func 125), args := #[Operand.tmp 9], argTypes := #[154] }, type := 4, pos := "record.go:181", after := #[{ on := 6, ground := Ground.data }, { on := 5, ground := Ground.chain }], guard := none }) rfl (fun K hK => ?_) ?_
      · go_simp; go_at_call 125; refine (N3.out _ HR2.out.1 (Nat.le_trans HC.out HR2.out.size)).mono ?_; rintro e u3 ⟨rfl, hr⟩; have hb4 := hb3.only hr.2 hne1 (by decide); have hz3 := hz2.only hr.2 hne2 (by decide); have HR3 := Lib.hid (HR2.out.then hr); clear hr
        refine hK.out _ _ ?_ (fun hHeld => ?_)
        · exact hb4
        clear hK K
        (try simp only [Act.put, List.setIfInBounds_toArray, List.set_cons_zero, List.set_cons_succ])
        refine wpAnyH_ready (rs := [9]) (by kernel_rfl) (by simp) ?_
        refine AllReadyH.cons (o := { dst := some 12, op := Op.call { callee := Callee.value (Operand.func 126), args := #[Operand.tmp 11], argTypes := #[154] }, type := 38, pos := "record.go:181", after := #[{ on := 8, ground := Ground.data }, { on := 7, ground := Ground.chain }], guard := none }) rfl (fun K hK => ?_) ?_
        · go_simp; go_at_call 126; refine (N4.out _ HR3.out.1 (Nat.le_trans HC.out HR3.out.size)).mono ?_; rintro e u4 ⟨A4, c4, rfl, hro, hr⟩; have hb5 := hb4.only hr.2 hne1 (by decide); have hz4 := hz3.only hr.2 hne2 (by decide); have HR4 := Lib.hid (HR3.out.then hr); have HRO4 := Lib.hid (RowI.base hro HR3.out.2.size); clear hro; clear hr
          refine hK.out _ _ ?_ (fun hHeld => ?_)
          · exact hb5
          clear hK K
          (try simp only [Act.put, List.setIfInBounds_toArray, List.set_cons_zero, List.set_cons_succ])
          refine wpAnyH_take (i := 10) (oi := { dst := some 13, op := Op.build 112 #[(0, Operand.tmp 5), (1, Operand.tmp 8), (2, Operand.tmp 10), (3, Operand.tmp 12)], type := 112, pos := "record.go:181", after := #[{ on := 2, ground := Ground.data }, { on := 5, ground := Ground.data }, { on := 7, ground := Ground.data }, { on := 9, ground := Ground.data }], guard := none }) (v := .agg #[.int .i64 v1, .int .i64 v2, .bool v3, .slice A4 v4.length c4]) rfl (by kernel_rfl) (by kernel_rfl) (by kernel_rfl) (fun _ _ _ h => h) (Or.inl ⟨by rfl, fun w' hSw => by ((try dsimp only at hSw); have := X0 _ hSw; go_simp)⟩) (by assumption) ?_
          (try simp only [Act.put, List.setIfInBounds_toArray, List.set_cons_zero, List.set_cons_succ])

          refine wpAnyH_ready (rs := [11]) (by kernel_rfl) (by simp) ?_
          refine AllReadyH.cons (o := { dst := none, op := Op.store 112 (Operand.tmp 2) (Operand.tmp 13), type := 0, pos := "record.go:181", after := #[{ on := 10, ground := Ground.data }, { on := 9, ground := Ground.chain }, { on := 0, ground := Ground.phase }, { on := 1, ground := Ground.phase }, { on := 2, ground := Ground.phase }, { on := 3, ground := Ground.phase }, { on := 4, ground := Ground.phase }, { on := 5, ground := Ground.phase }, { on := 6, ground := Ground.phase }, { on := 7, ground := Ground.phase }, { on := 8, ground := Ground.phase }, { on := 9, ground := Ground.phase }, { on := 10, ground := Ground.phase }], guard := none }) rfl (fun K hK => ?_) ?_
          · refine step_store_row rfl 112 (.tmp 2) (.tmp 13) rfl B2 #[.int .i64 v1, .int .i64 v2, .bool v3, .slice A4 v4.length c4] rfl rfl 112 _ hz4 (by kernel_rfl) rfl (by simp [Value.oneCell']) ?_
            refine hK.out _ _ ?_ (fun hHeld => ?_)
            · exact hb5.orow hne12 _
            clear hK K
            (try simp only [Act.put, List.setIfInBounds_toArray, List.set_cons_zero, List.set_cons_succ])
            refine wpAnyH_done (by kernel_rfl) ?_ _
            refine NoPanic.normal ?_
            have HZ : Bx (u4.setRow B2 #[.int .i64 v1, .int .i64 v2, .bool v3, .slice A4 v4.length c4]) B2 #[.int .i64 v1, .int .i64 v2, .bool v3, .slice A4 v4.length c4] 112 := hz4.row _
            have HR := Lib.hid (ReadS.row HR4.out HC.out hB2 hqw : ReadS C q w t4 (u4.setRow B2 #[.int .i64 v1, .int .i64 v2, .bool v3, .slice A4 v4.length c4]))
            have HRO := Lib.hid (RowI.aside (HRO4.out) (Aside.row B2 u4 #[.int .i64 v1, .int .i64 v2, .bool v3, .slice A4 v4.length c4]) hz4 (by decide) : RowI w.heap.size (u4.setRow B2 #[.int .i64 v1, .int .i64 v2, .bool v3, .slice A4 v4.length c4]) ⟨A4, v4.length, c4⟩ v4)
            clear hHeld
            generalize (u4.setRow B2 #[.int .i64 v1, .int .i64 v2, .bool v3, .slice A4 v4.length c4]) = V at *
            have y0 : V.cell? ⟨B2, 0, none⟩ = some (.int .i64 v1) := HZ.cell 0
            have y1 : V.cell? ⟨B2, 1, none⟩ = some (.int .i64 v2) := HZ.cell 1
            have y2 : V.cell? ⟨B2, 2, none⟩ = some (.bool v3) := HZ.cell 2
            have y3 : V.cell? ⟨B2, 3, none⟩ = some (.slice A4 v4.length c4) := HZ.cell 3
            clear HZ
            go_wp2_with fail
            refine bodyPost_ret (v := .agg #[.int .i64 v1, .int .i64 v2, .bool v3, .slice A4 v4.length c4]) (by simp [results, Tryz.results130, go_sem, y0, y1, y2, y3]) rfl ⟨A4, c4, rfl, HRO.out, HR.out⟩
          exact AllReadyH.nil
        exact AllReadyH.nil
      exact AllReadyH.nil
    exact AllReadyH.nil
  exact AllReadyH.nil
/-- The state of the loop. -/
def LStT (C q : Nat) (w0 : World) (B : Nat) (s : RS) (k : Nat) (u : Value) (wr : World) : Prop := ∃ ss : List Sl, ss.length = k ∧ wr.ownsRow B 112 4 u k (tcs ((listN txR k s).1.zip ss)) ∧ (∀ j, j < k → RowI 0 wr (ss.getD j sl0) ((listN txR k s).1.getD j nilT).pages) ∧ ReadS C q w0 (listN txR k s).2 wr
theorem getD_snoc_lt {α : Type} {l : List α} {x d : α} {j : Nat} (h : j < l.length) : (l ++ [x]).getD j d = l.getD j d := by simp [List.getD, List.getElem?_append_left h]
theorem getD_snoc_eq {α : Type} {l : List α} {x d : α} {j : Nat} (h : j = l.length) : (l ++ [x]).getD j d = x := by subst h; simp [List.getD]
set_option maxHeartbeats 2000000 in
theorem listT_r (C q m : Nat) (M : Int) (hM : M = (m : Nat)) (hm : m ≤ 64) (s : RS) (w : World) (hs : Few s) (hC : C ≤ w.heap.size) (hr : RdS w q s) :
    Calls Tryz.prog 129 #[.agg #[ptr q], .int .i64 M, .func (.func 130) #[.agg #[ptr q]] #[]] w fun e w' => ∃ A c, e = .returned (.slice A (listR txR m s).1.length c) ∧ (∃ ss, RowT w.heap.size w' ⟨A, (listR txR m s).1.length, c⟩ (listR txR m s).1 ss) ∧ ReadS C q w (listR txR m s).2 w' := by
  subst hM
  obtain ⟨i0, hi0, hz0, hz1, hz2⟩ := info_parts infoT
  have hin := numR_in s
  have hqw := hr.lt
  have HC := Lib.hid hC
  have H0 := Lib.hid (ReadS.start (C := C) hr |>.alloc hC (.cells #[ptr q] 154))
  have NU := Lib.hid (rnum_any C q s (w.alloc (.cells #[ptr q] 154)) hs (by simp; omega) H0.out.1)
  obtain ⟨cnt, hcnt⟩ : ∃ cnt : Nat, cnt = (min (numR s).1 (m : Int)).toNat := ⟨_, rfl⟩
  have HL := Lib.hid (show (listR txR m s) = listN txR cnt (numR s).2 from by unfold listR; rw [hcnt])
  have hc1 : min (numR s).1 (m : Int) = (cnt : Int) := by omega
  have hcm : cnt ≤ 64 := by omega
  rw [HL.out]
  have FW := Lib.hid (fun k => few_listN (f := txR) (fun s h => few_tx h) k (few_num hs))
  have hB : w.heap.size ≤ (w.alloc (.cells #[ptr q] 154)).heap.size := by simp
  have HB := Lib.hid hB
  have HQ0 := Lib.hid hqw
  generalize (numR s).1 = v1 at *
  generalize (numR s).2 = t1 at *
  have LN := Lib.hid (fun k => listN_length txR k t1)
  have LN2 := Lib.hid (fun k => listN_length txR k t1)
  have hcN : (cnt : Int) ≤ 64 := by omega
  clear hcnt hC hr hs hin hm HL hB hqw
  go_enter Tryz.func129, Tryz.ntmps129
  go_wp2_with fail
  refine NU.out.mono ?_; rintro e w1 ⟨rfl, hr⟩
  have H1 := Lib.hid (H0.out.then hr)
  clear hr NU H0
  go_wp2_with fail
  go_loopw [7, 13] (fun u x wr => ∃ k : Nat, k ≤ cnt ∧ x = .int .i64 k ∧ Hid (LStT C q w w.heap.size t1 k u wr)) (fun _ x _ => cnt - (intOf x).toNat)
  case atStart => exact ⟨0, Nat.zero_le _, rfl, [], rfl, World.ownsRow_nil _ _ _ _, fun j hj => absurd hj (Nat.not_lt_zero _), H1.out⟩
  case round =>
    obtain ⟨k, hk, rfl, hq⟩ := hrel
    have HQ := Lib.hid hq.out
    clear hq
    obtain ⟨ss, HSS, hown1, hin1, hrd1⟩ := HQ.out
    have HSL := Lib.hid HSS
    have HIN := Lib.hid hin1
    have HRD := Lib.hid hrd1
    obtain ⟨Av, cv, rfl⟩ := own_shape hown1
    have HOW := Lib.hid hown1
    clear HSS hown1 hin1 hrd1 HQ
    have b0 : (0 : Int) ≤ (k : Int) := by omega
    by_cases hlt : k < cnt
    · have b1 : (k : Int) < (cnt : Int) := by omega
      have b2 : (k : Int) < min v1 (m : Int) := by rw [hc1]; exact b1
      have RD := Lib.hid (tx_r C q (listN txR k t1).2 wr (FW.out k) (Nat.le_trans HC.out HRD.out.size) HRD.out.1)
      have E1 := Lib.hid (show (listN txR (k + 1) t1).1 = (listN txR k t1).1 ++ [(txR (listN txR k t1).2).1] from rfl)
      have E2 := Lib.hid (show (listN txR (k + 1) t1).2 = (txR (listN txR k t1).2).2 from rfl)
      unfold txv at RD
      generalize (txR (listN txR k t1).2).1 = x at *
      generalize (txR (listN txR k t1).2).2 = t2 at *
      go_wp2_with fail
      refine RD.out.mono ?_; rintro e w2 ⟨A5, c5, rfl, hro, hr⟩
      have HRO := Lib.hid (hro.base (Nat.zero_le _))
      have HI2 := Lib.hid (fun j hj => (HIN.out j hj).only hr.2 HRD.out.1)
      clear hro
      have hO2 := own_only HOW.out hr.2 HRD.out.1 (by decide) (by decide)
      have H2 := Lib.hid (HRD.out.then hr)
      clear hr RD
      go_wp2_with (at_builtin; refine wpList_append_own _ rfl (.tmp 15) (.tmp 18) 40 rfl w.heap.size 112 i0 (.agg #[.int .i64 0, .int .i64 0, .bool false, .slice none 0 0]) 4 48 Tryz.underlying40 hi0 hz0 hz1 hz2 rfl (by decide) _ _ _ rfl (hO2.alloc _) ⟨w2.heap.size, 0, none⟩ 1 1 [.int .i64 x.id, .int .i64 x.last, .bool x.com, .slice A5 x.pages.length c5] rfl rfl (news_of w2 _ _) (by intro u hu; simp at hu; rcases hu with rfl | rfl | rfl | rfl <;> rfl) (by unfold maxLen; omega) (by omega) (by have := H2.out.size; simp; omega) ?_; intro v' w3 hown' hgrow _; obtain ⟨g', cap', rfl⟩ := ownsRow_succ hown')
      have HN : Hid (LStT C q w w.heap.size t1 (k + 1) (.slice (some ⟨g', 0, none⟩) (k + 1) cap') w3) := by
        refine ⟨ss ++ [⟨A5, x.pages.length, c5⟩], by simp [HSL.out], ?_, fun j hj => ?_, ?_⟩
        · rw [E1.out, List.zip_append (by rw [HSL.out]; exact LN.out k), List.zip_cons_cons, List.zip_nil_right, tcs_snoc]
          exact hown'
        · rw [E1.out]
          by_cases e : j = k
          · rw [getD_snoc_eq (by rw [HSL.out]; exact e), getD_snoc_eq (by rw [LN.out]; exact e)]
            exact HRO.out.grown hO2 (by decide) hgrow
          · rw [getD_snoc_lt (by rw [HSL.out]; omega), getD_snoc_lt (by rw [LN.out]; omega)]
            exact (HI2.out j (by omega)).grown hO2 (by decide) hgrow
        · rw [E2.out]
          exact H2.out.grown HC.out HQ0.out hgrow (fun g hg => (hO2.lt g hg).1)
      clear hown' hgrow hO2
      go_wp2_with fail
      go_roundw
      case rel => exact ⟨k + 1, by omega, by go_num, HN.out⟩
      case measure => simp [intOf]; omega
    · obtain rfl : k = cnt := by omega
      have b2 : ¬ (k : Int) < min v1 (m : Int) := by rw [hc1]; omega
      go_wp2_with fail
      go_ret
      refine ⟨Av, cv, by rw [LN.out]; rfl, ⟨ss, rfl, by rw [LN.out]; exact HSL.out, ?_, fun j hj => ?_⟩, HRD.out⟩
      · rw [LN.out]
        exact HOW.out
      · rw [LN.out] at hj
        exact HIN.out j hj
end Go.Proofs.YtnjggoeahaglbaaGreat.Rc

/- Put and Get of a record. -/
namespace Go.Proofs.YtnjggoeahaglbaaGreat.Rc
open Go.ChangeShapes Go.WideShapes Go.ChangeAt Go.RowKit
set_option linter.unusedVariables false
set_option linter.unusedSimpArgs false
set_option maxRecDepth 100000
/-- A record's lists in rows of a call's own. -/
def RcO (B : Nat) (w : World) (r : Rc) (h : Hd) : Prop := RowI B w h.g r.pages ∧ RowP B w h.p r.pts ∧ (∃ ss, RowT B w h.t r.txs ss) ∧ RowD B w h.d r.dys
theorem RcO.below {B : Nat} {w w' : World} {r : Rc} {h : Hd} (k : RcO B w r h) (hb : Below w.heap.size w w') : RcO B w' r h := by
  obtain ⟨a, b, ⟨ss, c⟩, d⟩ := k
  exact ⟨a.below hb, b.below hb, ⟨ss, c.below hb⟩, d.below hb⟩
theorem RcO.aside {B D : Nat} {w w' : World} {r : Rc} {h : Hd} {cs : Array Value} (k : RcO B w r h) (ha : Aside D w w') (hz : Bx w D cs 43) : RcO B w' r h := by
  obtain ⟨a, b, ⟨ss, c⟩, d⟩ := k
  exact ⟨a.aside ha hz (by decide), b.aside ha hz (by decide), ⟨ss, c.aside ha hz (by decide) (by decide)⟩, d.aside ha hz (by decide)⟩
/-- Its numbers and texts have room. -/
structure RcW (r : Rc) : Prop where
  kind : rng r.kind
  tx : rng r.tx
  prev : rng r.prev
  next : rng r.next
  key : r.key.size ≤ maxLen
  old : ClW r.old
  g : r.pages.length ≤ maxLen ∧ ∀ x ∈ r.pages, rng x
  p : r.pts.length ≤ maxLen ∧ ∀ x ∈ r.pts, PtW x
  t : r.txs.length ≤ maxLen ∧ ∀ x ∈ r.txs, TxW x ∧ x.pages.length ≤ maxLen ∧ ∀ y ∈ x.pages, rng y
  d : r.dys.length ≤ maxLen ∧ ∀ x ∈ r.dys, DyW x
theorem own_cell {w : World} {B e z n : Nat} {A : Option Addr} {c : Nat} {xs : List Value} (h : w.ownsRow B e z (.slice A n c) n xs) (hn : 0 < n) : ∃ g, A = some ⟨g, 0, none⟩ ∧ g < w.heap.size ∧ B ≤ g ∧ ∀ j u, xs[j]? = some u → w.cell? ⟨g, j, none⟩ = some u := by
  rcases h.2 with ⟨h1, h2⟩ | ⟨g, cap, cur, h1, h2, h3, _⟩
  · omega
  · have h0 := h1
    simp only [Value.slice.injEq] at h1
    obtain ⟨rfl, _, rfl⟩ := h1
    refine ⟨g, rfl, (Array.getElem?_eq_some_iff.1 h3).1, h2, fun j u hu => ?_⟩
    have := h.cells (g := g) rfl j u hu
    rw [add_plain, Nat.zero_add] at this
    exact this
theorem RowI.m {B : Nat} {w : World} {s : Sl} {l : List Int} (h : RowI B w s l) (hl : l.length ≤ maxLen) (hw : ∀ x ∈ l, rng x) : IntsM w.heap.size w s.A s.n l := by
  refine ⟨h.1.symm, by rw [h.1]; exact hl, fun k hk => ?_⟩
  have hkl : k < l.length := by rw [← h.1]; exact hk
  obtain ⟨g, e, hg, _, hc⟩ := own_cell h.2 (by omega)
  refine ⟨g, 0, e, hg, hc _ _ ?_, hw _ (getD_mem' 0 hkl)⟩
  unfold ics
  rw [Nat.zero_add, List.getElem?_map, List.getElem?_eq_getElem hkl, getD_at hkl]
  rfl
theorem flat_at {α : Type} {f : α → List Value} {z : Nat} (hf : ∀ x, (f x).length = z) : ∀ (l : List α) (k r : Nat) (d : α), k < l.length → r < z → (l.flatMap f)[k * z + r]? = (f (l.getD k d))[r]?
  | [], k, r, d, h, _ => by simp at h
  | x :: l, 0, r, d, _, hr => by
    rw [List.flatMap_cons, Nat.zero_mul, Nat.zero_add, List.getElem?_append_left (by rw [hf]; exact hr)]
    rfl
  | x :: l, k + 1, r, d, h, hr => by
    rw [List.flatMap_cons, List.getElem?_append_right (by rw [hf, Nat.succ_mul]; omega), hf, show (k + 1) * z + r - z = k * z + r by rw [Nat.succ_mul]; omega]
    exact flat_at hf l k r d (by simpa using h) hr
theorem RowP.m {B : Nat} {w : World} {s : Sl} {l : List Pt} (h : RowP B w s l) (hl : l.length ≤ maxLen) (hw : ∀ x ∈ l, PtW x) : PtsM w.heap.size w s.A s.n l := by
  refine ⟨h.1.symm, by rw [h.1]; exact hl, fun k hk => ?_⟩
  have hkl : k < l.length := by rw [← h.1]; exact hk
  obtain ⟨g, e, hg, _, hc⟩ := own_cell h.2 (by omega)
  have at_ := fun r (hr : r < 3) => flat_at (f := pcell) (z := 3) (fun _ => rfl) l k r nilP hkl hr
  refine ⟨g, 0, e, hg, ?_, hw _ (getD_mem' nilP hkl)⟩
  rw [Nat.zero_add]
  exact ⟨hc _ _ ((at_ 0 (by omega)).trans rfl), hc _ _ ((at_ 1 (by omega)).trans rfl), hc _ _ ((at_ 2 (by omega)).trans rfl)⟩
theorem RowD.m {B : Nat} {w : World} {s : Sl} {l : List Dy} (h : RowD B w s l) (hl : l.length ≤ maxLen) (hw : ∀ x ∈ l, DyW x) : DysM w.heap.size w s.A s.n l := by
  refine ⟨h.1.symm, by rw [h.1]; exact hl, fun k hk => ?_⟩
  have hkl : k < l.length := by rw [← h.1]; exact hk
  obtain ⟨g, e, hg, _, hc⟩ := own_cell h.2 (by omega)
  have at_ := fun r (hr : r < 2) => flat_at (f := dcell) (z := 2) (fun _ => rfl) l k r nilD hkl hr
  refine ⟨g, 0, e, hg, ?_, hw _ (getD_mem' nilD hkl)⟩
  rw [Nat.zero_add]
  exact ⟨hc _ _ ((at_ 0 (by omega)).trans rfl), hc _ _ ((at_ 1 (by omega)).trans rfl)⟩
theorem zip_at {l : List Tx} {ss : List Sl} {k : Nat} (h : ss.length = l.length) (hk : k < l.length) : (l.zip ss).getD k (nilT, sl0) = (l.getD k nilT, ss.getD k sl0) := by
  rw [getD_at (by rw [List.length_zip]; omega), List.getElem_zip, getD_at hk, getD_at (by omega)]
theorem RowT.m {B : Nat} {w : World} {s : Sl} {l : List Tx} {ss : List Sl} (h : RowT B w s l ss) (hl : l.length ≤ maxLen) (hw : ∀ x ∈ l, TxW x ∧ x.pages.length ≤ maxLen ∧ ∀ y ∈ x.pages, rng y) : TxsM w.heap.size w s.A s.n l := by
  obtain ⟨h1, h2, h3, h4⟩ := h
  refine ⟨h1.symm, by rw [h1]; exact hl, fun k hk => ?_⟩
  have hkl : k < l.length := by rw [← h1]; exact hk
  obtain ⟨g, e, hg, _, hc⟩ := own_cell h3 (by omega)
  have at_ := fun r (hr : r < 4) => (flat_at (f := tcell) (z := 4) (fun _ => rfl) (l.zip ss) k r (nilT, sl0) (by rw [List.length_zip]; omega) hr).trans (by rw [zip_at h2 hkl])
  obtain ⟨w1, w2, w3⟩ := hw _ (getD_mem' nilT hkl)
  refine ⟨g, 0, e, hg, ?_, w1⟩
  rw [Nat.zero_add]
  exact ⟨hc _ _ ((at_ 0 (by omega)).trans rfl), hc _ _ ((at_ 1 (by omega)).trans rfl), hc _ _ ((at_ 2 (by omega)).trans rfl), _, _, _, hc _ _ ((at_ 3 (by omega)).trans rfl), (h4 k hkl).m w2 w3⟩
theorem RcO.m {B : Nat} {w : World} {r : Rc} {h : Hd} (k : RcO B w r h) (hw : RcW r) : RcM w.heap.size w r h := by
  obtain ⟨a, b, ⟨ss, c⟩, d⟩ := k
  exact ⟨hw.kind, hw.tx, hw.prev, hw.next, hw.key, hw.old, a.m hw.g.1 hw.g.2, b.m hw.p.1 hw.p.2, c.m hw.t.1 hw.t.2, d.m hw.d.1 hw.d.2⟩
theorem listN_all {α : Type} {f : RS → α × RS} {P : α → Prop} (hf : ∀ s, Few s → P (f s).1) (hk : ∀ s, Few s → Few (f s).2) : ∀ (n : Nat) {s : RS}, Few s → ∀ x ∈ (listN f n s).1, P x
  | 0, s, _, x, hx => by simp [listN] at hx
  | n + 1, s, h, x, hx => by
    unfold listN at hx
    rcases List.mem_append.1 hx with hx | hx
    · exact listN_all hf hk n h x hx
    · rw [List.mem_singleton.1 hx]
      exact hf _ (few_listN hk n h)
theorem listR_len {α : Type} (f : RS → α × RS) (m : Nat) (s : RS) : (listR f m s).1.length ≤ m := by
  unfold listR
  rw [listN_length]
  omega
theorem num_rng (s : RS) : rng (numR s).1 := by have := numR_in s; unfold rng; omega
theorem long_rng (s : RS) : rng (longR s).1 := by have := longR_in s; unfold rng; omega
theorem few_s1 {s : RS} (h : Few s) : Few (s1 s) := few_num h
theorem few_s2 {s : RS} (h : Few s) : Few (s2 s) := few_num (few_s1 h)
theorem few_s3 {s : RS} (h : Few s) : Few (s3 s) := few_long (few_s2 h)
theorem few_s4 {s : RS} (h : Few s) : Few (s4 s) := few_long (few_s3 h)
theorem few_s5 {s : RS} (h : Few s) : Few (s5 s) := few_text (few_s4 h)
theorem few_s6 {s : RS} (h : Few s) : Few (s6 s) := few_flag (few_s5 h)
theorem few_c1 {s : RS} (h : Few s) : Few (textR s).2 := few_text h
theorem few_c2 {s : RS} (h : Few s) : Few (clR2 s) := few_text (few_text h)
theorem few_c3 {s : RS} (h : Few s) : Few (numR (clR2 s)).2 := few_num (few_c2 h)
theorem few_s7 {s : RS} (h : Few s) : Few (s7 s) := few_num (few_c3 (few_s6 h))
theorem few_s8 {s : RS} (h : Few s) : Few (s8 s) := few_pages (few_s7 h)
theorem few_s9 {s : RS} (h : Few s) : Few (s9 s) := few_list (fun _ h => few_pt h) 40 (few_s8 h)
theorem few_s10 {s : RS} (h : Few s) : Few (s10 s) := few_list (fun _ h => few_tx h) 8 (few_s9 h)
theorem text_max {s : RS} (h : Few s) : (textR s).1.size ≤ maxLen := Nat.le_trans (textR_in h) (by unfold maxLen; omega)
theorem pages_w' {s : RS} (h : Few s) : (pagesR s).1.length ≤ maxLen ∧ ∀ x ∈ (pagesR s).1, rng x :=
  ⟨Nat.le_trans (listR_len _ _ _) (by unfold maxLen; omega), listN_all (fun s _ => num_rng s) (fun s h => few_num h) _ (few_num h)⟩
set_option maxHeartbeats 1000000 in
theorem rec_w {s : RS} (h : Few s) : RcW (recR s).1 where
  kind := num_rng _
  tx := num_rng _
  prev := long_rng _
  next := long_rng _
  key := text_max (few_s4 h)
  old := ⟨num_rng _, num_rng _, text_max (few_s6 h), text_max (few_text (few_s6 h))⟩
  g := pages_w' (few_s7 h)
  p := ⟨Nat.le_trans (listR_len _ _ _) (by unfold maxLen; omega), listN_all (fun s h => ⟨num_rng _, num_rng _, text_max (few_num (few_num h))⟩) (fun s h => few_pt h) _ (few_num (few_s8 h))⟩
  t := ⟨Nat.le_trans (listR_len _ _ _) (by unfold maxLen; omega), listN_all (fun s h => ⟨⟨num_rng _, long_rng _⟩, pages_w' (few_flag (few_long (few_num h)))⟩) (fun s h => few_tx h) _ (few_num (few_s9 h))⟩
  d := ⟨Nat.le_trans (listR_len _ _ _) (by unfold maxLen; omega), listN_all (fun s h => ⟨num_rng _, long_rng _⟩) (fun s h => few_dy h) _ (few_num (few_s10 h))⟩
set_option maxHeartbeats 8000000 in
theorem record_r (C q : Nat) (s : RS) (w : World) (hs : Few s) (hC : C ≤ w.heap.size) (hr : RdS w q s) : Calls Tryz.prog 89 #[.agg #[ptr q]] w fun e w' => ∃ h, e = .returned (rcv (recR s).1 h) ∧ RcO w.heap.size w' (recR s).1 h ∧ ReadS C q w (recR s).2 w' := by
  have N1 := Lib.hid (fun u (hu : RdS u q (s)) (hc : C ≤ u.heap.size) => rnum_any C q (s) u hs hc hu)
  have N2 := Lib.hid (fun u (hu : RdS u q (s1 s)) (hc : C ≤ u.heap.size) => rnum_any C q (s1 s) u (few_s1 hs) hc hu)
  have N3 := Lib.hid (fun u (hu : RdS u q (s2 s)) (hc : C ≤ u.heap.size) => rlong_any C q (s2 s) u (few_s2 hs) hc hu)
  have N4 := Lib.hid (fun u (hu : RdS u q (s3 s)) (hc : C ≤ u.heap.size) => rlong_any C q (s3 s) u (few_s3 hs) hc hu)
  have N5 := Lib.hid (fun u (hu : RdS u q (s4 s)) (hc : C ≤ u.heap.size) => text_r C q (s4 s) u (few_s4 hs) hc hu)
  have N6 := Lib.hid (fun u (hu : RdS u q (s5 s)) (hc : C ≤ u.heap.size) => flag_r C q (s5 s) u (few_s5 hs) hc hu)
  have N7 := Lib.hid (fun u (hu : RdS u q (s6 s)) (hc : C ≤ u.heap.size) => text_r C q (s6 s) u (few_s6 hs) hc hu)
  have N8 := Lib.hid (fun u (hu : RdS u q ((textR (s6 s)).2)) (hc : C ≤ u.heap.size) => text_r C q ((textR (s6 s)).2) u (few_c1 (few_s6 hs)) hc hu)
  have N9 := Lib.hid (fun u (hu : RdS u q (clR2 (s6 s))) (hc : C ≤ u.heap.size) => rnum_any C q (clR2 (s6 s)) u (few_c2 (few_s6 hs)) hc hu)
  have N10 := Lib.hid (fun u (hu : RdS u q ((numR (clR2 (s6 s))).2)) (hc : C ≤ u.heap.size) => rnum_any C q ((numR (clR2 (s6 s))).2) u (few_c3 (few_s6 hs)) hc hu)
  have N11 := Lib.hid (fun u (hu : RdS u q (s7 s)) (hc : C ≤ u.heap.size) => pages_r C q (s7 s) u (few_s7 hs) hc hu)
  have N12 := Lib.hid (fun u (hu : RdS u q (s8 s)) (hc : C ≤ u.heap.size) => listP_r C q 40 40 rfl (by omega) (s8 s) u (few_s8 hs) hc hu)
  have N13 := Lib.hid (fun u (hu : RdS u q (s9 s)) (hc : C ≤ u.heap.size) => listT_r C q 8 8 rfl (by omega) (s9 s) u (few_s9 hs) hc hu)
  have N14 := Lib.hid (fun u (hu : RdS u q (s10 s)) (hc : C ≤ u.heap.size) => listD_r C q 64 64 rfl (by omega) (s10 s) u (few_s10 hs) hc hu)
  obtain ⟨v1, ev1⟩ : ∃ v, v = (numR s).1 := ⟨_, rfl⟩
  obtain ⟨v2, ev2⟩ : ∃ v, v = (numR (s1 s)).1 := ⟨_, rfl⟩
  obtain ⟨v3, ev3⟩ : ∃ v, v = (longR (s2 s)).1 := ⟨_, rfl⟩
  obtain ⟨v4, ev4⟩ : ∃ v, v = (longR (s3 s)).1 := ⟨_, rfl⟩
  obtain ⟨v5, ev5⟩ : ∃ v, v = (textR (s4 s)).1 := ⟨_, rfl⟩
  obtain ⟨v6, ev6⟩ : ∃ v, v = (flagR (s5 s)).1 := ⟨_, rfl⟩
  obtain ⟨v7, ev7⟩ : ∃ v, v = (textR (s6 s)).1 := ⟨_, rfl⟩
  obtain ⟨v8, ev8⟩ : ∃ v, v = (textR (textR (s6 s)).2).1 := ⟨_, rfl⟩
  obtain ⟨v9, ev9⟩ : ∃ v, v = (numR (clR2 (s6 s))).1 := ⟨_, rfl⟩
  obtain ⟨v10, ev10⟩ : ∃ v, v = (numR (numR (clR2 (s6 s))).2).1 := ⟨_, rfl⟩
  obtain ⟨v11, ev11⟩ : ∃ v, v = (pagesR (s7 s)).1 := ⟨_, rfl⟩
  obtain ⟨v12, ev12⟩ : ∃ v, v = (listR ptR 40 (s8 s)).1 := ⟨_, rfl⟩
  obtain ⟨v13, ev13⟩ : ∃ v, v = (listR txR 8 (s9 s)).1 := ⟨_, rfl⟩
  obtain ⟨v14, ev14⟩ : ∃ v, v = (listR dyR 64 (s10 s)).1 := ⟨_, rfl⟩
  obtain ⟨t1, et1⟩ : ∃ t, t = s1 s := ⟨_, rfl⟩
  obtain ⟨t2, et2⟩ : ∃ t, t = s2 s := ⟨_, rfl⟩
  obtain ⟨t3, et3⟩ : ∃ t, t = s3 s := ⟨_, rfl⟩
  obtain ⟨t4, et4⟩ : ∃ t, t = s4 s := ⟨_, rfl⟩
  obtain ⟨t5, et5⟩ : ∃ t, t = s5 s := ⟨_, rfl⟩
  obtain ⟨t6, et6⟩ : ∃ t, t = s6 s := ⟨_, rfl⟩
  obtain ⟨t7, et7⟩ : ∃ t, t = (textR (s6 s)).2 := ⟨_, rfl⟩
  obtain ⟨t8, et8⟩ : ∃ t, t = clR2 (s6 s) := ⟨_, rfl⟩
  obtain ⟨t9, et9⟩ : ∃ t, t = (numR (clR2 (s6 s))).2 := ⟨_, rfl⟩
  obtain ⟨t10, et10⟩ : ∃ t, t = s7 s := ⟨_, rfl⟩
  obtain ⟨t11, et11⟩ : ∃ t, t = s8 s := ⟨_, rfl⟩
  obtain ⟨t12, et12⟩ : ∃ t, t = s9 s := ⟨_, rfl⟩
  obtain ⟨t13, et13⟩ : ∃ t, t = s10 s := ⟨_, rfl⟩
  obtain ⟨t14, et14⟩ : ∃ t, t = (recR s).2 := ⟨_, rfl⟩
  rw [show (numR s).2 = t1 from by rw [et1]; rfl, ← ev1] at N1
  rw [show (numR (s1 s)).2 = t2 from by rw [et2]; rfl, ← ev2, ← et1] at N2
  rw [show (longR (s2 s)).2 = t3 from by rw [et3]; rfl, ← ev3, ← et2] at N3
  rw [show (longR (s3 s)).2 = t4 from by rw [et4]; rfl, ← ev4, ← et3] at N4
  rw [show (textR (s4 s)).2 = t5 from by rw [et5]; rfl, ← ev5, ← et4] at N5
  rw [show (flagR (s5 s)).2 = t6 from by rw [et6]; rfl, ← ev6, ← et5] at N6
  rw [show (textR (s6 s)).2 = t7 from by rw [et7], ← ev7, ← et6] at N7
  rw [show (textR (textR (s6 s)).2).2 = t8 from by rw [et8]; rfl, ← ev8, ← et7] at N8
  rw [show (numR (clR2 (s6 s))).2 = t9 from by rw [et9], ← ev9, ← et8] at N9
  rw [show (numR (numR (clR2 (s6 s))).2).2 = t10 from by rw [et10]; rfl, ← ev10, ← et9] at N10
  rw [show (pagesR (s7 s)).2 = t11 from by rw [et11]; rfl, ← ev11, ← et10] at N11
  rw [show (listR ptR 40 (s8 s)).2 = t12 from by rw [et12]; rfl, ← ev12, ← et11] at N12
  rw [show (listR txR 8 (s9 s)).2 = t13 from by rw [et13]; rfl, ← ev13, ← et12] at N13
  rw [show (listR dyR 64 (s10 s)).2 = t14 from by rw [et14]; rfl, ← ev14, ← et13] at N14
  have ER := Lib.hid (show (recR s).1 = ⟨v1, v2, v3, v4, v5, v6, ⟨v7, v8, v9, v10⟩, v11, v12, v13, v14⟩ from by rw [ev1, ev2, ev3, ev4, ev5, ev6, ev7, ev8, ev9, ev10, ev11, ev12, ev13, ev14]; rfl)
  rw [ER.out, ← et14]
  clear ev1 ev2 ev3 ev4 ev5 ev6 ev7 ev8 ev9 ev10 ev11 ev12 ev13 ev14 et1 et2 et3 et4 et5 et6 et7 et8 et9 et10 et11 et12 et13 et14
  have H0 := Lib.hid (ReadS.start (C := C) hr |>.alloc hC (.cells #[.pointer (some ⟨q, 0, none⟩)] 154) |>.alloc hC (.cells #[.int .i64 0, .int .i64 0, .int .i64 0, .int .i64 0, .string ⟨#[]⟩, .bool false, .string ⟨#[]⟩, .string ⟨#[]⟩, .int .i64 0, .int .i64 0, .slice none 0 0, .slice none 0 0, .slice none 0 0, .slice none 0 0] 43))
  have hb1 := (Bx.new w #[.pointer (some ⟨q, 0, none⟩)] 154).alloc (.cells #[.int .i64 0, .int .i64 0, .int .i64 0, .int .i64 0, .string ⟨#[]⟩, .bool false, .string ⟨#[]⟩, .string ⟨#[]⟩, .int .i64 0, .int .i64 0, .slice none 0 0, .slice none 0 0, .slice none 0 0, .slice none 0 0] 43)
  have hz0 := Bx.new (w.alloc (.cells #[.pointer (some ⟨q, 0, none⟩)] 154)) #[.int .i64 0, .int .i64 0, .int .i64 0, .int .i64 0, .string ⟨#[]⟩, .bool false, .string ⟨#[]⟩, .string ⟨#[]⟩, .int .i64 0, .int .i64 0, .slice none 0 0, .slice none 0 0, .slice none 0 0, .slice none 0 0] 43
  have hqw := hr.lt
  have HC := Lib.hid hC
  have hB2 : w.heap.size ≤ (w.alloc (.cells #[.pointer (some ⟨q, 0, none⟩)] 154)).heap.size := by simp
  have hne1 : w.heap.size ≠ q := by omega
  have hne2 : (w.alloc (.cells #[.pointer (some ⟨q, 0, none⟩)] 154)).heap.size ≠ q := by omega
  have hne12 : w.heap.size ≠ (w.alloc (.cells #[.pointer (some ⟨q, 0, none⟩)] 154)).heap.size := by simp
  clear hC hr hs
  go_enter Tryz.func89, Tryz.ntmps89
  go_upto_region 1 with fail
  rw [← World.size_alloc w (.cells #[.pointer (some ⟨q, 0, none⟩)] 154)]
  generalize hW : (w.alloc (.cells #[.pointer (some ⟨q, 0, none⟩)] 154)).alloc (.cells #[.int .i64 0, .int .i64 0, .int .i64 0, .int .i64 0, .string ⟨#[]⟩, .bool false, .string ⟨#[]⟩, .string ⟨#[]⟩, .int .i64 0, .int .i64 0, .slice none 0 0, .slice none 0 0, .slice none 0 0, .slice none 0 0] 43) = W at *
  obtain ⟨B2, hB⟩ : ∃ B, B = (w.alloc (.cells #[.pointer (some ⟨q, 0, none⟩)] 154)).heap.size := ⟨_, rfl⟩
  rw [← hB] at hz0 hB2 hne2 hne12 ⊢
  obtain ⟨B1, hB1⟩ : ∃ B, B = w.heap.size := ⟨_, rfl⟩
  rw [← hB1] at hb1 hne1 hne12 ⊢
  clear hB hB1 hW
  have HR0 := Lib.hid H0.out.drew
  have X0 := fun r (h : Bx r B1 #[.pointer (some ⟨q, 0, none⟩)] 154) => (h.cell 0).trans (show (#[.pointer (some ⟨q, 0, none⟩)] : Array Value)[0]? = some (.pointer (some ⟨q, 0, none⟩)) from rfl)
  clear H0
  refine wp_region_noPanic ?_
  refine wp_region_held_drew (S := fun w' => Bx w' B1 #[.pointer (some ⟨q, 0, none⟩)] 154) (by kernel_rfl) ?_ (fun hHeld => ?_)
  · exact hb1.drew
  refine wpAnyH_take (i := 0) (oi := { dst := some 3, op := Op.fieldAddr 154 (Operand.tmp 1) 0, type := 0, pos := "record.go:161", after := #[], guard := none }) (v := .pointer (some ⟨B1, 0, none⟩)) rfl (by kernel_rfl) (by kernel_rfl) (by kernel_rfl) (fun _ _ _ h => h) (Or.inl ⟨by rfl, fun w' hSw => by ((try dsimp only at hSw); have := X0 _ hSw; go_simp)⟩) (by assumption) ?_
  (try simp only [Act.put, List.setIfInBounds_toArray, List.set_cons_zero, List.set_cons_succ])
  refine wpAnyH_take (i := 1) (oi := { dst := some 4, op := Op.load 151 (Operand.tmp 3), type := 151, pos := "record.go:161", after := #[{ on := 0, ground := Ground.data }], guard := none }) (v := .pointer (some ⟨q, 0, none⟩)) rfl (by kernel_rfl) (by kernel_rfl) (by kernel_rfl) (fun _ _ _ h => h) (Or.inl ⟨by rfl, fun w' hSw => by ((try dsimp only at hSw); have := X0 _ hSw; go_simp)⟩) (by assumption) ?_
  (try simp only [Act.put, List.setIfInBounds_toArray, List.set_cons_zero, List.set_cons_succ])
  refine wpAnyH_take (i := 3) (oi := { dst := some 6, op := Op.fieldAddr 154 (Operand.tmp 1) 0, type := 0, pos := "record.go:161", after := #[], guard := none }) (v := .pointer (some ⟨B1, 0, none⟩)) rfl (by kernel_rfl) (by kernel_rfl) (by kernel_rfl) (fun _ _ _ h => h) (Or.inl ⟨by rfl, fun w' hSw => by ((try dsimp only at hSw); have := X0 _ hSw; go_simp)⟩) (by assumption) ?_
  (try simp only [Act.put, List.setIfInBounds_toArray, List.set_cons_zero, List.set_cons_succ])
  refine wpAnyH_take (i := 4) (oi := { dst := some 7, op := Op.load 151 (Operand.tmp 6), type := 151, pos := "record.go:161", after := #[{ on := 3, ground := Ground.data }], guard := none }) (v := .pointer (some ⟨q, 0, none⟩)) rfl (by kernel_rfl) (by kernel_rfl) (by kernel_rfl) (fun _ _ _ h => h) (Or.inl ⟨by rfl, fun w' hSw => by ((try dsimp only at hSw); have := X0 _ hSw; go_simp)⟩) (by assumption) ?_
  (try simp only [Act.put, List.setIfInBounds_toArray, List.set_cons_zero, List.set_cons_succ])
  refine wpAnyH_take (i := 6) (oi := { dst := some 9, op := Op.fieldAddr 154 (Operand.tmp 1) 0, type := 0, pos := "record.go:161", after := #[], guard := none }) (v := .pointer (some ⟨B1, 0, none⟩)) rfl (by kernel_rfl) (by kernel_rfl) (by kernel_rfl) (fun _ _ _ h => h) (Or.inl ⟨by rfl, fun w' hSw => by ((try dsimp only at hSw); have := X0 _ hSw; go_simp)⟩) (by assumption) ?_
  (try simp only [Act.put, List.setIfInBounds_toArray, List.set_cons_zero, List.set_cons_succ])
  refine wpAnyH_take (i := 7) (oi := { dst := some 10, op := Op.load 151 (Operand.tmp 9), type := 151, pos := "record.go:161", after := #[{ on := 6, ground := Ground.data }], guard := none }) (v := .pointer (some ⟨q, 0, none⟩)) rfl (by kernel_rfl) (by kernel_rfl) (by kernel_rfl) (fun _ _ _ h => h) (Or.inl ⟨by rfl, fun w' hSw => by ((try dsimp only at hSw); have := X0 _ hSw; go_simp)⟩) (by assumption) ?_
  (try simp only [Act.put, List.setIfInBounds_toArray, List.set_cons_zero, List.set_cons_succ])
  refine wpAnyH_take (i := 9) (oi := { dst := some 12, op := Op.fieldAddr 154 (Operand.tmp 1) 0, type := 0, pos := "record.go:161", after := #[], guard := none }) (v := .pointer (some ⟨B1, 0, none⟩)) rfl (by kernel_rfl) (by kernel_rfl) (by kernel_rfl) (fun _ _ _ h => h) (Or.inl ⟨by rfl, fun w' hSw => by ((try dsimp only at hSw); have := X0 _ hSw; go_simp)⟩) (by assumption) ?_
  (try simp only [Act.put, List.setIfInBounds_toArray, List.set_cons_zero, List.set_cons_succ])
  refine wpAnyH_take (i := 10) (oi := { dst := some 13, op := Op.load 151 (Operand.tmp 12), type := 151, pos := "record.go:161", after := #[{ on := 9, ground := Ground.data }], guard := none }) (v := .pointer (some ⟨q, 0, none⟩)) rfl (by kernel_rfl) (by kernel_rfl) (by kernel_rfl) (fun _ _ _ h => h) (Or.inl ⟨by rfl, fun w' hSw => by ((try dsimp only at hSw); have := X0 _ hSw; go_simp)⟩) (by assumption) ?_
  (try simp only [Act.put, List.setIfInBounds_toArray, List.set_cons_zero, List.set_cons_succ])
  refine wpAnyH_take (i := 12) (oi := { dst := some 15, op := Op.load 154 (Operand.tmp 1), type := 154, pos := "record.go:161", after := #[], guard := none }) (v := .agg #[.pointer (some ⟨q, 0, none⟩)]) rfl (by kernel_rfl) (by kernel_rfl) (by kernel_rfl) (fun _ _ _ h => h) (Or.inl ⟨by rfl, fun w' hSw => by ((try dsimp only at hSw); have := X0 _ hSw; go_simp)⟩) (by assumption) ?_
  (try simp only [Act.put, List.setIfInBounds_toArray, List.set_cons_zero, List.set_cons_succ])
  refine wpAnyH_take (i := 14) (oi := { dst := some 17, op := Op.load 154 (Operand.tmp 1), type := 154, pos := "record.go:161", after := #[], guard := none }) (v := .agg #[.pointer (some ⟨q, 0, none⟩)]) rfl (by kernel_rfl) (by kernel_rfl) (by kernel_rfl) (fun _ _ _ h => h) (Or.inl ⟨by rfl, fun w' hSw => by ((try dsimp only at hSw); have := X0 _ hSw; go_simp)⟩) (by assumption) ?_
  (try simp only [Act.put, List.setIfInBounds_toArray, List.set_cons_zero, List.set_cons_succ])
  refine wpAnyH_take (i := 16) (oi := { dst := some 19, op := Op.load 154 (Operand.tmp 1), type := 154, pos := "record.go:161", after := #[], guard := none }) (v := .agg #[.pointer (some ⟨q, 0, none⟩)]) rfl (by kernel_rfl) (by kernel_rfl) (by kernel_rfl) (fun _ _ _ h => h) (Or.inl ⟨by rfl, fun w' hSw => by ((try dsimp only at hSw); have := X0 _ hSw; go_simp)⟩) (by assumption) ?_
  (try simp only [Act.put, List.setIfInBounds_toArray, List.set_cons_zero, List.set_cons_succ])
  refine wpAnyH_take (i := 18) (oi := { dst := some 21, op := Op.load 154 (Operand.tmp 1), type := 154, pos := "record.go:161", after := #[], guard := none }) (v := .agg #[.pointer (some ⟨q, 0, none⟩)]) rfl (by kernel_rfl) (by kernel_rfl) (by kernel_rfl) (fun _ _ _ h => h) (Or.inl ⟨by rfl, fun w' hSw => by ((try dsimp only at hSw); have := X0 _ hSw; go_simp)⟩) (by assumption) ?_
  (try simp only [Act.put, List.setIfInBounds_toArray, List.set_cons_zero, List.set_cons_succ])
  refine wpAnyH_take (i := 20) (oi := { dst := some 23, op := Op.fieldAddr 154 (Operand.tmp 1) 0, type := 0, pos := "record.go:161", after := #[], guard := none }) (v := .pointer (some ⟨B1, 0, none⟩)) rfl (by kernel_rfl) (by kernel_rfl) (by kernel_rfl) (fun _ _ _ h => h) (Or.inl ⟨by rfl, fun w' hSw => by ((try dsimp only at hSw); have := X0 _ hSw; go_simp)⟩) (by assumption) ?_
  (try simp only [Act.put, List.setIfInBounds_toArray, List.set_cons_zero, List.set_cons_succ])
  refine wpAnyH_take (i := 21) (oi := { dst := some 24, op := Op.load 151 (Operand.tmp 23), type := 151, pos := "record.go:161", after := #[{ on := 20, ground := Ground.data }], guard := none }) (v := .pointer (some ⟨q, 0, none⟩)) rfl (by kernel_rfl) (by kernel_rfl) (by kernel_rfl) (fun _ _ _ h => h) (Or.inl ⟨by rfl, fun w' hSw => by ((try dsimp only at hSw); have := X0 _ hSw; go_simp)⟩) (by assumption) ?_
  (try simp only [Act.put, List.setIfInBounds_toArray, List.set_cons_zero, List.set_cons_succ])
  refine wpAnyH_take (i := 23) (oi := { dst := some 26, op := Op.fieldAddr 154 (Operand.tmp 1) 0, type := 0, pos := "record.go:161", after := #[], guard := none }) (v := .pointer (some ⟨B1, 0, none⟩)) rfl (by kernel_rfl) (by kernel_rfl) (by kernel_rfl) (fun _ _ _ h => h) (Or.inl ⟨by rfl, fun w' hSw => by ((try dsimp only at hSw); have := X0 _ hSw; go_simp)⟩) (by assumption) ?_
  (try simp only [Act.put, List.setIfInBounds_toArray, List.set_cons_zero, List.set_cons_succ])
  refine wpAnyH_take (i := 24) (oi := { dst := some 27, op := Op.load 151 (Operand.tmp 26), type := 151, pos := "record.go:161", after := #[{ on := 23, ground := Ground.data }], guard := none }) (v := .pointer (some ⟨q, 0, none⟩)) rfl (by kernel_rfl) (by kernel_rfl) (by kernel_rfl) (fun _ _ _ h => h) (Or.inl ⟨by rfl, fun w' hSw => by ((try dsimp only at hSw); have := X0 _ hSw; go_simp)⟩) (by assumption) ?_
  (try simp only [Act.put, List.setIfInBounds_toArray, List.set_cons_zero, List.set_cons_succ])
  refine wpAnyH_take (i := 27) (oi := { dst := some 30, op := Op.load 154 (Operand.tmp 1), type := 154, pos := "record.go:161", after := #[], guard := none }) (v := .agg #[.pointer (some ⟨q, 0, none⟩)]) rfl (by kernel_rfl) (by kernel_rfl) (by kernel_rfl) (fun _ _ _ h => h) (Or.inl ⟨by rfl, fun w' hSw => by ((try dsimp only at hSw); have := X0 _ hSw; go_simp)⟩) (by assumption) ?_
  (try simp only [Act.put, List.setIfInBounds_toArray, List.set_cons_zero, List.set_cons_succ])
  refine wpAnyH_take (i := 29) (oi := { dst := some 32, op := Op.load 154 (Operand.tmp 1), type := 154, pos := "record.go:161", after := #[], guard := none }) (v := .agg #[.pointer (some ⟨q, 0, none⟩)]) rfl (by kernel_rfl) (by kernel_rfl) (by kernel_rfl) (fun _ _ _ h => h) (Or.inl ⟨by rfl, fun w' hSw => by ((try dsimp only at hSw); have := X0 _ hSw; go_simp)⟩) (by assumption) ?_
  (try simp only [Act.put, List.setIfInBounds_toArray, List.set_cons_zero, List.set_cons_succ])
  refine wpAnyH_take (i := 30) (oi := { dst := some 33, op := Op.load 154 (Operand.tmp 1), type := 154, pos := "record.go:161", after := #[], guard := none }) (v := .agg #[.pointer (some ⟨q, 0, none⟩)]) rfl (by kernel_rfl) (by kernel_rfl) (by kernel_rfl) (fun _ _ _ h => h) (Or.inl ⟨by rfl, fun w' hSw => by ((try dsimp only at hSw); have := X0 _ hSw; go_simp)⟩) (by assumption) ?_
  (try simp only [Act.put, List.setIfInBounds_toArray, List.set_cons_zero, List.set_cons_succ])
  refine wpAnyH_take (i := 31) (oi := { dst := some 34, op := Op.makeFunc (Go.Fn.func 128) #[Operand.tmp 33] #[], type := 190, pos := "record.go:161", after := #[{ on := 30, ground := Ground.data }], guard := none }) (v := .func (.func 128) #[.agg #[.pointer (some ⟨q, 0, none⟩)]] #[]) rfl (by kernel_rfl) (by kernel_rfl) (by kernel_rfl) (fun _ _ _ h => h) (Or.inl ⟨by rfl, fun w' hSw => by ((try dsimp only at hSw); have := X0 _ hSw; go_simp)⟩) (by assumption) ?_
  (try simp only [Act.put, List.setIfInBounds_toArray, List.set_cons_zero, List.set_cons_succ])
  refine wpAnyH_take (i := 33) (oi := { dst := some 36, op := Op.load 154 (Operand.tmp 1), type := 154, pos := "record.go:161", after := #[], guard := none }) (v := .agg #[.pointer (some ⟨q, 0, none⟩)]) rfl (by kernel_rfl) (by kernel_rfl) (by kernel_rfl) (fun _ _ _ h => h) (Or.inl ⟨by rfl, fun w' hSw => by ((try dsimp only at hSw); have := X0 _ hSw; go_simp)⟩) (by assumption) ?_
  (try simp only [Act.put, List.setIfInBounds_toArray, List.set_cons_zero, List.set_cons_succ])
  refine wpAnyH_take (i := 34) (oi := { dst := some 37, op := Op.load 154 (Operand.tmp 1), type := 154, pos := "record.go:161", after := #[], guard := none }) (v := .agg #[.pointer (some ⟨q, 0, none⟩)]) rfl (by kernel_rfl) (by kernel_rfl) (by kernel_rfl) (fun _ _ _ h => h) (Or.inl ⟨by rfl, fun w' hSw => by ((try dsimp only at hSw); have := X0 _ hSw; go_simp)⟩) (by assumption) ?_
  (try simp only [Act.put, List.setIfInBounds_toArray, List.set_cons_zero, List.set_cons_succ])
  refine wpAnyH_take (i := 35) (oi := { dst := some 38, op := Op.makeFunc (Go.Fn.func 130) #[Operand.tmp 37] #[], type := 192, pos := "record.go:161", after := #[{ on := 34, ground := Ground.data }], guard := none }) (v := .func (.func 130) #[.agg #[.pointer (some ⟨q, 0, none⟩)]] #[]) rfl (by kernel_rfl) (by kernel_rfl) (by kernel_rfl) (fun _ _ _ h => h) (Or.inl ⟨by rfl, fun w' hSw => by ((try dsimp only at hSw); have := X0 _ hSw; go_simp)⟩) (by assumption) ?_
  (try simp only [Act.put, List.setIfInBounds_toArray, List.set_cons_zero, List.set_cons_succ])
  refine wpAnyH_take (i := 37) (oi := { dst := some 40, op := Op.load 154 (Operand.tmp 1), type := 154, pos := "record.go:161", after := #[], guard := none }) (v := .agg #[.pointer (some ⟨q, 0, none⟩)]) rfl (by kernel_rfl) (by kernel_rfl) (by kernel_rfl) (fun _ _ _ h => h) (Or.inl ⟨by rfl, fun w' hSw => by ((try dsimp only at hSw); have := X0 _ hSw; go_simp)⟩) (by assumption) ?_
  (try simp only [Act.put, List.setIfInBounds_toArray, List.set_cons_zero, List.set_cons_succ])
  refine wpAnyH_take (i := 38) (oi := { dst := some 41, op := Op.load 154 (Operand.tmp 1), type := 154, pos := "record.go:161", after := #[], guard := none }) (v := .agg #[.pointer (some ⟨q, 0, none⟩)]) rfl (by kernel_rfl) (by kernel_rfl) (by kernel_rfl) (fun _ _ _ h => h) (Or.inl ⟨by rfl, fun w' hSw => by ((try dsimp only at hSw); have := X0 _ hSw; go_simp)⟩) (by assumption) ?_
  (try simp only [Act.put, List.setIfInBounds_toArray, List.set_cons_zero, List.set_cons_succ])
  refine wpAnyH_take (i := 39) (oi := { dst := some 42, op := Op.makeFunc (Go.Fn.func 132) #[Operand.tmp 41] #[], type := 194, pos := "record.go:161", after := #[{ on := 38, ground := Ground.data }], guard := none }) (v := .func (.func 132) #[.agg #[.pointer (some ⟨q, 0, none⟩)]] #[]) rfl (by kernel_rfl) (by kernel_rfl) (by kernel_rfl) (fun _ _ _ h => h) (Or.inl ⟨by rfl, fun w' hSw => by ((try dsimp only at hSw); have := X0 _ hSw; go_simp)⟩) (by assumption) ?_
  (try simp only [Act.put, List.setIfInBounds_toArray, List.set_cons_zero, List.set_cons_succ])
  refine wpAnyH_ready (rs := [2]) (by kernel_rfl) (by simp) ?_
  refine AllReadyH.cons (o := { dst := some 5, op := Op.call { callee := Callee.value (Operand.func 122), args := #[Operand.tmp 4], argTypes := #[151] }, type := 3, pos := "record.go:162", after := #[{ on := 1, ground := Ground.data }], guard := none }) rfl (fun K hK => ?_) ?_
  · go_simp; go_at_call 122; refine (N1.out _ HR0.out.1 (Nat.le_trans HC.out HR0.out.size)).mono ?_; rintro e u1 ⟨rfl, hr⟩; have hb2 := hb1.drew.only hr.2 hne1 (by decide); have hz1 := hz0.drew.only hr.2 hne2 (by decide); have HR1 := Lib.hid (HR0.out.then hr); clear hr
    refine hK.out _ _ ?_ (fun hHeld => ?_)
    · exact hb2
    clear hK K
    (try simp only [Act.put, List.setIfInBounds_toArray, List.set_cons_zero, List.set_cons_succ])
    refine wpAnyH_ready (rs := [5]) (by kernel_rfl) (by simp) ?_
    refine AllReadyH.cons (o := { dst := some 8, op := Op.call { callee := Callee.value (Operand.func 122), args := #[Operand.tmp 7], argTypes := #[151] }, type := 3, pos := "record.go:163", after := #[{ on := 4, ground := Ground.data }, { on := 2, ground := Ground.chain }], guard := none }) rfl (fun K hK => ?_) ?_
    · go_simp; go_at_call 122; refine (N2.out _ HR1.out.1 (Nat.le_trans HC.out HR1.out.size)).mono ?_; rintro e u2 ⟨rfl, hr⟩; have hb3 := hb2.only hr.2 hne1 (by decide); have hz2 := hz1.only hr.2 hne2 (by decide); have HR2 := Lib.hid (HR1.out.then hr); clear hr
      refine hK.out _ _ ?_ (fun hHeld => ?_)
      · exact hb3
      clear hK K
      (try simp only [Act.put, List.setIfInBounds_toArray, List.set_cons_zero, List.set_cons_succ])
      refine wpAnyH_ready (rs := [8]) (by kernel_rfl) (by simp) ?_
      refine AllReadyH.cons (o := { dst := some 11, op := Op.call { callee := Callee.value (Operand.func 123), args := #[Operand.tmp 10], argTypes := #[151] }, type := 3, pos := "record.go:164", after := #[{ on := 7, ground := Ground.data }, { on := 5, ground := Ground.chain }], guard := none }) rfl (fun K hK => ?_) ?_
      · go_simp; go_at_call 123; refine (N3.out _ HR2.out.1 (Nat.le_trans HC.out HR2.out.size)).mono ?_; rintro e u3 ⟨rfl, hr⟩; have hb4 := hb3.only hr.2 hne1 (by decide); have hz3 := hz2.only hr.2 hne2 (by decide); have HR3 := Lib.hid (HR2.out.then hr); clear hr
        refine hK.out _ _ ?_ (fun hHeld => ?_)
        · exact hb4
        clear hK K
        (try simp only [Act.put, List.setIfInBounds_toArray, List.set_cons_zero, List.set_cons_succ])
        refine wpAnyH_ready (rs := [11]) (by kernel_rfl) (by simp) ?_
        refine AllReadyH.cons (o := { dst := some 14, op := Op.call { callee := Callee.value (Operand.func 123), args := #[Operand.tmp 13], argTypes := #[151] }, type := 3, pos := "record.go:165", after := #[{ on := 10, ground := Ground.data }, { on := 8, ground := Ground.chain }], guard := none }) rfl (fun K hK => ?_) ?_
        · go_simp; go_at_call 123; refine (N4.out _ HR3.out.1 (Nat.le_trans HC.out HR3.out.size)).mono ?_; rintro e u4 ⟨rfl, hr⟩; have hb5 := hb4.only hr.2 hne1 (by decide); have hz4 := hz3.only hr.2 hne2 (by decide); have HR4 := Lib.hid (HR3.out.then hr); clear hr
          refine hK.out _ _ ?_ (fun hHeld => ?_)
          · exact hb5
          clear hK K
          (try simp only [Act.put, List.setIfInBounds_toArray, List.set_cons_zero, List.set_cons_succ])
          refine wpAnyH_ready (rs := [13]) (by kernel_rfl) (by simp) ?_
          refine AllReadyH.cons (o := { dst := some 16, op := Op.call { callee := Callee.value (Operand.func 124), args := #[Operand.tmp 15], argTypes := #[154] }, type := 9, pos := "record.go:166", after := #[{ on := 12, ground := Ground.data }, { on := 11, ground := Ground.chain }], guard := none }) rfl (fun K hK => ?_) ?_
          · go_simp; go_at_call 124; refine (N5.out _ HR4.out.1 (Nat.le_trans HC.out HR4.out.size)).mono ?_; rintro e u5 ⟨rfl, hr⟩; have hb6 := hb5.only hr.2 hne1 (by decide); have hz5 := hz4.only hr.2 hne2 (by decide); have HR5 := Lib.hid (HR4.out.then hr); clear hr
            refine hK.out _ _ ?_ (fun hHeld => ?_)
            · exact hb6
            clear hK K
            (try simp only [Act.put, List.setIfInBounds_toArray, List.set_cons_zero, List.set_cons_succ])
            refine wpAnyH_ready (rs := [15]) (by kernel_rfl) (by simp) ?_
            refine AllReadyH.cons (o := { dst := some 18, op := Op.call { callee := Callee.value (Operand.func 125), args := #[Operand.tmp 17], argTypes := #[154] }, type := 4, pos := "record.go:167", after := #[{ on := 14, ground := Ground.data }, { on := 13, ground := Ground.chain }], guard := none }) rfl (fun K hK => ?_) ?_
            · go_simp; go_at_call 125; refine (N6.out _ HR5.out.1 (Nat.le_trans HC.out HR5.out.size)).mono ?_; rintro e u6 ⟨rfl, hr⟩; have hb7 := hb6.only hr.2 hne1 (by decide); have hz6 := hz5.only hr.2 hne2 (by decide); have HR6 := Lib.hid (HR5.out.then hr); clear hr
              refine hK.out _ _ ?_ (fun hHeld => ?_)
              · exact hb7
              clear hK K
              (try simp only [Act.put, List.setIfInBounds_toArray, List.set_cons_zero, List.set_cons_succ])
              refine wpAnyH_ready (rs := [17]) (by kernel_rfl) (by simp) ?_
              refine AllReadyH.cons (o := { dst := some 20, op := Op.call { callee := Callee.value (Operand.func 124), args := #[Operand.tmp 19], argTypes := #[154] }, type := 9, pos := "record.go:168", after := #[{ on := 16, ground := Ground.data }, { on := 15, ground := Ground.chain }], guard := none }) rfl (fun K hK => ?_) ?_
              · go_simp; go_at_call 124; refine (N7.out _ HR6.out.1 (Nat.le_trans HC.out HR6.out.size)).mono ?_; rintro e u7 ⟨rfl, hr⟩; have hb8 := hb7.only hr.2 hne1 (by decide); have hz7 := hz6.only hr.2 hne2 (by decide); have HR7 := Lib.hid (HR6.out.then hr); clear hr
                refine hK.out _ _ ?_ (fun hHeld => ?_)
                · exact hb8
                clear hK K
                (try simp only [Act.put, List.setIfInBounds_toArray, List.set_cons_zero, List.set_cons_succ])
                refine wpAnyH_ready (rs := [19]) (by kernel_rfl) (by simp) ?_
                refine AllReadyH.cons (o := { dst := some 22, op := Op.call { callee := Callee.value (Operand.func 124), args := #[Operand.tmp 21], argTypes := #[154] }, type := 9, pos := "record.go:168", after := #[{ on := 18, ground := Ground.data }, { on := 17, ground := Ground.chain }], guard := none }) rfl (fun K hK => ?_) ?_
                · go_simp; go_at_call 124; refine (N8.out _ HR7.out.1 (Nat.le_trans HC.out HR7.out.size)).mono ?_; rintro e u8 ⟨rfl, hr⟩; have hb9 := hb8.only hr.2 hne1 (by decide); have hz8 := hz7.only hr.2 hne2 (by decide); have HR8 := Lib.hid (HR7.out.then hr); clear hr
                  refine hK.out _ _ ?_ (fun hHeld => ?_)
                  · exact hb9
                  clear hK K
                  (try simp only [Act.put, List.setIfInBounds_toArray, List.set_cons_zero, List.set_cons_succ])
                  refine wpAnyH_ready (rs := [22]) (by kernel_rfl) (by simp) ?_
                  refine AllReadyH.cons (o := { dst := some 25, op := Op.call { callee := Callee.value (Operand.func 122), args := #[Operand.tmp 24], argTypes := #[151] }, type := 3, pos := "record.go:168", after := #[{ on := 21, ground := Ground.data }, { on := 19, ground := Ground.chain }], guard := none }) rfl (fun K hK => ?_) ?_
                  · go_simp; go_at_call 122; refine (N9.out _ HR8.out.1 (Nat.le_trans HC.out HR8.out.size)).mono ?_; rintro e u9 ⟨rfl, hr⟩; have hb10 := hb9.only hr.2 hne1 (by decide); have hz9 := hz8.only hr.2 hne2 (by decide); have HR9 := Lib.hid (HR8.out.then hr); clear hr
                    refine hK.out _ _ ?_ (fun hHeld => ?_)
                    · exact hb10
                    clear hK K
                    (try simp only [Act.put, List.setIfInBounds_toArray, List.set_cons_zero, List.set_cons_succ])
                    refine wpAnyH_ready (rs := [25]) (by kernel_rfl) (by simp) ?_
                    refine AllReadyH.cons (o := { dst := some 28, op := Op.call { callee := Callee.value (Operand.func 122), args := #[Operand.tmp 27], argTypes := #[151] }, type := 3, pos := "record.go:168", after := #[{ on := 24, ground := Ground.data }, { on := 22, ground := Ground.chain }], guard := none }) rfl (fun K hK => ?_) ?_
                    · go_simp; go_at_call 122; refine (N10.out _ HR9.out.1 (Nat.le_trans HC.out HR9.out.size)).mono ?_; rintro e u10 ⟨rfl, hr⟩; have hb11 := hb10.only hr.2 hne1 (by decide); have hz10 := hz9.only hr.2 hne2 (by decide); have HR10 := Lib.hid (HR9.out.then hr); clear hr
                      refine hK.out _ _ ?_ (fun hHeld => ?_)
                      · exact hb11
                      clear hK K
                      (try simp only [Act.put, List.setIfInBounds_toArray, List.set_cons_zero, List.set_cons_succ])
                      refine wpAnyH_take (i := 26) (oi := { dst := some 29, op := Op.build 37 #[(0, Operand.tmp 20), (1, Operand.tmp 22), (2, Operand.tmp 25), (3, Operand.tmp 28)], type := 37, pos := "record.go:161", after := #[{ on := 17, ground := Ground.data }, { on := 19, ground := Ground.data }, { on := 22, ground := Ground.data }, { on := 25, ground := Ground.data }], guard := none }) (v := .agg #[.string v7, .string v8, .int .i64 v9, .int .i64 v10]) rfl (by kernel_rfl) (by kernel_rfl) (by kernel_rfl) (fun _ _ _ h => h) (Or.inl ⟨by rfl, fun w' hSw => by ((try dsimp only at hSw); have := X0 _ hSw; go_simp)⟩) (by assumption) ?_
                      (try simp only [Act.put, List.setIfInBounds_toArray, List.set_cons_zero, List.set_cons_succ])
                      refine wpAnyH_ready (rs := [28]) (by kernel_rfl) (by simp) ?_
                      refine AllReadyH.cons (o := { dst := some 31, op := Op.call { callee := Callee.value (Operand.func 126), args := #[Operand.tmp 30], argTypes := #[154] }, type := 38, pos := "record.go:169", after := #[{ on := 27, ground := Ground.data }, { on := 25, ground := Ground.chain }], guard := none }) rfl (fun K hK => ?_) ?_
                      · go_simp; go_at_call 126; refine (N11.out _ HR10.out.1 (Nat.le_trans HC.out HR10.out.size)).mono ?_; rintro e u11 ⟨A11, c11, rfl, hro, hr⟩; have hb12 := hb11.only hr.2 hne1 (by decide); have hz11 := hz10.only hr.2 hne2 (by decide); have HR11 := Lib.hid (HR10.out.then hr); have HG11 := Lib.hid (RowI.base hro HR10.out.2.size); clear hro; clear hr
                        refine hK.out _ _ ?_ (fun hHeld => ?_)
                        · exact hb12
                        clear hK K
                        (try simp only [Act.put, List.setIfInBounds_toArray, List.set_cons_zero, List.set_cons_succ])
                        refine wpAnyH_ready (rs := [32]) (by kernel_rfl) (by simp) ?_
                        refine AllReadyH.cons (o := { dst := some 35, op := Op.call { callee := Callee.value (Operand.func 127), args := #[Operand.tmp 32, Operand.const (Value.int IntKind.i64 40), Operand.tmp 34], argTypes := #[154, 3, 190] }, type := 39, pos := "record.go:170", after := #[{ on := 29, ground := Ground.data }, { on := 31, ground := Ground.data }, { on := 28, ground := Ground.chain }], guard := none }) rfl (fun K hK => ?_) ?_
                        · go_simp; go_at_call 127; refine (N12.out _ HR11.out.1 (Nat.le_trans HC.out HR11.out.size)).mono ?_; rintro e u12 ⟨A12, c12, rfl, hro, hr⟩; have hb13 := hb12.only hr.2 hne1 (by decide); have hz12 := hz11.only hr.2 hne2 (by decide); have HR12 := Lib.hid (HR11.out.then hr); have HG12 := Lib.hid (RowI.only HG11.out hr.2 HR11.out.1); clear HG11; have HP12 := Lib.hid (RowP.base hro HR11.out.2.size); clear hro; clear hr
                          refine hK.out _ _ ?_ (fun hHeld => ?_)
                          · exact hb13
                          clear hK K
                          (try simp only [Act.put, List.setIfInBounds_toArray, List.set_cons_zero, List.set_cons_succ])
                          refine wpAnyH_ready (rs := [36]) (by kernel_rfl) (by simp) ?_
                          refine AllReadyH.cons (o := { dst := some 39, op := Op.call { callee := Callee.value (Operand.func 129), args := #[Operand.tmp 36, Operand.const (Value.int IntKind.i64 8), Operand.tmp 38], argTypes := #[154, 3, 192] }, type := 40, pos := "record.go:171", after := #[{ on := 33, ground := Ground.data }, { on := 35, ground := Ground.data }, { on := 32, ground := Ground.chain }], guard := none }) rfl (fun K hK => ?_) ?_
                          · go_simp; go_at_call 129; refine (N13.out _ HR12.out.1 (Nat.le_trans HC.out HR12.out.size)).mono ?_; rintro e u13 ⟨A13, c13, rfl, ⟨ss, hro⟩, hr⟩; have hb14 := hb13.only hr.2 hne1 (by decide); have hz13 := hz12.only hr.2 hne2 (by decide); have HR13 := Lib.hid (HR12.out.then hr); have HG13 := Lib.hid (RowI.only HG12.out hr.2 HR12.out.1); clear HG12; have HP13 := Lib.hid (RowP.only HP12.out hr.2 HR12.out.1); clear HP12; have HT13 := Lib.hid (RowT.base hro HR12.out.2.size); clear hro; clear hr
                            refine hK.out _ _ ?_ (fun hHeld => ?_)
                            · exact hb14
                            clear hK K
                            (try simp only [Act.put, List.setIfInBounds_toArray, List.set_cons_zero, List.set_cons_succ])
                            refine wpAnyH_ready (rs := [40]) (by kernel_rfl) (by simp) ?_
                            refine AllReadyH.cons (o := { dst := some 43, op := Op.call { callee := Callee.value (Operand.func 131), args := #[Operand.tmp 40, Operand.const (Value.int IntKind.i64 64), Operand.tmp 42], argTypes := #[154, 3, 194] }, type := 41, pos := "record.go:172", after := #[{ on := 37, ground := Ground.data }, { on := 39, ground := Ground.data }, { on := 36, ground := Ground.chain }], guard := none }) rfl (fun K hK => ?_) ?_
                            · go_simp; go_at_call 131; refine (N14.out _ HR13.out.1 (Nat.le_trans HC.out HR13.out.size)).mono ?_; rintro e u14 ⟨A14, c14, rfl, hro, hr⟩; have hb15 := hb14.only hr.2 hne1 (by decide); have hz14 := hz13.only hr.2 hne2 (by decide); have HR14 := Lib.hid (HR13.out.then hr); have HG14 := Lib.hid (RowI.only HG13.out hr.2 HR13.out.1); clear HG13; have HP14 := Lib.hid (RowP.only HP13.out hr.2 HR13.out.1); clear HP13; have HT14 := Lib.hid (RowT.only HT13.out hr.2 HR13.out.1); clear HT13; have HD14 := Lib.hid (RowD.base hro HR13.out.2.size); clear hro; clear hr
                              refine hK.out _ _ ?_ (fun hHeld => ?_)
                              · exact hb15
                              clear hK K
                              (try simp only [Act.put, List.setIfInBounds_toArray, List.set_cons_zero, List.set_cons_succ])
                              refine wpAnyH_take (i := 41) (oi := { dst := some 44, op := Op.build 43 #[(0, Operand.tmp 5), (1, Operand.tmp 8), (2, Operand.tmp 11), (3, Operand.tmp 14), (4, Operand.tmp 16), (5, Operand.tmp 18), (6, Operand.tmp 29), (7, Operand.tmp 31), (8, Operand.tmp 35), (9, Operand.tmp 39), (10, Operand.tmp 43)], type := 43, pos := "record.go:161", after := #[{ on := 2, ground := Ground.data }, { on := 5, ground := Ground.data }, { on := 8, ground := Ground.data }, { on := 11, ground := Ground.data }, { on := 13, ground := Ground.data }, { on := 15, ground := Ground.data }, { on := 26, ground := Ground.data }, { on := 28, ground := Ground.data }, { on := 32, ground := Ground.data }, { on := 36, ground := Ground.data }, { on := 40, ground := Ground.data }], guard := none }) (v := .agg #[.int .i64 v1, .int .i64 v2, .int .i64 v3, .int .i64 v4, .string v5, .bool v6, .string v7, .string v8, .int .i64 v9, .int .i64 v10, .slice A11 v11.length c11, .slice A12 v12.length c12, .slice A13 v13.length c13, .slice A14 v14.length c14]) rfl (by kernel_rfl) (by kernel_rfl) (by kernel_rfl) (fun _ _ _ h => h) (Or.inl ⟨by rfl, fun w' hSw => by ((try dsimp only at hSw); have := X0 _ hSw; go_simp)⟩) (by assumption) ?_
                              (try simp only [Act.put, List.setIfInBounds_toArray, List.set_cons_zero, List.set_cons_succ])

                              refine wpAnyH_ready (rs := [42]) (by kernel_rfl) (by simp) ?_
                              refine AllReadyH.cons (o := { dst := none, op := Op.store 43 (Operand.tmp 2) (Operand.tmp 44), type := 0, pos := "record.go:161", after := #[{ on := 41, ground := Ground.data }, { on := 40, ground := Ground.chain }, { on := 0, ground := Ground.phase }, { on := 1, ground := Ground.phase }, { on := 2, ground := Ground.phase }, { on := 3, ground := Ground.phase }, { on := 4, ground := Ground.phase }, { on := 5, ground := Ground.phase }, { on := 6, ground := Ground.phase }, { on := 7, ground := Ground.phase }, { on := 8, ground := Ground.phase }, { on := 9, ground := Ground.phase }, { on := 10, ground := Ground.phase }, { on := 11, ground := Ground.phase }, { on := 12, ground := Ground.phase }, { on := 13, ground := Ground.phase }, { on := 14, ground := Ground.phase }, { on := 15, ground := Ground.phase }, { on := 16, ground := Ground.phase }, { on := 17, ground := Ground.phase }, { on := 18, ground := Ground.phase }, { on := 19, ground := Ground.phase }, { on := 20, ground := Ground.phase }, { on := 21, ground := Ground.phase }, { on := 22, ground := Ground.phase }, { on := 23, ground := Ground.phase }, { on := 24, ground := Ground.phase }, { on := 25, ground := Ground.phase }, { on := 26, ground := Ground.phase }, { on := 27, ground := Ground.phase }, { on := 28, ground := Ground.phase }, { on := 29, ground := Ground.phase }, { on := 30, ground := Ground.phase }, { on := 31, ground := Ground.phase }, { on := 32, ground := Ground.phase }, { on := 33, ground := Ground.phase }, { on := 34, ground := Ground.phase }, { on := 35, ground := Ground.phase }, { on := 36, ground := Ground.phase }, { on := 37, ground := Ground.phase }, { on := 38, ground := Ground.phase }, { on := 39, ground := Ground.phase }, { on := 40, ground := Ground.phase }, { on := 41, ground := Ground.phase }], guard := none }) rfl (fun K hK => ?_) ?_
                              · refine step_store_row rfl 43 (.tmp 2) (.tmp 44) rfl B2 #[.int .i64 v1, .int .i64 v2, .int .i64 v3, .int .i64 v4, .string v5, .bool v6, .string v7, .string v8, .int .i64 v9, .int .i64 v10, .slice A11 v11.length c11, .slice A12 v12.length c12, .slice A13 v13.length c13, .slice A14 v14.length c14] rfl rfl 43 _ hz14 (by kernel_rfl) rfl (by simp [Value.oneCell']) ?_
                                refine hK.out _ _ ?_ (fun hHeld => ?_)
                                · exact hb15.orow hne12 _
                                clear hK K
                                (try simp only [Act.put, List.setIfInBounds_toArray, List.set_cons_zero, List.set_cons_succ])
                                refine wpAnyH_done (by kernel_rfl) ?_ _
                                refine NoPanic.normal ?_
                                have HZ : Bx (u14.setRow B2 #[.int .i64 v1, .int .i64 v2, .int .i64 v3, .int .i64 v4, .string v5, .bool v6, .string v7, .string v8, .int .i64 v9, .int .i64 v10, .slice A11 v11.length c11, .slice A12 v12.length c12, .slice A13 v13.length c13, .slice A14 v14.length c14]) B2 #[.int .i64 v1, .int .i64 v2, .int .i64 v3, .int .i64 v4, .string v5, .bool v6, .string v7, .string v8, .int .i64 v9, .int .i64 v10, .slice A11 v11.length c11, .slice A12 v12.length c12, .slice A13 v13.length c13, .slice A14 v14.length c14] 43 := hz14.row _
                                have HR := Lib.hid (ReadS.row HR14.out HC.out hB2 hqw : ReadS C q w t14 (u14.setRow B2 #[.int .i64 v1, .int .i64 v2, .int .i64 v3, .int .i64 v4, .string v5, .bool v6, .string v7, .string v8, .int .i64 v9, .int .i64 v10, .slice A11 v11.length c11, .slice A12 v12.length c12, .slice A13 v13.length c13, .slice A14 v14.length c14]))
                                have HOG := Lib.hid (RowI.aside (HG14.out) (Aside.row B2 u14 #[.int .i64 v1, .int .i64 v2, .int .i64 v3, .int .i64 v4, .string v5, .bool v6, .string v7, .string v8, .int .i64 v9, .int .i64 v10, .slice A11 v11.length c11, .slice A12 v12.length c12, .slice A13 v13.length c13, .slice A14 v14.length c14]) hz14 (by decide) : RowI w.heap.size (u14.setRow B2 #[.int .i64 v1, .int .i64 v2, .int .i64 v3, .int .i64 v4, .string v5, .bool v6, .string v7, .string v8, .int .i64 v9, .int .i64 v10, .slice A11 v11.length c11, .slice A12 v12.length c12, .slice A13 v13.length c13, .slice A14 v14.length c14]) ⟨A11, v11.length, c11⟩ v11)
                                have HOP := Lib.hid (RowP.aside (HP14.out) (Aside.row B2 u14 #[.int .i64 v1, .int .i64 v2, .int .i64 v3, .int .i64 v4, .string v5, .bool v6, .string v7, .string v8, .int .i64 v9, .int .i64 v10, .slice A11 v11.length c11, .slice A12 v12.length c12, .slice A13 v13.length c13, .slice A14 v14.length c14]) hz14 (by decide) : RowP w.heap.size (u14.setRow B2 #[.int .i64 v1, .int .i64 v2, .int .i64 v3, .int .i64 v4, .string v5, .bool v6, .string v7, .string v8, .int .i64 v9, .int .i64 v10, .slice A11 v11.length c11, .slice A12 v12.length c12, .slice A13 v13.length c13, .slice A14 v14.length c14]) ⟨A12, v12.length, c12⟩ v12)
                                have HOT := Lib.hid (RowT.aside (HT14.out) (Aside.row B2 u14 #[.int .i64 v1, .int .i64 v2, .int .i64 v3, .int .i64 v4, .string v5, .bool v6, .string v7, .string v8, .int .i64 v9, .int .i64 v10, .slice A11 v11.length c11, .slice A12 v12.length c12, .slice A13 v13.length c13, .slice A14 v14.length c14]) hz14 (by decide) (by decide) : RowT w.heap.size (u14.setRow B2 #[.int .i64 v1, .int .i64 v2, .int .i64 v3, .int .i64 v4, .string v5, .bool v6, .string v7, .string v8, .int .i64 v9, .int .i64 v10, .slice A11 v11.length c11, .slice A12 v12.length c12, .slice A13 v13.length c13, .slice A14 v14.length c14]) ⟨A13, v13.length, c13⟩ v13 ss)
                                have HOD := Lib.hid (RowD.aside (HD14.out) (Aside.row B2 u14 #[.int .i64 v1, .int .i64 v2, .int .i64 v3, .int .i64 v4, .string v5, .bool v6, .string v7, .string v8, .int .i64 v9, .int .i64 v10, .slice A11 v11.length c11, .slice A12 v12.length c12, .slice A13 v13.length c13, .slice A14 v14.length c14]) hz14 (by decide) : RowD w.heap.size (u14.setRow B2 #[.int .i64 v1, .int .i64 v2, .int .i64 v3, .int .i64 v4, .string v5, .bool v6, .string v7, .string v8, .int .i64 v9, .int .i64 v10, .slice A11 v11.length c11, .slice A12 v12.length c12, .slice A13 v13.length c13, .slice A14 v14.length c14]) ⟨A14, v14.length, c14⟩ v14)
                                clear hHeld
                                generalize (u14.setRow B2 #[.int .i64 v1, .int .i64 v2, .int .i64 v3, .int .i64 v4, .string v5, .bool v6, .string v7, .string v8, .int .i64 v9, .int .i64 v10, .slice A11 v11.length c11, .slice A12 v12.length c12, .slice A13 v13.length c13, .slice A14 v14.length c14]) = V at *
                                have y0 : V.cell? ⟨B2, 0, none⟩ = some (.int .i64 v1) := HZ.cell 0
                                have y1 : V.cell? ⟨B2, 1, none⟩ = some (.int .i64 v2) := HZ.cell 1
                                have y2 : V.cell? ⟨B2, 2, none⟩ = some (.int .i64 v3) := HZ.cell 2
                                have y3 : V.cell? ⟨B2, 3, none⟩ = some (.int .i64 v4) := HZ.cell 3
                                have y4 : V.cell? ⟨B2, 4, none⟩ = some (.string v5) := HZ.cell 4
                                have y5 : V.cell? ⟨B2, 5, none⟩ = some (.bool v6) := HZ.cell 5
                                have y6 : V.cell? ⟨B2, 6, none⟩ = some (.string v7) := HZ.cell 6
                                have y7 : V.cell? ⟨B2, 7, none⟩ = some (.string v8) := HZ.cell 7
                                have y8 : V.cell? ⟨B2, 8, none⟩ = some (.int .i64 v9) := HZ.cell 8
                                have y9 : V.cell? ⟨B2, 9, none⟩ = some (.int .i64 v10) := HZ.cell 9
                                have y10 : V.cell? ⟨B2, 10, none⟩ = some (.slice A11 v11.length c11) := HZ.cell 10
                                have y11 : V.cell? ⟨B2, 11, none⟩ = some (.slice A12 v12.length c12) := HZ.cell 11
                                have y12 : V.cell? ⟨B2, 12, none⟩ = some (.slice A13 v13.length c13) := HZ.cell 12
                                have y13 : V.cell? ⟨B2, 13, none⟩ = some (.slice A14 v14.length c14) := HZ.cell 13
                                clear HZ
                                go_wp2_with fail
                                refine bodyPost_ret (v := .agg #[.int .i64 v1, .int .i64 v2, .int .i64 v3, .int .i64 v4, .string v5, .bool v6, .string v7, .string v8, .int .i64 v9, .int .i64 v10, .slice A11 v11.length c11, .slice A12 v12.length c12, .slice A13 v13.length c13, .slice A14 v14.length c14]) (by simp [results, Tryz.results89, go_sem, y0, y1, y2, y3, y4, y5, y6, y7, y8, y9, y10, y11, y12, y13]) rfl ⟨⟨⟨A11, v11.length, c11⟩, ⟨A12, v12.length, c12⟩, ⟨A13, v13.length, c13⟩, ⟨A14, v14.length, c14⟩⟩, rfl, ⟨HOG.out, HOP.out, ⟨ss, HOT.out⟩, HOD.out⟩, HR.out⟩
                              exact AllReadyH.nil
                            exact AllReadyH.nil
                          exact AllReadyH.nil
                        exact AllReadyH.nil
                      exact AllReadyH.nil
                    exact AllReadyH.nil
                  exact AllReadyH.nil
                exact AllReadyH.nil
              exact AllReadyH.nil
            exact AllReadyH.nil
          exact AllReadyH.nil
        exact AllReadyH.nil
      exact AllReadyH.nil
    exact AllReadyH.nil
  exact AllReadyH.nil
end Go.Proofs.YtnjggoeahaglbaaGreat.Rc

/- The contracts of Put and Get. -/
namespace Go.Proofs.YtnjggoeahaglbaaGreat.Rc
open Go.ChangeShapes Go.WideShapes Go.ChangeAt Go.RowKit
set_option linter.unusedVariables false
set_option linter.unusedSimpArgs false
set_option maxRecDepth 100000
theorem rcs_at (r : Rc) (h : Hd) (w : World) (B : Nat) (k : Bx w B (rcs r h) 43) : w.cell? ⟨B, 0, none⟩ = some (.int .i64 r.kind) ∧ w.cell? ⟨B, 1, none⟩ = some (.int .i64 r.tx) ∧ w.cell? ⟨B, 2, none⟩ = some (.int .i64 r.prev) ∧ w.cell? ⟨B, 3, none⟩ = some (.int .i64 r.next) ∧ w.cell? ⟨B, 4, none⟩ = some (.string r.key) ∧ w.cell? ⟨B, 5, none⟩ = some (.bool r.had) ∧ w.cell? ⟨B, 6, none⟩ = some (.string r.old.k) ∧ w.cell? ⟨B, 7, none⟩ = some (.string r.old.v) ∧ w.cell? ⟨B, 8, none⟩ = some (.int .i64 r.old.b) ∧ w.cell? ⟨B, 9, none⟩ = some (.int .i64 r.old.z) ∧ w.cell? ⟨B, 10, none⟩ = some (.slice h.g.A h.g.n h.g.c) ∧ w.cell? ⟨B, 11, none⟩ = some (.slice h.p.A h.p.n h.p.c) ∧ w.cell? ⟨B, 12, none⟩ = some (.slice h.t.A h.t.n h.t.c) ∧ w.cell? ⟨B, 13, none⟩ = some (.slice h.d.A h.d.n h.d.c) :=
  ⟨k.cell 0, k.cell 1, k.cell 2, k.cell 3, k.cell 4, k.cell 5, k.cell 6, k.cell 7, k.cell 8, k.cell 9, k.cell 10, k.cell 11, k.cell 12, k.cell 13⟩
theorem RcO.base {B D : Nat} {w : World} {r : Rc} {h : Hd} (k : RcO B w r h) (hD : D ≤ B) : RcO D w r h := by
  obtain ⟨a, b, ⟨ss, c⟩, d⟩ := k
  exact ⟨a.base hD, b.base hD, ⟨ss, c.base hD⟩, d.base hD⟩
theorem below_drewN {C : Nat} {w0 w : World} (h : Below C w0 w) (q : Nat) : Below C w0 (w.drewN q) := h.trans ⟨rfl, rfl, rfl, Nat.le_refl _, fun _ _ => rfl⟩
set_option maxHeartbeats 4000000 in
theorem put_any {C : Nat} (r : Rc) (h : Hd) (w : World) (hr : RcM C w r h) (hC : C ≤ w.heap.size) : Calls Tryz.prog 48 #[rcv r h] w fun e w' => e = .returned (.tuple #[.string (str (putS r)), .bool (rightR r)]) ∧ Below w.heap.size w w' := by
  have HA := Lib.hid ((Below.refl w.heap.size w).alloc (Nat.le_refl _) (.cells (rcs r h) 43))
  have HX := Lib.hid (Bx.new w (rcs r h) 43)
  have hmm := (hr.more hC).kept HA.out
  have RI := Lib.hid (right_is r h (w.alloc (.cells (rcs r h) 43)) hmm HA.out.size)
  have hlt := HX.out.lt
  have HLT := Lib.hid hlt
  cases g : rightR r with
  | false =>
    rw [g] at RI
    rw [show putS r = [] from by unfold putS; rw [g]; rfl, show str [] = ByteArray.mk #[] from rfl]
    clear hr hC hmm
    have hx := rcs_at r h _ _ HX.out
    obtain ⟨x0, x1, x2, x3, x4, x5, x6, x7, x8, x9, x10, x11, x12, x13⟩ := hx
    unfold rcv at RI ⊢
    unfold rcs at *
    go_enter Tryz.func48, Tryz.ntmps48
    go_wp2_with fail
    refine RI.out.mono ?_; rintro e w1 ⟨rfl, hb⟩
    have H1 := Lib.hid (HA.out.trans (hb.mono HA.out.size))
    clear hb
    go_wp2_with fail
    go_ret2
    exact ⟨rfl, H1.out⟩
  | true =>
    rw [g] at RI
    rw [show putS r = encR r from by unfold putS; rw [g]; rfl]
    have HR := Lib.hid (rightR_iff.1 g)
    have RW := Lib.hid (fun (u : World) p (hb : Below w.heap.size w u) (hp : w.heap.size ≤ p) (hpu : p < u.heap.size) (hw : Wr w.heap.size u p [] false) => record_w r h [] u HR.out ((hr.more hC).kept hb) hp hpu hw (by simp))
    have WN := Lib.hid (fun (u : World) (hb : Below w.heap.size w u) => Wr.new w.heap.size u (Nat.le_succ_of_le hb.size))
    have hx := rcs_at r h _ _ HX.out
    obtain ⟨x0, x1, x2, x3, x4, x5, x6, x7, x8, x9, x10, x11, x12, x13⟩ := hx
    clear hr hC hmm g
    unfold rcv at RI RW ⊢
    unfold rcs at *
    generalize encR r = l at *
    go_enter Tryz.func48, Tryz.ntmps48
    go_wp2_with fail
    refine RI.out.mono ?_; rintro e w1 ⟨rfl, hb⟩
    have H1 := Lib.hid (HA.out.trans (hb.mono HA.out.size))
    have HX1 := Lib.hid (HX.out.held hb)
    clear hb x0 x1 x2 x3 x4 x5 x6 x7 x8 x9 x10 x11 x12 x13
    have W1 := Lib.hid (WN.out w1 H1.out)
    have H2 := Lib.hid (H1.out.alloc H1.out.size (.cells #[.slice none 0 0, .bool false] 139))
    have HX2 := Lib.hid (HX1.out.alloc (.cells #[.slice none 0 0, .bool false] 139))
    have R2 := Lib.hid (RW.out _ _ H2.out H1.out.size (by simp) W1.out)
    obtain ⟨x0, x1, x2, x3, x4, x5, x6, x7, x8, x9, x10, x11, x12, x13⟩ := rcs_at r h _ _ HX2.out
    go_wp2_with fail
    refine R2.out.mono ?_; rintro e w3 ⟨rfl, hw⟩
    have H3 := Lib.hid (H2.out.trans (hw.2.below H1.out.size))
    have DN := Lib.hid (done_good _ _ _ _ hw.1)
    rw [List.nil_append] at DN
    clear hw x0 x1 x2 x3 x4 x5 x6 x7 x8 x9 x10 x11 x12 x13
    go_wp2_with fail
    refine DN.out.mono ?_; rintro e w4 ⟨rfl, rfl⟩
    go_wp2_with fail
    go_ret2
    exact ⟨rfl, H3.out⟩
/-- What Get hands back. -/
def GetP (b : BA) (w : World) (e : Ending) (w' : World) : Prop := Below w.heap.size w w' ∧ ((getOk b = true ∧ ∃ h, e = .returned (.tuple #[rcv (readR b) h, .bool true]) ∧ RcO w.heap.size w' (readR b) h) ∨ (getOk b = false ∧ e = .returned (.tuple #[rcv nilR hd0, .bool false])))
theorem GetP.no {b : BA} {w w' : World} (h : getOk b = false) (hb : Below w.heap.size w w') : GetP b w (.returned (.tuple #[rcv nilR hd0, .bool false])) w' := ⟨hb, .inr ⟨h, rfl⟩⟩
theorem GetP.yes {b : BA} {w w' : World} {h : Hd} (hg : getOk b = true) (hb : Below w.heap.size w w') (ho : RcO w.heap.size w' (readR b) h) : GetP b w (.returned (.tuple #[rcv (readR b) h, .bool true])) w' := ⟨hb, .inl ⟨hg, h, rfl, ho⟩⟩
theorem str_beq (a b : BA) : ((str a).toList == (str b).toList) = decide (a = b) := by
  rw [str_toList, str_toList]
  by_cases h : a = b
  · rw [h]; simp
  · rw [decide_eq_false h, beq_eq_false_iff_ne]; exact h
theorem below_row {C B : Nat} {w0 w : World} {ds : Array Value} (h : Below C w0 w) (hB : C ≤ B) : Below C w0 (w.setRow B ds) :=
  ⟨h.os, h.tape, h.output, by rw [row_size]; exact h.size, fun k hk => (row_other w B k ds (by omega)).trans (h.block k hk)⟩
def z14 : Array Value := #[.int .i64 0, .int .i64 0, .int .i64 0, .int .i64 0, .string ⟨#[]⟩, .bool false, .string ⟨#[]⟩, .string ⟨#[]⟩, .int .i64 0, .int .i64 0, .slice none 0 0, .slice none 0 0, .slice none 0 0, .slice none 0 0]
set_option maxHeartbeats 8000000 in
theorem get_any (b : BA) (hb : b.length ≤ 800000) (w : World) : Calls Tryz.prog 62 #[.string (str b)] w fun e w' => GetP b w e w' := by
  have HA := Lib.hid ((Below.refl w.heap.size w).alloc (Nat.le_refl _) (.cells z14 43))
  have HZ := Lib.hid (Bx.new w z14 43)
  have FR := Lib.hid (fun u => from_any b u)
  have RR := Lib.hid (fun u q (hc : w.heap.size ≤ u.heap.size) (hu : RdS u q (b, true)) => record_r w.heap.size q (b, true) u hb hc hu)
  rw [show (recR (b, true)).1 = readR b from rfl] at RR
  have HW := Lib.hid (rec_w (s := (b, true)) hb)
  rw [show (recR (b, true)).1 = readR b from rfl] at HW
  have PU := Lib.hid (fun u h (hu : RcM u.heap.size u (readR b) h) => put_any (readR b) h u hu (Nat.le_refl _))
  have HGO := Lib.hid (show getOk b = (rightR (readR b) && decide (encR (readR b) = b)) from rfl)
  have HPS := Lib.hid (fun (e : rightR (readR b) = true) => (show putS (readR b) = encR (readR b) from by unfold putS; rw [e]; rfl))
  have GN := Lib.hid (fun u => GetP.no (b := b) (w := w) (w' := u))
  have GY := Lib.hid (fun u h => GetP.yes (b := b) (w := w) (w' := u) (h := h))
  have SB := Lib.hid (fun a => str_beq a b)
  have HSZ := Lib.hid (show (w.alloc (.cells z14 43)).heap.size = w.heap.size + 1 from by simp)
  have HSB := Lib.hid (fun (u : World) (s : ByteArray) (e : s = str b) => (show RdS (u.alloc (.cells #[.string s, .bool true] 186)) u.heap.size (b, true) from by subst e; exact Rd.new u b))
  generalize readR b = r at *
  obtain ⟨sb, hsb⟩ : ∃ sb, sb = str b := ⟨_, rfl⟩
  rw [← hsb] at FR SB ⊢
  replace HSB := Lib.hid (fun u => HSB.out u sb hsb)
  clear hb hsb
  unfold rcv at RR PU GN GY
  unfold z14 at *
  have HNE := Lib.hid (show w.heap.size ≠ (w.alloc (.cells #[.int .i64 0, .int .i64 0, .int .i64 0, .int .i64 0, .string ⟨#[]⟩, .bool false, .string ⟨#[]⟩, .string ⟨#[]⟩, .int .i64 0, .int .i64 0, .slice none 0 0, .slice none 0 0, .slice none 0 0, .slice none 0 0] 43)).heap.size from by simp)
  go_enter Tryz.func62, Tryz.ntmps62
  go_upto_region 1 with fail
  generalize w.alloc (.cells #[.int .i64 0, .int .i64 0, .int .i64 0, .int .i64 0, .string ⟨#[]⟩, .bool false, .string ⟨#[]⟩, .string ⟨#[]⟩, .int .i64 0, .int .i64 0, .slice none 0 0, .slice none 0 0, .slice none 0 0, .slice none 0 0] 43) = W at *
  go_wp2_with fail
  refine (FR.out _).mono ?_; rintro e w2 ⟨rfl, rfl⟩
  have HQ := Lib.hid (HSB.out W)
  have H2 := Lib.hid (HA.out.alloc HA.out.size (.cells #[.string sb, .bool true] 186))
  have HZ2 := Lib.hid (HZ.out.alloc (.cells #[.string sb, .bool true] 186))
  have RC := Lib.hid (RR.out _ _ H2.out.size HQ.out)
  go_wp2_with fail
  refine RC.out.mono ?_; rintro e w3 ⟨h, rfl, ho, hrd⟩
  have H3 := Lib.hid (H2.out.trans (hrd.2.below HA.out.size))
  have HO3 := Lib.hid (ho.base H2.out.size)
  have HZ3 := Lib.hid (HZ2.out.only hrd.2 HNE.out (by decide))
  have HAL := Lib.hid ((Below.refl w3.heap.size w3).alloc (Nat.le_refl _) (.cells (rcs r h) 43))
  have H4 := Lib.hid (H3.out.alloc H3.out.size (.cells (rcs r h) 43))
  have HO4 := Lib.hid (HO3.out.below HAL.out)
  have HZ4 := Lib.hid (HZ3.out.held HAL.out)
  have HX4 := Lib.hid (Bx.new w3 (rcs r h) 43)
  have P4 := Lib.hid (PU.out _ h (HO4.out.m HW.out))
  have HGE := Lib.hid H3.out.size
  clear ho hrd RC HQ H2 HZ2 RR FR HSB HA HZ HAL HO3 HZ3 PU HNE
  unfold rcs at *
  obtain ⟨x0, x1, x2, x3, x4, x5, x6, x7, x8, x9, x10, x11, x12, x13⟩ := rcs_at r h _ _ HX4.out
  go_wp2_with fail
  refine P4.out.mono ?_; rintro e w5 ⟨rfl, hb⟩
  have H5 := Lib.hid (H4.out.trans (hb.mono H4.out.size))
  have HO5 := Lib.hid (HO4.out.below hb)
  have HZ5 := Lib.hid (HZ4.out.held hb)
  have HX5 := Lib.hid (HX4.out.held hb)
  clear hb x0 x1 x2 x3 x4 x5 x6 x7 x8 x9 x10 x11 x12 x13 P4 H4 HO4 HZ4 HX4
  have hz := HZ5.out
  cases g : rightR r with
  | false =>
    as_aux_lemma =>
      have HN := Lib.hid (GN.out (w5.setRow w.heap.size #[.int .i64 0, .int .i64 0, .int .i64 0, .int .i64 0, .string ⟨#[]⟩, .bool false, .string ⟨#[]⟩, .string ⟨#[]⟩, .int .i64 0, .int .i64 0, .slice none 0 0, .slice none 0 0, .slice none 0 0, .slice none 0 0]) (by rw [HGO.out, g]; rfl) (below_row H5.out (Nat.le_refl _)))
      clear HGO HPS SB GY GN
      go_wp2_with (refine wpList_store_row rfl 43 (.tmp 2) (.tmp 23) rfl w.heap.size #[.int .i64 0, .int .i64 0, .int .i64 0, .int .i64 0, .string ⟨#[]⟩, .bool false, .string ⟨#[]⟩, .string ⟨#[]⟩, .int .i64 0, .int .i64 0, .slice none 0 0, .slice none 0 0, .slice none 0 0, .slice none 0 0] rfl rfl 43 _ hz (by kernel_rfl) rfl (by simp [Value.oneCell']) ?_)
      have hy := hz.row #[.int .i64 0, .int .i64 0, .int .i64 0, .int .i64 0, .string ⟨#[]⟩, .bool false, .string ⟨#[]⟩, .string ⟨#[]⟩, .int .i64 0, .int .i64 0, .slice none 0 0, .slice none 0 0, .slice none 0 0, .slice none 0 0]
      generalize w5.setRow _ _ = V at *
      have y0 : V.cell? ⟨w.heap.size, 0, none⟩ = some (.int .i64 0) := hy.cell 0
      have y1 : V.cell? ⟨w.heap.size, 1, none⟩ = some (.int .i64 0) := hy.cell 1
      have y2 : V.cell? ⟨w.heap.size, 2, none⟩ = some (.int .i64 0) := hy.cell 2
      have y3 : V.cell? ⟨w.heap.size, 3, none⟩ = some (.int .i64 0) := hy.cell 3
      have y4 : V.cell? ⟨w.heap.size, 4, none⟩ = some (.string ⟨#[]⟩) := hy.cell 4
      have y5 : V.cell? ⟨w.heap.size, 5, none⟩ = some (.bool false) := hy.cell 5
      have y6 : V.cell? ⟨w.heap.size, 6, none⟩ = some (.string ⟨#[]⟩) := hy.cell 6
      have y7 : V.cell? ⟨w.heap.size, 7, none⟩ = some (.string ⟨#[]⟩) := hy.cell 7
      have y8 : V.cell? ⟨w.heap.size, 8, none⟩ = some (.int .i64 0) := hy.cell 8
      have y9 : V.cell? ⟨w.heap.size, 9, none⟩ = some (.int .i64 0) := hy.cell 9
      have y10 : V.cell? ⟨w.heap.size, 10, none⟩ = some (.slice none 0 0) := hy.cell 10
      have y11 : V.cell? ⟨w.heap.size, 11, none⟩ = some (.slice none 0 0) := hy.cell 11
      have y12 : V.cell? ⟨w.heap.size, 12, none⟩ = some (.slice none 0 0) := hy.cell 12
      have y13 : V.cell? ⟨w.heap.size, 13, none⟩ = some (.slice none 0 0) := hy.cell 13
      refine bodyPost_ret (v := .tuple #[.agg #[.int .i64 0, .int .i64 0, .int .i64 0, .int .i64 0, .string ⟨#[]⟩, .bool false, .string ⟨#[]⟩, .string ⟨#[]⟩, .int .i64 0, .int .i64 0, .slice none 0 0, .slice none 0 0, .slice none 0 0, .slice none 0 0], .bool false]) (by simp [results, Tryz.results62, go_sem, y0, y1, y2, y3, y4, y5, y6, y7, y8, y9, y10, y11, y12, y13] ) rfl ?_
      exact HN.out
  | true =>
    have e1 := SB.out (putS r)
    by_cases e : encR r = b
    · rw [decide_eq_true (show putS r = b from (HPS.out g).trans e)] at e1
      have e2 : (str (putS r)).toList = sb.toList := by simpa using e1
      have e3 : (sb.toList == sb.toList) = true := by simp
      have HN := Lib.hid (GY.out (w5.setRow w.heap.size #[.int .i64 r.kind, .int .i64 r.tx, .int .i64 r.prev, .int .i64 r.next, .string r.key, .bool r.had, .string r.old.k, .string r.old.v, .int .i64 r.old.b, .int .i64 r.old.z, .slice h.g.A h.g.n h.g.c, .slice h.p.A h.p.n h.p.c, .slice h.t.A h.t.n h.t.c, .slice h.d.A h.d.n h.d.c]) h (by rw [HGO.out, g, decide_eq_true e]; rfl) (below_row H5.out (Nat.le_refl _)) (HO5.out.aside (Aside.row _ _ _) hz))
      obtain ⟨x0, x1, x2, x3, x4, x5, x6, x7, x8, x9, x10, x11, x12, x13⟩ := rcs_at r h _ _ HX5.out
      clear HGO HPS SB GY GN
      go_wp2_with (refine wpList_store_row rfl 43 (.tmp 2) (.tmp 24) rfl w.heap.size #[.int .i64 r.kind, .int .i64 r.tx, .int .i64 r.prev, .int .i64 r.next, .string r.key, .bool r.had, .string r.old.k, .string r.old.v, .int .i64 r.old.b, .int .i64 r.old.z, .slice h.g.A h.g.n h.g.c, .slice h.p.A h.p.n h.p.c, .slice h.t.A h.t.n h.t.c, .slice h.d.A h.d.n h.d.c] rfl rfl 43 _ hz (by kernel_rfl) rfl (by simp [Value.oneCell']) ?_)
      have hy := hz.row #[.int .i64 r.kind, .int .i64 r.tx, .int .i64 r.prev, .int .i64 r.next, .string r.key, .bool r.had, .string r.old.k, .string r.old.v, .int .i64 r.old.b, .int .i64 r.old.z, .slice h.g.A h.g.n h.g.c, .slice h.p.A h.p.n h.p.c, .slice h.t.A h.t.n h.t.c, .slice h.d.A h.d.n h.d.c]
      generalize w5.setRow _ _ = V at *
      have y0 : V.cell? ⟨w.heap.size, 0, none⟩ = some (.int .i64 r.kind) := hy.cell 0
      have y1 : V.cell? ⟨w.heap.size, 1, none⟩ = some (.int .i64 r.tx) := hy.cell 1
      have y2 : V.cell? ⟨w.heap.size, 2, none⟩ = some (.int .i64 r.prev) := hy.cell 2
      have y3 : V.cell? ⟨w.heap.size, 3, none⟩ = some (.int .i64 r.next) := hy.cell 3
      have y4 : V.cell? ⟨w.heap.size, 4, none⟩ = some (.string r.key) := hy.cell 4
      have y5 : V.cell? ⟨w.heap.size, 5, none⟩ = some (.bool r.had) := hy.cell 5
      have y6 : V.cell? ⟨w.heap.size, 6, none⟩ = some (.string r.old.k) := hy.cell 6
      have y7 : V.cell? ⟨w.heap.size, 7, none⟩ = some (.string r.old.v) := hy.cell 7
      have y8 : V.cell? ⟨w.heap.size, 8, none⟩ = some (.int .i64 r.old.b) := hy.cell 8
      have y9 : V.cell? ⟨w.heap.size, 9, none⟩ = some (.int .i64 r.old.z) := hy.cell 9
      have y10 : V.cell? ⟨w.heap.size, 10, none⟩ = some (.slice h.g.A h.g.n h.g.c) := hy.cell 10
      have y11 : V.cell? ⟨w.heap.size, 11, none⟩ = some (.slice h.p.A h.p.n h.p.c) := hy.cell 11
      have y12 : V.cell? ⟨w.heap.size, 12, none⟩ = some (.slice h.t.A h.t.n h.t.c) := hy.cell 12
      have y13 : V.cell? ⟨w.heap.size, 13, none⟩ = some (.slice h.d.A h.d.n h.d.c) := hy.cell 13
      refine bodyPost_ret (v := .tuple #[.agg #[.int .i64 r.kind, .int .i64 r.tx, .int .i64 r.prev, .int .i64 r.next, .string r.key, .bool r.had, .string r.old.k, .string r.old.v, .int .i64 r.old.b, .int .i64 r.old.z, .slice h.g.A h.g.n h.g.c, .slice h.p.A h.p.n h.p.c, .slice h.t.A h.t.n h.t.c, .slice h.d.A h.d.n h.d.c], .bool true]) (by simp [results, Tryz.results62, go_sem, y0, y1, y2, y3, y4, y5, y6, y7, y8, y9, y10, y11, y12, y13] ) rfl ?_
      exact HN.out
    · rw [decide_eq_false (show ¬ putS r = b from fun hh => e ((HPS.out g).symm.trans hh))] at e1
      have e2 : ¬ (str (putS r)).toList = sb.toList := by simpa using e1
      have HN := Lib.hid (GN.out (w5.setRow w.heap.size #[.int .i64 0, .int .i64 0, .int .i64 0, .int .i64 0, .string ⟨#[]⟩, .bool false, .string ⟨#[]⟩, .string ⟨#[]⟩, .int .i64 0, .int .i64 0, .slice none 0 0, .slice none 0 0, .slice none 0 0, .slice none 0 0]) (by rw [HGO.out, decide_eq_false e, Bool.and_false]) (below_row H5.out (Nat.le_refl _)))
      clear HGO HPS SB GY GN
      go_wp2_with (refine wpList_store_row rfl 43 (.tmp 2) (.tmp 23) rfl w.heap.size #[.int .i64 0, .int .i64 0, .int .i64 0, .int .i64 0, .string ⟨#[]⟩, .bool false, .string ⟨#[]⟩, .string ⟨#[]⟩, .int .i64 0, .int .i64 0, .slice none 0 0, .slice none 0 0, .slice none 0 0, .slice none 0 0] rfl rfl 43 _ hz (by kernel_rfl) rfl (by simp [Value.oneCell']) ?_)
      have hy := hz.row #[.int .i64 0, .int .i64 0, .int .i64 0, .int .i64 0, .string ⟨#[]⟩, .bool false, .string ⟨#[]⟩, .string ⟨#[]⟩, .int .i64 0, .int .i64 0, .slice none 0 0, .slice none 0 0, .slice none 0 0, .slice none 0 0]
      generalize w5.setRow _ _ = V at *
      have y0 : V.cell? ⟨w.heap.size, 0, none⟩ = some (.int .i64 0) := hy.cell 0
      have y1 : V.cell? ⟨w.heap.size, 1, none⟩ = some (.int .i64 0) := hy.cell 1
      have y2 : V.cell? ⟨w.heap.size, 2, none⟩ = some (.int .i64 0) := hy.cell 2
      have y3 : V.cell? ⟨w.heap.size, 3, none⟩ = some (.int .i64 0) := hy.cell 3
      have y4 : V.cell? ⟨w.heap.size, 4, none⟩ = some (.string ⟨#[]⟩) := hy.cell 4
      have y5 : V.cell? ⟨w.heap.size, 5, none⟩ = some (.bool false) := hy.cell 5
      have y6 : V.cell? ⟨w.heap.size, 6, none⟩ = some (.string ⟨#[]⟩) := hy.cell 6
      have y7 : V.cell? ⟨w.heap.size, 7, none⟩ = some (.string ⟨#[]⟩) := hy.cell 7
      have y8 : V.cell? ⟨w.heap.size, 8, none⟩ = some (.int .i64 0) := hy.cell 8
      have y9 : V.cell? ⟨w.heap.size, 9, none⟩ = some (.int .i64 0) := hy.cell 9
      have y10 : V.cell? ⟨w.heap.size, 10, none⟩ = some (.slice none 0 0) := hy.cell 10
      have y11 : V.cell? ⟨w.heap.size, 11, none⟩ = some (.slice none 0 0) := hy.cell 11
      have y12 : V.cell? ⟨w.heap.size, 12, none⟩ = some (.slice none 0 0) := hy.cell 12
      have y13 : V.cell? ⟨w.heap.size, 13, none⟩ = some (.slice none 0 0) := hy.cell 13
      refine bodyPost_ret (v := .tuple #[.agg #[.int .i64 0, .int .i64 0, .int .i64 0, .int .i64 0, .string ⟨#[]⟩, .bool false, .string ⟨#[]⟩, .string ⟨#[]⟩, .int .i64 0, .int .i64 0, .slice none 0 0, .slice none 0 0, .slice none 0 0, .slice none 0 0], .bool false]) (by simp [results, Tryz.results62, go_sem, y0, y1, y2, y3, y4, y5, y6, y7, y8, y9, y10, y11, y12, y13] ) rfl ?_
      exact HN.out
end Go.Proofs.YtnjggoeahaglbaaGreat.Rc
