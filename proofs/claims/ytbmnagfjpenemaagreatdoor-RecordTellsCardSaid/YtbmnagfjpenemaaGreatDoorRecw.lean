/- What the record's writer writes: patches, transactions, dirty pages, records. -/
import Derived.Test.YtbmnagfjpenemaaGreatDoorWrite
import Derived.Deep.RegionHeld3
import Derived.StillTailTactics
import Derived.Deep.DeepCutAuto
import Derived.Deep.CutBlock
import Derived.BigQuiet
import Derived.Deep.RegionLaw
namespace Go.Proofs.YtbmnagfjpenemaaGreatDoor
open Go.ChangeShapes Go.WideShapes Go.ChangeAt Go.RowKit
set_option linter.unusedVariables false
set_option linter.unusedSimpArgs false
set_option maxRecDepth 100000
theorem Bx.drew {w : World} {B : Nat} {cs : Array Value} {t : TypeId} (h : Bx w B cs t) : Bx w.drew B cs t := h
set_option maxHeartbeats 1000000 in
theorem dirty_w {C p : Nat} (d : Dy) (l0 : BA) (w : World) (h : rightD d = true) (hp : p < w.heap.size) (hw : Wr C w p l0 false) (hb : l0.length ≤ 490000) :
    Calls Tryz.prog 99 #[ptr p, dyv d] w fun e w' => e = .returned (ptr p) ∧ Wrote C p w (l0 ++ encD d) false w' := by
  obtain ⟨h1, h2⟩ := rightD_iff.1 h
  have HE := Lib.hid (show l0 ++ encD d = (l0 ++ w2 d.page) ++ w4 d.lsn from by unfold encD; rw [List.append_assoc])
  rw [HE.out]
  have NU := Lib.hid (fun u (hu : Wr C u p l0 false) => num_w C p d.page l0 u h1 (by omega) hu)
  have LO := Lib.hid (fun u (hu : Wr C u p (l0 ++ w2 d.page) false) => long_w C p d.lsn _ u h2 (by simp only [List.length_append, w2_length]; omega) hu)
  have HX := Lib.hid (Bx.new w #[.int .i64 d.page, .int .i64 d.lsn] 74)
  have HW := Lib.hid (Wrote.start hw |>.alloc (.cells #[.int .i64 d.page, .int .i64 d.lsn] 74))
  have hne : w.heap.size ≠ p := by omega
  unfold dyv
  clear h h1 h2 hw hb hp
  go_enter Tryz.func99, Tryz.ntmps99
  go_upto_region 1 with fail
  generalize w.alloc (.cells #[.int .i64 d.page, .int .i64 d.lsn] 74) = W at *
  obtain ⟨B, hB⟩ : ∃ B, B = w.heap.size := ⟨_, rfl⟩
  rw [← hB] at HX hne ⊢
  clear hB
  have X0 := fun r (h : Bx r B #[.int .i64 d.page, .int .i64 d.lsn] 74) => h.cell 0
  have X1 := fun r (h : Bx r B #[.int .i64 d.page, .int .i64 d.lsn] 74) => h.cell 1
  simp at X0 X1
  have hx0 := HX.out
  have hw0 := HW.out.1.drew
  go_region_held3 (fun w' => Bx w' B #[.int .i64 d.page, .int .i64 d.lsn] 74) (first | assumption) (first
    | (go_at_call 88; refine (NU.out _ hw0).mono ?_; rintro e u ⟨rfl, hu⟩; have hxu := hx0.drew.only hu.2 hne (by decide))
    | (go_at_call 89; refine (LO.out _ hu.1).mono ?_; rintro e v ⟨rfl, hv⟩; have hxv := hxu.only hv.2 hne (by decide)))
  all_goals go_wp2_with fail
  all_goals go_ret
  all_goals exact ⟨rfl, (HW.out.drew.then hu).then hv⟩
theorem ints_lit {u : World} {B : Nat} {a b : Int} (h : Bx u B #[.int .i64 a, .int .i64 b] 3) (ha : rng a) (hb : rng b) : IntsM u.heap.size u (some ⟨B, 0, none⟩) 2 [a, b] :=
  ⟨rfl, by unfold maxLen; omega, fun k hk => by
    rcases k with _ | _ | k
    · exact ⟨B, 0, rfl, h.lt, h.cell 0, ha⟩
    · exact ⟨B, 0, rfl, h.lt, h.cell 1, hb⟩
    · omega⟩
theorem two_rng {v : Int} (h : two v = true) : rng v := by obtain ⟨h0, h1⟩ := two_iff.1 h; unfold rng; omega
theorem four_rng {v : Int} (h : four v = true) : rng v := by obtain ⟨h0, h1⟩ := four_iff.1 h; unfold rng; omega
theorem nums_w {C p c : Nat} {a b : Int} {B : Nat} (l0 : BA) (u : World) (ha : two a = true) (hb : two b = true) (hB : B ≠ p) (hx : Bx u B #[.int .i64 a, .int .i64 b] 3) (hw : Wr C u p l0 false) (hl : l0.length ≤ 490000) :
    Calls Tryz.prog 87 #[.func (.func 88) #[ptr p] #[], .slice (some ⟨B, 0, none⟩) 2 c] u fun e w' => e = .returned (.tuple #[]) ∧ Wrote C p u ((l0 ++ w2 a) ++ w2 b) false w' := by
  have h := eachI_is (c := c) (M := 500000) w2 l0 u (l := [a, b]) (n := 2) rfl (by unfold maxLen; omega) (fun w' ho => ints_lit (hx.only ho hB (by decide)) (two_rng ha) (two_rng hb)) hw (by simp [w2_length]; omega) (fun x hx l1 w1 e f _ => num_w C p x l1 w1 (by simp only [List.mem_cons, List.not_mem_nil, or_false] at hx; rcases hx with rfl | rfl <;> assumption) (by omega) f)
  simpa using h
theorem longs_w {C p c : Nat} {a b : Int} {B : Nat} (l0 : BA) (u : World) (ha : four a = true) (hb : four b = true) (hB : B ≠ p) (hx : Bx u B #[.int .i64 a, .int .i64 b] 3) (hw : Wr C u p l0 false) (hl : l0.length ≤ 490000) :
    Calls Tryz.prog 87 #[.func (.func 89) #[ptr p] #[], .slice (some ⟨B, 0, none⟩) 2 c] u fun e w' => e = .returned (.tuple #[]) ∧ Wrote C p u ((l0 ++ w4 a) ++ w4 b) false w' := by
  have h := eachIL_is (c := c) (M := 500000) w4 l0 u (l := [a, b]) (n := 2) rfl (by unfold maxLen; omega) (fun w' ho => ints_lit (hx.only ho hB (by decide)) (four_rng ha) (four_rng hb)) hw (by simp [w4_length]; omega) (fun x hx l1 w1 e f _ => long_w C p x l1 w1 (by simp only [List.mem_cons, List.not_mem_nil, or_false] at hx; rcases hx with rfl | rfl <;> assumption) (by omega) f)
  simpa using h
theorem texts_w {C p c : Nat} {a b : ByteArray} {B : Nat} (l0 : BA) (u : World) (ha : a.size ≤ 65535) (hb : b.size ≤ 65535) (hB : B ≠ p) (hx : Bx u B #[.string a, .string b] 9) (hw : Wr C u p l0 false) (hl : l0.length ≤ 300000) :
    Calls Tryz.prog 92 #[.func (.func 90) #[ptr p] #[], .slice (some ⟨B, 0, none⟩) 2 c] u fun e w' => e = .returned (.tuple #[]) ∧ Wrote C p u ((l0 ++ encS a) ++ encS b) false w' := by
  have h := eachS_is (c := c) (M := 500000) encS l0 u (l := [a, b]) (n := 2) rfl (by unfold maxLen; omega) (fun w' ho => ⟨rfl, by unfold maxLen; omega, fun k hk => by
    have hx' := hx.only ho hB (by decide)
    rcases k with _ | _ | k
    · exact ⟨B, 0, rfl, hx'.lt, hx'.cell 0⟩
    · exact ⟨B, 0, rfl, hx'.lt, hx'.cell 1⟩
    · omega⟩) hw (by simp [encS_length]; omega) (fun x hx l1 w1 e f _ => text_w C p x l1 w1 (by simp only [List.mem_cons, List.not_mem_nil, or_false] at hx; rcases hx with rfl | rfl <;> assumption) (by omega) f)
  simpa using h
set_option maxHeartbeats 1000000 in
theorem patch_w {C p : Nat} (x : Pt) (l0 : BA) (w : World) (h : rightP x = true) (hp : p < w.heap.size) (hw : Wr C w p l0 false) (hb : l0.length ≤ 480000) :
    Calls Tryz.prog 95 #[ptr p, ptv x] w fun e w' => e = .returned (ptr p) ∧ Wrote C p w (l0 ++ encP x) false w' := by
  obtain ⟨h1, h2, h3, h4, h5⟩ := rightP_iff.1 h
  have HE := Lib.hid (show l0 ++ encP x = ((l0 ++ w2 x.pg) ++ w2 x.ofs) ++ encS x.bs from by unfold encP; simp only [List.append_assoc])
  rw [HE.out]
  have NU := Lib.hid (fun u B (hB : B ≠ p) (hx : Bx u B #[.int .i64 x.pg, .int .i64 x.ofs] 3) (hu : Wr C u p l0 false) => nums_w (c := 2) l0 u (two_iff.2 ⟨h1, by omega⟩) (two_iff.2 ⟨h3, by omega⟩) hB hx hu (by omega))
  have LO := Lib.hid (fun u (hu : Wr C u p ((l0 ++ w2 x.pg) ++ w2 x.ofs) false) => text_w C p x.bs _ u (by omega) (by simp only [List.length_append, w2_length]; omega) hu)
  have HX := Lib.hid (Bx.new w #[.int .i64 x.pg, .int .i64 x.ofs, .string x.bs] 59)
  have HW := Lib.hid (Wrote.start hw |>.alloc (.cells #[.int .i64 x.pg, .int .i64 x.ofs, .string x.bs] 59))
  have hne : w.heap.size ≠ p := by omega
  have HP : Hid (p < (w.alloc (.cells #[.int .i64 x.pg, .int .i64 x.ofs, .string x.bs] 59)).heap.size) := by simp [Hid]; omega
  unfold ptv
  clear h h1 h2 h3 h4 h5 hw hb hp
  go_enter Tryz.func95, Tryz.ntmps95
  go_upto_region 1 with fail
  generalize w.alloc (.cells #[.int .i64 x.pg, .int .i64 x.ofs, .string x.bs] 59) = W at *
  obtain ⟨B, hB⟩ : ∃ B, B = w.heap.size := ⟨_, rfl⟩
  rw [← hB] at HX hne ⊢
  clear hB
  have X0 := fun r (h : Bx r B #[.int .i64 x.pg, .int .i64 x.ofs, .string x.bs] 59) => h.cell 0
  have X1 := fun r (h : Bx r B #[.int .i64 x.pg, .int .i64 x.ofs, .string x.bs] 59) => h.cell 1
  simp at X0 X1
  have hx0 := HX.out
  refine wp_region_noPanic ?_
  refine wp_region_held_drew (S := fun w' => Bx w' B #[.int .i64 x.pg, .int .i64 x.ofs, .string x.bs] 59) (by kernel_rfl) ?_ (fun hHeld => ?_)
  · exact hx0.drew
  refine wpAnyH_take (i := 0) (oi := { dst := some 5, op := Op.move (Operand.tmp 0), type := 62, pos := "record.go:125", after := #[], guard := none }) (v := .pointer (some ⟨p, 0, none⟩)) rfl (by kernel_rfl) (by kernel_rfl) (by kernel_rfl) (fun _ _ _ h => h) (Or.inl ⟨by rfl, fun w' hSw => by ((try dsimp only at hSw); go_simp)⟩) (by assumption) ?_
  (try simp only [Act.put, List.setIfInBounds_toArray, List.set_cons_zero, List.set_cons_succ])
  refine wpAnyH_take (i := 1) (oi := { dst := some 6, op := Op.nilCheck (Operand.tmp 5), type := 0, pos := "record.go:125", after := #[{ on := 0, ground := Ground.data }], guard := none }) (v := .pointer (some ⟨p, 0, none⟩)) rfl (by kernel_rfl) (by kernel_rfl) (by kernel_rfl) (fun _ _ _ h => h) (Or.inl ⟨by rfl, fun w' hSw => by ((try dsimp only at hSw); go_simp)⟩) (by assumption) ?_
  (try simp only [Act.put, List.setIfInBounds_toArray, List.set_cons_zero, List.set_cons_succ])
  refine wpAnyH_take (i := 2) (oi := { dst := some 7, op := Op.fieldAddr 67 (Operand.tmp 6) 0, type := 0, pos := "record.go:125", after := #[{ on := 1, ground := Ground.data }], guard := none }) (v := .pointer (some ⟨p, 0, none⟩)) rfl (by kernel_rfl) (by kernel_rfl) (by kernel_rfl) (fun _ _ _ h => h) (Or.inl ⟨by rfl, fun w' hSw => by ((try dsimp only at hSw); go_simp)⟩) (by assumption) ?_
  (try simp only [Act.put, List.setIfInBounds_toArray, List.set_cons_zero, List.set_cons_succ])
  refine wpAnyH_take (i := 3) (oi := { dst := some 8, op := Op.makeFunc (Go.Fn.func 88) #[Operand.tmp 7] #[], type := 116, pos := "record.go:125", after := #[{ on := 2, ground := Ground.data }], guard := none }) (v := .func (.func 88) #[.pointer (some ⟨p, 0, none⟩)] #[]) rfl (by kernel_rfl) (by kernel_rfl) (by kernel_rfl) (fun _ _ _ h => h) (Or.inl ⟨by rfl, fun w' hSw => by ((try dsimp only at hSw); go_simp)⟩) (by assumption) ?_
  (try simp only [Act.put, List.setIfInBounds_toArray, List.set_cons_zero, List.set_cons_succ])
  refine wpAnyH_take (i := 4) (oi := { dst := some 9, op := Op.fieldAddr 59 (Operand.tmp 3) 0, type := 0, pos := "record.go:125", after := #[], guard := none }) (v := .pointer (some ⟨B, 0, none⟩)) rfl (by kernel_rfl) (by kernel_rfl) (by kernel_rfl) (fun _ _ _ h => h) (Or.inl ⟨by rfl, fun w' hSw => by ((try dsimp only at hSw); go_simp)⟩) (by assumption) ?_
  (try simp only [Act.put, List.setIfInBounds_toArray, List.set_cons_zero, List.set_cons_succ])
  refine wpAnyH_take (i := 5) (oi := { dst := some 10, op := Op.load 3 (Operand.tmp 9), type := 3, pos := "record.go:125", after := #[{ on := 4, ground := Ground.data }], guard := none }) (v := .int .i64 x.pg) rfl (by kernel_rfl) (by kernel_rfl) (by kernel_rfl) (fun _ _ _ h => h) (Or.inl ⟨by rfl, fun w' hSw => by ((try dsimp only at hSw); have := X0 _ hSw; go_simp)⟩) (by assumption) ?_
  (try simp only [Act.put, List.setIfInBounds_toArray, List.set_cons_zero, List.set_cons_succ])
  refine wpAnyH_take (i := 6) (oi := { dst := some 11, op := Op.fieldAddr 59 (Operand.tmp 3) 1, type := 0, pos := "record.go:125", after := #[], guard := none }) (v := .pointer (some ⟨B, 1, none⟩)) rfl (by kernel_rfl) (by kernel_rfl) (by kernel_rfl) (fun _ _ _ h => h) (Or.inl ⟨by rfl, fun w' hSw => by ((try dsimp only at hSw); go_simp)⟩) (by assumption) ?_
  (try simp only [Act.put, List.setIfInBounds_toArray, List.set_cons_zero, List.set_cons_succ])
  refine wpAnyH_take (i := 7) (oi := { dst := some 12, op := Op.load 3 (Operand.tmp 11), type := 3, pos := "record.go:125", after := #[{ on := 6, ground := Ground.data }], guard := none }) (v := .int .i64 x.ofs) rfl (by kernel_rfl) (by kernel_rfl) (by kernel_rfl) (fun _ _ _ h => h) (Or.inl ⟨by rfl, fun w' hSw => by ((try dsimp only at hSw); have := X1 _ hSw; go_simp)⟩) (by assumption) ?_
  (try simp only [Act.put, List.setIfInBounds_toArray, List.set_cons_zero, List.set_cons_succ])
  refine wpAnyH_ready (rs := [8]) (by kernel_rfl) (by simp) ?_
  refine AllReadyH.cons (o := { dst := some 13, op := Op.buildSlice 24 2 #[(0, Operand.tmp 10), (1, Operand.tmp 12)], type := 24, pos := "record.go:125", after := #[{ on := 5, ground := Ground.data }, { on := 7, ground := Ground.data }], guard := none }) rfl (fun K hK => ?_) ?_
  · go_simp
    refine hK.out _ _ ?_ (fun hHeld => ?_)
    · exact hx0.drew.alloc _
    clear hK K
    (try simp only [Act.put, List.setIfInBounds_toArray, List.set_cons_zero, List.set_cons_succ])
    refine wpAnyH_ready (rs := [9]) (by kernel_rfl) (by simp) ?_
    refine AllReadyH.cons (o := { dst := some 14, op := Op.call { callee := Callee.value (Operand.func 87), args := #[Operand.tmp 8, Operand.tmp 13], argTypes := #[116, 24] }, type := 0, pos := "record.go:125", after := #[{ on := 3, ground := Ground.data }, { on := 8, ground := Ground.data }], guard := none }) rfl (fun K hK => ?_) ?_
    · go_simp; go_at_call 87; refine (NU.out _ _ (by have := HP.out; simp; omega) (Bx.new _ _ _) (HW.out.1.drew.alloc _)).mono ?_; rintro e u ⟨rfl, hu⟩; have hxu := (hx0.drew.alloc (.cells #[.int .i64 x.pg, .int .i64 x.ofs] 3)).only hu.2 hne (by decide)
      refine hK.out _ _ ?_ (fun hHeld => ?_)
      · exact hxu
      clear hK K
      (try simp only [Act.put, List.setIfInBounds_toArray, List.set_cons_zero, List.set_cons_succ])
      refine wpAnyH_done (by kernel_rfl) ?_ _
      refine NoPanic.normal ?_
      have H1 := Lib.hid ((HW.out.drew.alloc (.cells #[.int .i64 x.pg, .int .i64 x.ofs] 3)).then hu)
      have HX1 := Lib.hid hxu
      clear hu hxu X0 X1 HX HW HP NU hHeld hx0
      go_upto_region 2 with fail
      have X2 := fun r (h : Bx r B #[.int .i64 x.pg, .int .i64 x.ofs, .string x.bs] 59) => h.cell 2
      simp at X2
      have hx0 := HX1.out
      have hw0 := H1.out.1.drew
      go_region_held3 (fun w' => Bx w' B #[.int .i64 x.pg, .int .i64 x.ofs, .string x.bs] 59) (first | assumption) (first
        | (go_at_call 90; refine (LO.out _ hw0).mono ?_; rintro e v ⟨rfl, hv⟩; have hxv := hx0.drew.only hv.2 hne (by decide)))
      all_goals go_wp2_with fail
      all_goals go_ret
      all_goals exact ⟨rfl, H1.out.drew.then hv⟩
    exact AllReadyH.nil
  exact AllReadyH.nil
set_option maxHeartbeats 1000000 in
theorem tx_w {C p n c : Nat} {A : Option Addr} (x : Tx) (l0 : BA) (w : World) (h : rightT x = true) (hpC : C ≤ p) (hr : IntsM C w A n x.pages) (hp : p < w.heap.size) (hw : Wr C w p l0 false) (hb : l0.length ≤ 480000) :
    Calls Tryz.prog 97 #[ptr p, txv x A n c] w fun e w' => e = .returned (ptr p) ∧ Wrote C p w (l0 ++ encT x) false w' := by
  obtain ⟨h1, h2, h3⟩ := rightT_iff.1 h
  have HE := Lib.hid (show l0 ++ encT x = (((l0 ++ w2 x.id) ++ w4 x.last) ++ encF x.com) ++ encL w2 x.pages from by unfold encT; simp only [List.append_assoc])
  rw [HE.out]
  have NU := Lib.hid (fun u (hu : Wr C u p l0 false) => num_w C p x.id l0 u h1 (by omega) hu)
  have LO := Lib.hid (fun u (hu : Wr C u p (l0 ++ w2 x.id) false) => long_w C p x.last _ u h2 (by simp only [List.length_append, w2_length]; omega) hu)
  have FL := Lib.hid (fun u (hu : Wr C u p ((l0 ++ w2 x.id) ++ w4 x.last) false) => flag_w C p x.com _ u (by simp only [List.length_append, w2_length, w4_length]; omega) hu)
  have PG := Lib.hid (fun u (hu : Wrote C p w (((l0 ++ w2 x.id) ++ w4 x.last) ++ encF x.com) false u) => pages_w (c := c) _ u hpC (hr.kept (hu.2.below hpC)) h3 hu.1 (by simp only [List.length_append, w2_length, w4_length, encF_length]; omega))
  have HX := Lib.hid (Bx.new w #[.int .i64 x.id, .int .i64 x.last, .bool x.com, .slice A n c] 61)
  have HW := Lib.hid (Wrote.start hw |>.alloc (.cells #[.int .i64 x.id, .int .i64 x.last, .bool x.com, .slice A n c] 61))
  have hne : w.heap.size ≠ p := by omega
  unfold txv
  clear h h1 h2 h3 hw hb hp hr hpC
  go_enter Tryz.func97, Tryz.ntmps97
  go_upto_region 1 with fail
  generalize w.alloc (.cells #[.int .i64 x.id, .int .i64 x.last, .bool x.com, .slice A n c] 61) = W at *
  obtain ⟨B, hB⟩ : ∃ B, B = w.heap.size := ⟨_, rfl⟩
  rw [← hB] at HX hne ⊢
  clear hB
  have X0 := fun r (h : Bx r B #[.int .i64 x.id, .int .i64 x.last, .bool x.com, .slice A n c] 61) => h.cell 0
  have X1 := fun r (h : Bx r B #[.int .i64 x.id, .int .i64 x.last, .bool x.com, .slice A n c] 61) => h.cell 1
  simp at X0 X1
  have hx0 := HX.out
  have hw0 := HW.out.1.drew
  go_region_held3 (fun w' => Bx w' B #[.int .i64 x.id, .int .i64 x.last, .bool x.com, .slice A n c] 61) (first | assumption) (first
    | (go_at_call 88; refine (NU.out _ hw0).mono ?_; rintro e u ⟨rfl, hu⟩; have hxu := hx0.drew.only hu.2 hne (by decide))
    | (go_at_call 89; refine (LO.out _ hu.1).mono ?_; rintro e v ⟨rfl, hv⟩; have hxv := hxu.only hv.2 hne (by decide)))
  have H1 := Lib.hid ((HW.out.drew.then hu).then hv)
  have x2 := hxv.cell 2
  have x3 := hxv.cell 3
  have HXV := Lib.hid hxv
  simp at x2 x3
  clear hu hv hxu hxv hw0 hx0 HW HX X0 X1 NU LO
  go_wp2_with fail
  refine (FL.out _ H1.out.1).mono ?_; rintro e u2 ⟨rfl, hu⟩
  have H2 := Lib.hid (H1.out.then hu)
  have x3 := (HXV.out.only hu.2 hne (by decide)).cell 3
  simp at x3
  clear hu x2
  go_wp2_with fail
  refine (PG.out _ H2.out).mono ?_; rintro e u3 ⟨rfl, hu⟩
  have H3 := Lib.hid (H2.out.then hu)
  clear hu x3
  go_wp2_with fail
  go_ret
  exact ⟨rfl, H3.out⟩
set_option maxHeartbeats 4000000 in
theorem record_w {C p : Nat} (r : Rc) (h : Hd) (l0 : BA) (w : World) (hR : RightR r) (hr : RcM C w r h) (hpC : C ≤ p) (hp : p < w.heap.size) (hw : Wr C w p l0 false) (hb : l0.length ≤ 100000) :
    Calls Tryz.prog 20 #[ptr p, rcv r h] w fun e w' => e = .returned (.tuple #[]) ∧ Wrote C p w (l0 ++ encR r) false w' := by
  have hsm := enc_small hR
  obtain ⟨kind, tx, prev, next, key, had, ⟨ok, ov, ob, oz⟩, pages, pts, txs, dys⟩ := r
  obtain ⟨⟨A1, n1, c1⟩, ⟨A2, n2, c2⟩, ⟨A3, n3, c3⟩, ⟨A4, n4, c4⟩⟩ := h
  obtain ⟨q1, q2, q3, q4, q5, q6, m1, m2, m3, m4⟩ := hr
  obtain ⟨k1, k2, k3, k4, k5, k6, k7, k8, k9, k10⟩ := hR
  simp only at q1 q2 q3 q4 q5 q6 m1 m2 m3 m4 k1 k2 k3 k4 k5 k6 k7 k8 k9 k10
  obtain ⟨o1, o2, o3, o4⟩ := rightO_in k6
  simp only at o1 o2 o3 o4
  obtain ⟨p1, p2⟩ := everyB_iff.1 k8
  obtain ⟨t1, t2⟩ := everyB_iff.1 k9
  obtain ⟨d1, d2⟩ := everyB_iff.1 k10
  obtain ⟨a1, e1⟩ : ∃ a, a = (l0 ++ w2 kind) ++ w2 tx := ⟨_, rfl⟩
  obtain ⟨a2, e2⟩ : ∃ a, a = (a1 ++ w4 prev) ++ w4 next := ⟨_, rfl⟩
  obtain ⟨a3, e3⟩ : ∃ a, a = a2 ++ encS key := ⟨_, rfl⟩
  obtain ⟨a4, e4⟩ : ∃ a, a = a3 ++ encF had := ⟨_, rfl⟩
  obtain ⟨a5, e5⟩ : ∃ a, a = (a4 ++ encS ok) ++ encS ov := ⟨_, rfl⟩
  obtain ⟨a6, e6⟩ : ∃ a, a = (a5 ++ w2 ob) ++ w2 oz := ⟨_, rfl⟩
  obtain ⟨a7, e7⟩ : ∃ a, a = a6 ++ encL w2 pages := ⟨_, rfl⟩
  obtain ⟨a8, e8⟩ : ∃ a, a = a7 ++ encL encP pts := ⟨_, rfl⟩
  obtain ⟨a9, e9⟩ : ∃ a, a = a8 ++ encL encT txs := ⟨_, rfl⟩
  obtain ⟨a10, e10⟩ : ∃ a, a = a9 ++ encL encD dys := ⟨_, rfl⟩
  have HE : l0 ++ encR ⟨kind, tx, prev, next, key, had, ⟨ok, ov, ob, oz⟩, pages, pts, txs, dys⟩ = a10 := by
    rw [e10, e9, e8, e7, e6, e5, e4, e3, e2, e1]
    unfold encR encC
    simp only [List.append_assoc]
  have hlen : a10.length ≤ 120000 := by rw [← HE, List.length_append]; omega
  rw [HE]
  clear HE hsm
  have hl9 : a9.length ≤ 120000 := by have := congrArg List.length e10; simp only [List.length_append] at this; omega
  have hl8 : a8.length ≤ 120000 := by have := congrArg List.length e9; simp only [List.length_append] at this; omega
  have hl7 : a7.length ≤ 120000 := by have := congrArg List.length e8; simp only [List.length_append] at this; omega
  have hl6 : a6.length ≤ 120000 := by have := congrArg List.length e7; simp only [List.length_append] at this; omega
  have hl5 : a5.length ≤ 120000 := by have := congrArg List.length e6; simp only [List.length_append] at this; omega
  have hl4 : a4.length ≤ 120000 := by have := congrArg List.length e5; simp only [List.length_append] at this; omega
  have hl3 : a3.length ≤ 120000 := by have := congrArg List.length e4; simp only [List.length_append] at this; omega
  have hl2 : a2.length ≤ 120000 := by have := congrArg List.length e3; simp only [List.length_append] at this; omega
  have hl1 : a1.length ≤ 120000 := by have := congrArg List.length e2; simp only [List.length_append] at this; omega
  have hl0 : l0.length ≤ 120000 := by have := congrArg List.length e1; simp only [List.length_append] at this; omega
  have N1 := Lib.hid (fun u B (hB : B ≠ p) (hx : Bx u B #[.int .i64 kind, .int .i64 tx] 3) (hu : Wr C u p l0 false) => nums_w (c := 2) l0 u (two_iff.2 ⟨by omega, by omega⟩) k2 hB hx hu (by omega))
  have N2 := Lib.hid (fun u B (hB : B ≠ p) (hx : Bx u B #[.int .i64 prev, .int .i64 next] 3) (hu : Wr C u p a1 false) => longs_w (c := 2) a1 u k3 k4 hB hx hu (by omega))
  have N3 := Lib.hid (fun u (hu : Wr C u p a2 false) => text_w C p key a2 u (by omega) (by omega) hu)
  have N4 := Lib.hid (fun u (hu : Wr C u p a3 false) => flag_w C p had a3 u (by omega) hu)
  have N5 := Lib.hid (fun u B (hB : B ≠ p) (hx : Bx u B #[.string ok, .string ov] 9) (hu : Wr C u p a4 false) => texts_w (c := 2) a4 u (by omega) (by omega) hB hx hu (by omega))
  have N6 := Lib.hid (fun u B (hB : B ≠ p) (hx : Bx u B #[.int .i64 ob, .int .i64 oz] 3) (hu : Wr C u p a5 false) => nums_w (c := 2) a5 u o3 o4 hB hx hu (by omega))
  have N7 := Lib.hid (fun u (hu : Wrote C p w a6 false u) => pages_w (c := c1) a6 u hpC (m1.kept (hu.2.below hpC)) k7 hu.1 (by omega))
  have N8 := Lib.hid (fun u (hu : Wrote C p w a7 false u) => countedP_is (M := 480000) (c := c2) encP a7 u m2.1 (by have := m2.1; omega) hpC (m2.kept (hu.2.below hpC)) hu.1 (by omega) (by have := congrArg List.length e8; simp only [List.length_append] at this; omega) (fun x hx l1 w1 hl hw1 _ => patch_w x l1 w1 (p2 x hx) hw1.lt hw1 (by have := encP_length x; omega)))
  have N9 := Lib.hid (fun u (hu : Wrote C p w a8 false u) => countedT_is (M := 480000) (c := c3) encT a8 u m3.1 (by have := m3.1; omega) hpC (m3.kept (hu.2.below hpC)) hu.1 (by omega) (by have := congrArg List.length e9; simp only [List.length_append] at this; omega) (fun x hx l1 w1 hl hw1 _ A n c hin => tx_w x l1 w1 (t2 x hx) hpC hin hw1.lt hw1 (by have := encT_length x; omega)))
  have N10 := Lib.hid (fun u (hu : Wrote C p w a9 false u) => countedD_is (M := 480000) (c := c4) encD a9 u m4.1 (by have := m4.1; omega) hpC (m4.kept (hu.2.below hpC)) hu.1 (by omega) (by have := congrArg List.length e10; simp only [List.length_append] at this; omega) (fun x hx l1 w1 hl hw1 _ => dirty_w x l1 w1 (d2 x hx) hw1.lt hw1 (by have := encD_length x; omega)))
  rw [← e1] at N1
  rw [← e2] at N2
  rw [← e3] at N3
  rw [← e4] at N4
  rw [← e5] at N5
  rw [← e6] at N6
  rw [← e7] at N7
  rw [← e8] at N8
  rw [← e9] at N9
  rw [← e10] at N10
  have HX := Lib.hid (Bx.new w #[.int .i64 kind, .int .i64 tx, .int .i64 prev, .int .i64 next, .string key, .bool had, .string ok, .string ov, .int .i64 ob, .int .i64 oz, .slice A1 n1 c1, .slice A2 n2 c2, .slice A3 n3 c3, .slice A4 n4 c4] 29)
  have H0 := Lib.hid (Wrote.start hw |>.alloc (.cells #[.int .i64 kind, .int .i64 tx, .int .i64 prev, .int .i64 next, .string key, .bool had, .string ok, .string ov, .int .i64 ob, .int .i64 oz, .slice A1 n1 c1, .slice A2 n2 c2, .slice A3 n3 c3, .slice A4 n4 c4] 29))
  have hne : w.heap.size ≠ p := by omega
  unfold rcv
  dsimp only
  clear hw hb hp m1 m2 m3 m4 k1 k2 k3 k4 k5 k6 k7 k8 k9 k10 q1 q2 q3 q4 q5 q6 p1 p2 t1 t2 d1 d2 o1 o2 o3 o4 hpC hlen e1 e2 e3 e4 e5 e6 e7 e8 e9 e10 hl0 hl1 hl2 hl3 hl4 hl5 hl6 hl7 hl8 hl9
  go_enter Tryz.func20, Tryz.ntmps20
  go_upto_region 1 with fail
  generalize w.alloc (.cells #[.int .i64 kind, .int .i64 tx, .int .i64 prev, .int .i64 next, .string key, .bool had, .string ok, .string ov, .int .i64 ob, .int .i64 oz, .slice A1 n1 c1, .slice A2 n2 c2, .slice A3 n3 c3, .slice A4 n4 c4] 29) = u0 at *
  obtain ⟨B, hB⟩ : ∃ B, B = w.heap.size := ⟨_, rfl⟩
  rw [← hB] at HX hne ⊢
  clear hB
  have HX0 := HX
  clear HX
  have X0 := fun r (h : Bx r B #[.int .i64 kind, .int .i64 tx, .int .i64 prev, .int .i64 next, .string key, .bool had, .string ok, .string ov, .int .i64 ob, .int .i64 oz, .slice A1 n1 c1, .slice A2 n2 c2, .slice A3 n3 c3, .slice A4 n4 c4] 29) => (h.cell 0).trans (show (#[.int .i64 kind, .int .i64 tx, .int .i64 prev, .int .i64 next, .string key, .bool had, .string ok, .string ov, .int .i64 ob, .int .i64 oz, .slice A1 n1 c1, .slice A2 n2 c2, .slice A3 n3 c3, .slice A4 n4 c4] : Array Value)[0]? = some (.int .i64 kind) from rfl)
  have X1 := fun r (h : Bx r B #[.int .i64 kind, .int .i64 tx, .int .i64 prev, .int .i64 next, .string key, .bool had, .string ok, .string ov, .int .i64 ob, .int .i64 oz, .slice A1 n1 c1, .slice A2 n2 c2, .slice A3 n3 c3, .slice A4 n4 c4] 29) => (h.cell 1).trans (show (#[.int .i64 kind, .int .i64 tx, .int .i64 prev, .int .i64 next, .string key, .bool had, .string ok, .string ov, .int .i64 ob, .int .i64 oz, .slice A1 n1 c1, .slice A2 n2 c2, .slice A3 n3 c3, .slice A4 n4 c4] : Array Value)[1]? = some (.int .i64 tx) from rfl)
  have hx0 := HX0.out
  have hp0 := H0.out.1.lt
  refine wp_region_noPanic ?_
  refine wp_region_held_drew (S := fun w' => Bx w' B #[.int .i64 kind, .int .i64 tx, .int .i64 prev, .int .i64 next, .string key, .bool had, .string ok, .string ov, .int .i64 ob, .int .i64 oz, .slice A1 n1 c1, .slice A2 n2 c2, .slice A3 n3 c3, .slice A4 n4 c4] 29) (by kernel_rfl) ?_ (fun hHeld => ?_)
  · exact hx0.drew
  refine wpAnyH_take (i := 0) (oi := { dst := some 4, op := Op.move (Operand.tmp 0), type := 62, pos := "record.go:110", after := #[], guard := none }) (v := .pointer (some ⟨p, 0, none⟩)) rfl (by kernel_rfl) (by kernel_rfl) (by kernel_rfl) (fun _ _ _ h => h) (Or.inl ⟨by rfl, fun w' hSw => by ((try dsimp only at hSw); go_simp)⟩) (by assumption) ?_
  (try simp only [Act.put, List.setIfInBounds_toArray, List.set_cons_zero, List.set_cons_succ])
  refine wpAnyH_take (i := 1) (oi := { dst := some 5, op := Op.nilCheck (Operand.tmp 4), type := 0, pos := "record.go:110", after := #[{ on := 0, ground := Ground.data }], guard := none }) (v := .pointer (some ⟨p, 0, none⟩)) rfl (by kernel_rfl) (by kernel_rfl) (by kernel_rfl) (fun _ _ _ h => h) (Or.inl ⟨by rfl, fun w' hSw => by ((try dsimp only at hSw); go_simp)⟩) (by assumption) ?_
  (try simp only [Act.put, List.setIfInBounds_toArray, List.set_cons_zero, List.set_cons_succ])
  refine wpAnyH_take (i := 2) (oi := { dst := some 6, op := Op.fieldAddr 67 (Operand.tmp 5) 0, type := 0, pos := "record.go:110", after := #[{ on := 1, ground := Ground.data }], guard := none }) (v := .pointer (some ⟨p, 0, none⟩)) rfl (by kernel_rfl) (by kernel_rfl) (by kernel_rfl) (fun _ _ _ h => h) (Or.inl ⟨by rfl, fun w' hSw => by ((try dsimp only at hSw); go_simp)⟩) (by assumption) ?_
  (try simp only [Act.put, List.setIfInBounds_toArray, List.set_cons_zero, List.set_cons_succ])
  refine wpAnyH_take (i := 3) (oi := { dst := some 7, op := Op.makeFunc (Go.Fn.func 88) #[Operand.tmp 6] #[], type := 116, pos := "record.go:110", after := #[{ on := 2, ground := Ground.data }], guard := none }) (v := .func (.func 88) #[.pointer (some ⟨p, 0, none⟩)] #[]) rfl (by kernel_rfl) (by kernel_rfl) (by kernel_rfl) (fun _ _ _ h => h) (Or.inl ⟨by rfl, fun w' hSw => by ((try dsimp only at hSw); go_simp)⟩) (by assumption) ?_
  (try simp only [Act.put, List.setIfInBounds_toArray, List.set_cons_zero, List.set_cons_succ])
  refine wpAnyH_take (i := 4) (oi := { dst := some 8, op := Op.fieldAddr 29 (Operand.tmp 3) 0, type := 0, pos := "record.go:110", after := #[], guard := none }) (v := .pointer (some ⟨B, 0, none⟩)) rfl (by kernel_rfl) (by kernel_rfl) (by kernel_rfl) (fun _ _ _ h => h) (Or.inl ⟨by rfl, fun w' hSw => by ((try dsimp only at hSw); go_simp)⟩) (by assumption) ?_
  (try simp only [Act.put, List.setIfInBounds_toArray, List.set_cons_zero, List.set_cons_succ])
  refine wpAnyH_take (i := 5) (oi := { dst := some 9, op := Op.load 3 (Operand.tmp 8), type := 3, pos := "record.go:110", after := #[{ on := 4, ground := Ground.data }], guard := none }) (v := .int .i64 kind) rfl (by kernel_rfl) (by kernel_rfl) (by kernel_rfl) (fun _ _ _ h => h) (Or.inl ⟨by rfl, fun w' hSw => by ((try dsimp only at hSw); have := X0 _ hSw; go_simp)⟩) (by assumption) ?_
  (try simp only [Act.put, List.setIfInBounds_toArray, List.set_cons_zero, List.set_cons_succ])
  refine wpAnyH_take (i := 6) (oi := { dst := some 10, op := Op.fieldAddr 29 (Operand.tmp 3) 1, type := 0, pos := "record.go:110", after := #[], guard := none }) (v := .pointer (some ⟨B, 1, none⟩)) rfl (by kernel_rfl) (by kernel_rfl) (by kernel_rfl) (fun _ _ _ h => h) (Or.inl ⟨by rfl, fun w' hSw => by ((try dsimp only at hSw); go_simp)⟩) (by assumption) ?_
  (try simp only [Act.put, List.setIfInBounds_toArray, List.set_cons_zero, List.set_cons_succ])
  refine wpAnyH_take (i := 7) (oi := { dst := some 11, op := Op.load 3 (Operand.tmp 10), type := 3, pos := "record.go:110", after := #[{ on := 6, ground := Ground.data }], guard := none }) (v := .int .i64 tx) rfl (by kernel_rfl) (by kernel_rfl) (by kernel_rfl) (fun _ _ _ h => h) (Or.inl ⟨by rfl, fun w' hSw => by ((try dsimp only at hSw); have := X1 _ hSw; go_simp)⟩) (by assumption) ?_
  (try simp only [Act.put, List.setIfInBounds_toArray, List.set_cons_zero, List.set_cons_succ])
  refine wpAnyH_ready (rs := [8]) (by kernel_rfl) (by simp) ?_
  refine AllReadyH.cons (o := { dst := some 12, op := Op.buildSlice 24 2 #[(0, Operand.tmp 9), (1, Operand.tmp 11)], type := 24, pos := "record.go:110", after := #[{ on := 5, ground := Ground.data }, { on := 7, ground := Ground.data }], guard := none }) rfl (fun K hK => ?_) ?_
  · go_simp
    refine hK.out _ _ ?_ (fun hHeld => ?_)
    · exact hx0.drew.alloc _
    clear hK K
    (try simp only [Act.put, List.setIfInBounds_toArray, List.set_cons_zero, List.set_cons_succ])
    refine wpAnyH_ready (rs := [9]) (by kernel_rfl) (by simp) ?_
    refine AllReadyH.cons (o := { dst := some 13, op := Op.call { callee := Callee.value (Operand.func 87), args := #[Operand.tmp 7, Operand.tmp 12], argTypes := #[116, 24] }, type := 0, pos := "record.go:110", after := #[{ on := 3, ground := Ground.data }, { on := 8, ground := Ground.data }], guard := none }) rfl (fun K hK => ?_) ?_
    · go_simp; go_at_call 87; refine (N1.out _ _ (by simp; omega) (Bx.new _ _ _) (H0.out.1.drew.alloc _)).mono ?_; rintro e u1 ⟨rfl, hu⟩; have hxu := (hx0.drew.alloc (.cells #[.int .i64 kind, .int .i64 tx] 3)).only hu.2 hne (by decide)
      refine hK.out _ _ ?_ (fun hHeld => ?_)
      · exact hxu
      clear hK K
      (try simp only [Act.put, List.setIfInBounds_toArray, List.set_cons_zero, List.set_cons_succ])
      refine wpAnyH_done (by kernel_rfl) ?_ _
      refine NoPanic.normal ?_
      have H1 := Lib.hid ((H0.out.drew.alloc (.cells #[.int .i64 kind, .int .i64 tx] 3)).then hu)
      have HX1 := Lib.hid hxu
      clear hu hxu hHeld hx0 hp0 H0 HX0 N1 X0 X1
      go_upto_region 2 with fail
      have X2 := fun r (h : Bx r B #[.int .i64 kind, .int .i64 tx, .int .i64 prev, .int .i64 next, .string key, .bool had, .string ok, .string ov, .int .i64 ob, .int .i64 oz, .slice A1 n1 c1, .slice A2 n2 c2, .slice A3 n3 c3, .slice A4 n4 c4] 29) => (h.cell 2).trans (show (#[.int .i64 kind, .int .i64 tx, .int .i64 prev, .int .i64 next, .string key, .bool had, .string ok, .string ov, .int .i64 ob, .int .i64 oz, .slice A1 n1 c1, .slice A2 n2 c2, .slice A3 n3 c3, .slice A4 n4 c4] : Array Value)[2]? = some (.int .i64 prev) from rfl)
      have X3 := fun r (h : Bx r B #[.int .i64 kind, .int .i64 tx, .int .i64 prev, .int .i64 next, .string key, .bool had, .string ok, .string ov, .int .i64 ob, .int .i64 oz, .slice A1 n1 c1, .slice A2 n2 c2, .slice A3 n3 c3, .slice A4 n4 c4] 29) => (h.cell 3).trans (show (#[.int .i64 kind, .int .i64 tx, .int .i64 prev, .int .i64 next, .string key, .bool had, .string ok, .string ov, .int .i64 ob, .int .i64 oz, .slice A1 n1 c1, .slice A2 n2 c2, .slice A3 n3 c3, .slice A4 n4 c4] : Array Value)[3]? = some (.int .i64 next) from rfl)
      have hx0 := HX1.out
      have hp0 := H1.out.1.lt
      refine wp_region_noPanic ?_
      refine wp_region_held_drew (S := fun w' => Bx w' B #[.int .i64 kind, .int .i64 tx, .int .i64 prev, .int .i64 next, .string key, .bool had, .string ok, .string ov, .int .i64 ob, .int .i64 oz, .slice A1 n1 c1, .slice A2 n2 c2, .slice A3 n3 c3, .slice A4 n4 c4] 29) (by kernel_rfl) ?_ (fun hHeld => ?_)
      · exact hx0.drew
      refine wpAnyH_take (i := 0) (oi := { dst := some 14, op := Op.move (Operand.tmp 0), type := 62, pos := "record.go:111", after := #[], guard := none }) (v := .pointer (some ⟨p, 0, none⟩)) rfl (by kernel_rfl) (by kernel_rfl) (by kernel_rfl) (fun _ _ _ h => h) (Or.inl ⟨by rfl, fun w' hSw => by ((try dsimp only at hSw); go_simp)⟩) (by assumption) ?_
      (try simp only [Act.put, List.setIfInBounds_toArray, List.set_cons_zero, List.set_cons_succ])
      refine wpAnyH_take (i := 1) (oi := { dst := some 15, op := Op.nilCheck (Operand.tmp 14), type := 0, pos := "record.go:111", after := #[{ on := 0, ground := Ground.data }], guard := none }) (v := .pointer (some ⟨p, 0, none⟩)) rfl (by kernel_rfl) (by kernel_rfl) (by kernel_rfl) (fun _ _ _ h => h) (Or.inl ⟨by rfl, fun w' hSw => by ((try dsimp only at hSw); go_simp)⟩) (by assumption) ?_
      (try simp only [Act.put, List.setIfInBounds_toArray, List.set_cons_zero, List.set_cons_succ])
      refine wpAnyH_take (i := 2) (oi := { dst := some 16, op := Op.fieldAddr 67 (Operand.tmp 15) 0, type := 0, pos := "record.go:111", after := #[{ on := 1, ground := Ground.data }], guard := none }) (v := .pointer (some ⟨p, 0, none⟩)) rfl (by kernel_rfl) (by kernel_rfl) (by kernel_rfl) (fun _ _ _ h => h) (Or.inl ⟨by rfl, fun w' hSw => by ((try dsimp only at hSw); go_simp)⟩) (by assumption) ?_
      (try simp only [Act.put, List.setIfInBounds_toArray, List.set_cons_zero, List.set_cons_succ])
      refine wpAnyH_take (i := 3) (oi := { dst := some 17, op := Op.makeFunc (Go.Fn.func 89) #[Operand.tmp 16] #[], type := 116, pos := "record.go:111", after := #[{ on := 2, ground := Ground.data }], guard := none }) (v := .func (.func 89) #[.pointer (some ⟨p, 0, none⟩)] #[]) rfl (by kernel_rfl) (by kernel_rfl) (by kernel_rfl) (fun _ _ _ h => h) (Or.inl ⟨by rfl, fun w' hSw => by ((try dsimp only at hSw); go_simp)⟩) (by assumption) ?_
      (try simp only [Act.put, List.setIfInBounds_toArray, List.set_cons_zero, List.set_cons_succ])
      refine wpAnyH_take (i := 4) (oi := { dst := some 18, op := Op.fieldAddr 29 (Operand.tmp 3) 2, type := 0, pos := "record.go:111", after := #[], guard := none }) (v := .pointer (some ⟨B, 2, none⟩)) rfl (by kernel_rfl) (by kernel_rfl) (by kernel_rfl) (fun _ _ _ h => h) (Or.inl ⟨by rfl, fun w' hSw => by ((try dsimp only at hSw); go_simp)⟩) (by assumption) ?_
      (try simp only [Act.put, List.setIfInBounds_toArray, List.set_cons_zero, List.set_cons_succ])
      refine wpAnyH_take (i := 5) (oi := { dst := some 19, op := Op.load 3 (Operand.tmp 18), type := 3, pos := "record.go:111", after := #[{ on := 4, ground := Ground.data }], guard := none }) (v := .int .i64 prev) rfl (by kernel_rfl) (by kernel_rfl) (by kernel_rfl) (fun _ _ _ h => h) (Or.inl ⟨by rfl, fun w' hSw => by ((try dsimp only at hSw); have := X2 _ hSw; go_simp)⟩) (by assumption) ?_
      (try simp only [Act.put, List.setIfInBounds_toArray, List.set_cons_zero, List.set_cons_succ])
      refine wpAnyH_take (i := 6) (oi := { dst := some 20, op := Op.fieldAddr 29 (Operand.tmp 3) 3, type := 0, pos := "record.go:111", after := #[], guard := none }) (v := .pointer (some ⟨B, 3, none⟩)) rfl (by kernel_rfl) (by kernel_rfl) (by kernel_rfl) (fun _ _ _ h => h) (Or.inl ⟨by rfl, fun w' hSw => by ((try dsimp only at hSw); go_simp)⟩) (by assumption) ?_
      (try simp only [Act.put, List.setIfInBounds_toArray, List.set_cons_zero, List.set_cons_succ])
      refine wpAnyH_take (i := 7) (oi := { dst := some 21, op := Op.load 3 (Operand.tmp 20), type := 3, pos := "record.go:111", after := #[{ on := 6, ground := Ground.data }], guard := none }) (v := .int .i64 next) rfl (by kernel_rfl) (by kernel_rfl) (by kernel_rfl) (fun _ _ _ h => h) (Or.inl ⟨by rfl, fun w' hSw => by ((try dsimp only at hSw); have := X3 _ hSw; go_simp)⟩) (by assumption) ?_
      (try simp only [Act.put, List.setIfInBounds_toArray, List.set_cons_zero, List.set_cons_succ])
      refine wpAnyH_ready (rs := [8]) (by kernel_rfl) (by simp) ?_
      refine AllReadyH.cons (o := { dst := some 22, op := Op.buildSlice 24 2 #[(0, Operand.tmp 19), (1, Operand.tmp 21)], type := 24, pos := "record.go:111", after := #[{ on := 5, ground := Ground.data }, { on := 7, ground := Ground.data }], guard := none }) rfl (fun K hK => ?_) ?_
      · go_simp
        refine hK.out _ _ ?_ (fun hHeld => ?_)
        · exact hx0.drew.alloc _
        clear hK K
        (try simp only [Act.put, List.setIfInBounds_toArray, List.set_cons_zero, List.set_cons_succ])
        refine wpAnyH_ready (rs := [9]) (by kernel_rfl) (by simp) ?_
        refine AllReadyH.cons (o := { dst := some 23, op := Op.call { callee := Callee.value (Operand.func 87), args := #[Operand.tmp 17, Operand.tmp 22], argTypes := #[116, 24] }, type := 0, pos := "record.go:111", after := #[{ on := 3, ground := Ground.data }, { on := 8, ground := Ground.data }], guard := none }) rfl (fun K hK => ?_) ?_
        · go_simp; go_at_call 87; refine (N2.out _ _ (by simp; omega) (Bx.new _ _ _) (H1.out.1.drew.alloc _)).mono ?_; rintro e u2 ⟨rfl, hu⟩; have hxu := (hx0.drew.alloc (.cells #[.int .i64 prev, .int .i64 next] 3)).only hu.2 hne (by decide)
          refine hK.out _ _ ?_ (fun hHeld => ?_)
          · exact hxu
          clear hK K
          (try simp only [Act.put, List.setIfInBounds_toArray, List.set_cons_zero, List.set_cons_succ])
          refine wpAnyH_done (by kernel_rfl) ?_ _
          refine NoPanic.normal ?_
          have H2 := Lib.hid ((H1.out.drew.alloc (.cells #[.int .i64 prev, .int .i64 next] 3)).then hu)
          have HX2 := Lib.hid hxu
          clear hu hxu hHeld hx0 hp0 H1 HX1 N2 X2 X3
          go_upto_region 3 with fail
          have X4 := fun r (h : Bx r B #[.int .i64 kind, .int .i64 tx, .int .i64 prev, .int .i64 next, .string key, .bool had, .string ok, .string ov, .int .i64 ob, .int .i64 oz, .slice A1 n1 c1, .slice A2 n2 c2, .slice A3 n3 c3, .slice A4 n4 c4] 29) => (h.cell 4).trans (show (#[.int .i64 kind, .int .i64 tx, .int .i64 prev, .int .i64 next, .string key, .bool had, .string ok, .string ov, .int .i64 ob, .int .i64 oz, .slice A1 n1 c1, .slice A2 n2 c2, .slice A3 n3 c3, .slice A4 n4 c4] : Array Value)[4]? = some (.string key) from rfl)
          have hx0 := HX2.out
          have hw0 := H2.out.1.drew
          go_region_held3 (fun w' => Bx w' B #[.int .i64 kind, .int .i64 tx, .int .i64 prev, .int .i64 next, .string key, .bool had, .string ok, .string ov, .int .i64 ob, .int .i64 oz, .slice A1 n1 c1, .slice A2 n2 c2, .slice A3 n3 c3, .slice A4 n4 c4] 29) (first | assumption) (first
            | (go_at_call 90; refine (N3.out _ hw0).mono ?_; rintro e u3 ⟨rfl, hu⟩; have hxu := hx0.drew.only hu.2 hne (by decide)))
          have H3 := Lib.hid (H2.out.drew.then hu)
          have HX3 := Lib.hid hxu
          clear hu hxu hx0 hw0 H2 HX2 N3 X4
          have x5 := (HX3.out.cell 5).trans (show (#[.int .i64 kind, .int .i64 tx, .int .i64 prev, .int .i64 next, .string key, .bool had, .string ok, .string ov, .int .i64 ob, .int .i64 oz, .slice A1 n1 c1, .slice A2 n2 c2, .slice A3 n3 c3, .slice A4 n4 c4] : Array Value)[5]? = some (.bool had) from rfl)
          go_wp2_with fail
          refine (N4.out _ H3.out.1).mono ?_; rintro e u4 ⟨rfl, hu⟩
          have H4 := Lib.hid (H3.out.then hu)
          have HX4 := Lib.hid (HX3.out.only hu.2 hne (by decide))
          clear hu x5 H3 HX3 N4
          go_upto_region 5 with fail
          have X6 := fun r (h : Bx r B #[.int .i64 kind, .int .i64 tx, .int .i64 prev, .int .i64 next, .string key, .bool had, .string ok, .string ov, .int .i64 ob, .int .i64 oz, .slice A1 n1 c1, .slice A2 n2 c2, .slice A3 n3 c3, .slice A4 n4 c4] 29) => (h.cell 6).trans (show (#[.int .i64 kind, .int .i64 tx, .int .i64 prev, .int .i64 next, .string key, .bool had, .string ok, .string ov, .int .i64 ob, .int .i64 oz, .slice A1 n1 c1, .slice A2 n2 c2, .slice A3 n3 c3, .slice A4 n4 c4] : Array Value)[6]? = some (.string ok) from rfl)
          have X7 := fun r (h : Bx r B #[.int .i64 kind, .int .i64 tx, .int .i64 prev, .int .i64 next, .string key, .bool had, .string ok, .string ov, .int .i64 ob, .int .i64 oz, .slice A1 n1 c1, .slice A2 n2 c2, .slice A3 n3 c3, .slice A4 n4 c4] 29) => (h.cell 7).trans (show (#[.int .i64 kind, .int .i64 tx, .int .i64 prev, .int .i64 next, .string key, .bool had, .string ok, .string ov, .int .i64 ob, .int .i64 oz, .slice A1 n1 c1, .slice A2 n2 c2, .slice A3 n3 c3, .slice A4 n4 c4] : Array Value)[7]? = some (.string ov) from rfl)
          have hx0 := HX4.out
          have hp0 := H4.out.1.lt
          refine wp_region_noPanic ?_
          refine wp_region_held_drew (S := fun w' => Bx w' B #[.int .i64 kind, .int .i64 tx, .int .i64 prev, .int .i64 next, .string key, .bool had, .string ok, .string ov, .int .i64 ob, .int .i64 oz, .slice A1 n1 c1, .slice A2 n2 c2, .slice A3 n3 c3, .slice A4 n4 c4] 29) (by kernel_rfl) ?_ (fun hHeld => ?_)
          · exact hx0.drew
          refine wpAnyH_take (i := 0) (oi := { dst := some 34, op := Op.move (Operand.tmp 0), type := 62, pos := "record.go:114", after := #[], guard := none }) (v := .pointer (some ⟨p, 0, none⟩)) rfl (by kernel_rfl) (by kernel_rfl) (by kernel_rfl) (fun _ _ _ h => h) (Or.inl ⟨by rfl, fun w' hSw => by ((try dsimp only at hSw); go_simp)⟩) (by assumption) ?_
          (try simp only [Act.put, List.setIfInBounds_toArray, List.set_cons_zero, List.set_cons_succ])
          refine wpAnyH_take (i := 1) (oi := { dst := some 35, op := Op.nilCheck (Operand.tmp 34), type := 0, pos := "record.go:114", after := #[{ on := 0, ground := Ground.data }], guard := none }) (v := .pointer (some ⟨p, 0, none⟩)) rfl (by kernel_rfl) (by kernel_rfl) (by kernel_rfl) (fun _ _ _ h => h) (Or.inl ⟨by rfl, fun w' hSw => by ((try dsimp only at hSw); go_simp)⟩) (by assumption) ?_
          (try simp only [Act.put, List.setIfInBounds_toArray, List.set_cons_zero, List.set_cons_succ])
          refine wpAnyH_take (i := 2) (oi := { dst := some 36, op := Op.fieldAddr 67 (Operand.tmp 35) 0, type := 0, pos := "record.go:114", after := #[{ on := 1, ground := Ground.data }], guard := none }) (v := .pointer (some ⟨p, 0, none⟩)) rfl (by kernel_rfl) (by kernel_rfl) (by kernel_rfl) (fun _ _ _ h => h) (Or.inl ⟨by rfl, fun w' hSw => by ((try dsimp only at hSw); go_simp)⟩) (by assumption) ?_
          (try simp only [Act.put, List.setIfInBounds_toArray, List.set_cons_zero, List.set_cons_succ])
          refine wpAnyH_take (i := 3) (oi := { dst := some 37, op := Op.makeFunc (Go.Fn.func 90) #[Operand.tmp 36] #[], type := 118, pos := "record.go:114", after := #[{ on := 2, ground := Ground.data }], guard := none }) (v := .func (.func 90) #[.pointer (some ⟨p, 0, none⟩)] #[]) rfl (by kernel_rfl) (by kernel_rfl) (by kernel_rfl) (fun _ _ _ h => h) (Or.inl ⟨by rfl, fun w' hSw => by ((try dsimp only at hSw); go_simp)⟩) (by assumption) ?_
          (try simp only [Act.put, List.setIfInBounds_toArray, List.set_cons_zero, List.set_cons_succ])
          refine wpAnyH_take (i := 4) (oi := { dst := some 38, op := Op.fieldAddr 29 (Operand.tmp 3) 6, type := 0, pos := "record.go:114", after := #[], guard := none }) (v := .pointer (some ⟨B, 6, none⟩)) rfl (by kernel_rfl) (by kernel_rfl) (by kernel_rfl) (fun _ _ _ h => h) (Or.inl ⟨by rfl, fun w' hSw => by ((try dsimp only at hSw); go_simp)⟩) (by assumption) ?_
          (try simp only [Act.put, List.setIfInBounds_toArray, List.set_cons_zero, List.set_cons_succ])
          refine wpAnyH_take (i := 5) (oi := { dst := some 39, op := Op.fieldAddr 23 (Operand.tmp 38) 0, type := 0, pos := "record.go:114", after := #[{ on := 4, ground := Ground.data }], guard := none }) (v := .pointer (some ⟨B, 6, none⟩)) rfl (by kernel_rfl) (by kernel_rfl) (by kernel_rfl) (fun _ _ _ h => h) (Or.inl ⟨by rfl, fun w' hSw => by ((try dsimp only at hSw); go_simp)⟩) (by assumption) ?_
          (try simp only [Act.put, List.setIfInBounds_toArray, List.set_cons_zero, List.set_cons_succ])
          refine wpAnyH_take (i := 6) (oi := { dst := some 40, op := Op.load 9 (Operand.tmp 39), type := 9, pos := "record.go:114", after := #[{ on := 5, ground := Ground.data }], guard := none }) (v := .string ok) rfl (by kernel_rfl) (by kernel_rfl) (by kernel_rfl) (fun _ _ _ h => h) (Or.inl ⟨by rfl, fun w' hSw => by ((try dsimp only at hSw); have := X6 _ hSw; go_simp)⟩) (by assumption) ?_
          (try simp only [Act.put, List.setIfInBounds_toArray, List.set_cons_zero, List.set_cons_succ])
          refine wpAnyH_take (i := 7) (oi := { dst := some 41, op := Op.fieldAddr 29 (Operand.tmp 3) 6, type := 0, pos := "record.go:114", after := #[], guard := none }) (v := .pointer (some ⟨B, 6, none⟩)) rfl (by kernel_rfl) (by kernel_rfl) (by kernel_rfl) (fun _ _ _ h => h) (Or.inl ⟨by rfl, fun w' hSw => by ((try dsimp only at hSw); go_simp)⟩) (by assumption) ?_
          (try simp only [Act.put, List.setIfInBounds_toArray, List.set_cons_zero, List.set_cons_succ])
          refine wpAnyH_take (i := 8) (oi := { dst := some 42, op := Op.fieldAddr 23 (Operand.tmp 41) 1, type := 0, pos := "record.go:114", after := #[{ on := 7, ground := Ground.data }], guard := none }) (v := .pointer (some ⟨B, 7, none⟩)) rfl (by kernel_rfl) (by kernel_rfl) (by kernel_rfl) (fun _ _ _ h => h) (Or.inl ⟨by rfl, fun w' hSw => by ((try dsimp only at hSw); go_simp)⟩) (by assumption) ?_
          (try simp only [Act.put, List.setIfInBounds_toArray, List.set_cons_zero, List.set_cons_succ])
          refine wpAnyH_take (i := 9) (oi := { dst := some 43, op := Op.load 9 (Operand.tmp 42), type := 9, pos := "record.go:114", after := #[{ on := 8, ground := Ground.data }], guard := none }) (v := .string ov) rfl (by kernel_rfl) (by kernel_rfl) (by kernel_rfl) (fun _ _ _ h => h) (Or.inl ⟨by rfl, fun w' hSw => by ((try dsimp only at hSw); have := X7 _ hSw; go_simp)⟩) (by assumption) ?_
          (try simp only [Act.put, List.setIfInBounds_toArray, List.set_cons_zero, List.set_cons_succ])
          refine wpAnyH_ready (rs := [10]) (by kernel_rfl) (by simp) ?_
          refine AllReadyH.cons (o := { dst := some 44, op := Op.buildSlice 34 2 #[(0, Operand.tmp 40), (1, Operand.tmp 43)], type := 34, pos := "record.go:114", after := #[{ on := 6, ground := Ground.data }, { on := 9, ground := Ground.data }], guard := none }) rfl (fun K hK => ?_) ?_
          · go_simp
            refine hK.out _ _ ?_ (fun hHeld => ?_)
            · exact hx0.drew.alloc _
            clear hK K
            (try simp only [Act.put, List.setIfInBounds_toArray, List.set_cons_zero, List.set_cons_succ])
            refine wpAnyH_ready (rs := [11]) (by kernel_rfl) (by simp) ?_
            refine AllReadyH.cons (o := { dst := some 45, op := Op.call { callee := Callee.value (Operand.func 92), args := #[Operand.tmp 37, Operand.tmp 44], argTypes := #[118, 34] }, type := 0, pos := "record.go:114", after := #[{ on := 3, ground := Ground.data }, { on := 10, ground := Ground.data }], guard := none }) rfl (fun K hK => ?_) ?_
            · go_simp; go_at_call 92; refine (N5.out _ _ (by simp; omega) (Bx.new _ _ _) (H4.out.1.drew.alloc _)).mono ?_; rintro e u5 ⟨rfl, hu⟩; have hxu := (hx0.drew.alloc (.cells #[.string ok, .string ov] 9)).only hu.2 hne (by decide)
              refine hK.out _ _ ?_ (fun hHeld => ?_)
              · exact hxu
              clear hK K
              (try simp only [Act.put, List.setIfInBounds_toArray, List.set_cons_zero, List.set_cons_succ])
              refine wpAnyH_done (by kernel_rfl) ?_ _
              refine NoPanic.normal ?_
              have H5 := Lib.hid ((H4.out.drew.alloc (.cells #[.string ok, .string ov] 9)).then hu)
              have HX5 := Lib.hid hxu
              clear hu hxu hHeld hx0 hp0 H4 HX4 N5 X6 X7
              go_upto_region 6 with fail
              have X8 := fun r (h : Bx r B #[.int .i64 kind, .int .i64 tx, .int .i64 prev, .int .i64 next, .string key, .bool had, .string ok, .string ov, .int .i64 ob, .int .i64 oz, .slice A1 n1 c1, .slice A2 n2 c2, .slice A3 n3 c3, .slice A4 n4 c4] 29) => (h.cell 8).trans (show (#[.int .i64 kind, .int .i64 tx, .int .i64 prev, .int .i64 next, .string key, .bool had, .string ok, .string ov, .int .i64 ob, .int .i64 oz, .slice A1 n1 c1, .slice A2 n2 c2, .slice A3 n3 c3, .slice A4 n4 c4] : Array Value)[8]? = some (.int .i64 ob) from rfl)
              have X9 := fun r (h : Bx r B #[.int .i64 kind, .int .i64 tx, .int .i64 prev, .int .i64 next, .string key, .bool had, .string ok, .string ov, .int .i64 ob, .int .i64 oz, .slice A1 n1 c1, .slice A2 n2 c2, .slice A3 n3 c3, .slice A4 n4 c4] 29) => (h.cell 9).trans (show (#[.int .i64 kind, .int .i64 tx, .int .i64 prev, .int .i64 next, .string key, .bool had, .string ok, .string ov, .int .i64 ob, .int .i64 oz, .slice A1 n1 c1, .slice A2 n2 c2, .slice A3 n3 c3, .slice A4 n4 c4] : Array Value)[9]? = some (.int .i64 oz) from rfl)
              have hx0 := HX5.out
              have hp0 := H5.out.1.lt
              refine wp_region_noPanic ?_
              refine wp_region_held_drew (S := fun w' => Bx w' B #[.int .i64 kind, .int .i64 tx, .int .i64 prev, .int .i64 next, .string key, .bool had, .string ok, .string ov, .int .i64 ob, .int .i64 oz, .slice A1 n1 c1, .slice A2 n2 c2, .slice A3 n3 c3, .slice A4 n4 c4] 29) (by kernel_rfl) ?_ (fun hHeld => ?_)
              · exact hx0.drew
              refine wpAnyH_take (i := 0) (oi := { dst := some 46, op := Op.move (Operand.tmp 0), type := 62, pos := "record.go:115", after := #[], guard := none }) (v := .pointer (some ⟨p, 0, none⟩)) rfl (by kernel_rfl) (by kernel_rfl) (by kernel_rfl) (fun _ _ _ h => h) (Or.inl ⟨by rfl, fun w' hSw => by ((try dsimp only at hSw); go_simp)⟩) (by assumption) ?_
              (try simp only [Act.put, List.setIfInBounds_toArray, List.set_cons_zero, List.set_cons_succ])
              refine wpAnyH_take (i := 1) (oi := { dst := some 47, op := Op.nilCheck (Operand.tmp 46), type := 0, pos := "record.go:115", after := #[{ on := 0, ground := Ground.data }], guard := none }) (v := .pointer (some ⟨p, 0, none⟩)) rfl (by kernel_rfl) (by kernel_rfl) (by kernel_rfl) (fun _ _ _ h => h) (Or.inl ⟨by rfl, fun w' hSw => by ((try dsimp only at hSw); go_simp)⟩) (by assumption) ?_
              (try simp only [Act.put, List.setIfInBounds_toArray, List.set_cons_zero, List.set_cons_succ])
              refine wpAnyH_take (i := 2) (oi := { dst := some 48, op := Op.fieldAddr 67 (Operand.tmp 47) 0, type := 0, pos := "record.go:115", after := #[{ on := 1, ground := Ground.data }], guard := none }) (v := .pointer (some ⟨p, 0, none⟩)) rfl (by kernel_rfl) (by kernel_rfl) (by kernel_rfl) (fun _ _ _ h => h) (Or.inl ⟨by rfl, fun w' hSw => by ((try dsimp only at hSw); go_simp)⟩) (by assumption) ?_
              (try simp only [Act.put, List.setIfInBounds_toArray, List.set_cons_zero, List.set_cons_succ])
              refine wpAnyH_take (i := 3) (oi := { dst := some 49, op := Op.makeFunc (Go.Fn.func 88) #[Operand.tmp 48] #[], type := 116, pos := "record.go:115", after := #[{ on := 2, ground := Ground.data }], guard := none }) (v := .func (.func 88) #[.pointer (some ⟨p, 0, none⟩)] #[]) rfl (by kernel_rfl) (by kernel_rfl) (by kernel_rfl) (fun _ _ _ h => h) (Or.inl ⟨by rfl, fun w' hSw => by ((try dsimp only at hSw); go_simp)⟩) (by assumption) ?_
              (try simp only [Act.put, List.setIfInBounds_toArray, List.set_cons_zero, List.set_cons_succ])
              refine wpAnyH_take (i := 4) (oi := { dst := some 50, op := Op.fieldAddr 29 (Operand.tmp 3) 6, type := 0, pos := "record.go:115", after := #[], guard := none }) (v := .pointer (some ⟨B, 6, none⟩)) rfl (by kernel_rfl) (by kernel_rfl) (by kernel_rfl) (fun _ _ _ h => h) (Or.inl ⟨by rfl, fun w' hSw => by ((try dsimp only at hSw); go_simp)⟩) (by assumption) ?_
              (try simp only [Act.put, List.setIfInBounds_toArray, List.set_cons_zero, List.set_cons_succ])
              refine wpAnyH_take (i := 5) (oi := { dst := some 51, op := Op.fieldAddr 23 (Operand.tmp 50) 2, type := 0, pos := "record.go:115", after := #[{ on := 4, ground := Ground.data }], guard := none }) (v := .pointer (some ⟨B, 8, none⟩)) rfl (by kernel_rfl) (by kernel_rfl) (by kernel_rfl) (fun _ _ _ h => h) (Or.inl ⟨by rfl, fun w' hSw => by ((try dsimp only at hSw); go_simp)⟩) (by assumption) ?_
              (try simp only [Act.put, List.setIfInBounds_toArray, List.set_cons_zero, List.set_cons_succ])
              refine wpAnyH_take (i := 6) (oi := { dst := some 52, op := Op.load 3 (Operand.tmp 51), type := 3, pos := "record.go:115", after := #[{ on := 5, ground := Ground.data }], guard := none }) (v := .int .i64 ob) rfl (by kernel_rfl) (by kernel_rfl) (by kernel_rfl) (fun _ _ _ h => h) (Or.inl ⟨by rfl, fun w' hSw => by ((try dsimp only at hSw); have := X8 _ hSw; go_simp)⟩) (by assumption) ?_
              (try simp only [Act.put, List.setIfInBounds_toArray, List.set_cons_zero, List.set_cons_succ])
              refine wpAnyH_take (i := 7) (oi := { dst := some 53, op := Op.fieldAddr 29 (Operand.tmp 3) 6, type := 0, pos := "record.go:115", after := #[], guard := none }) (v := .pointer (some ⟨B, 6, none⟩)) rfl (by kernel_rfl) (by kernel_rfl) (by kernel_rfl) (fun _ _ _ h => h) (Or.inl ⟨by rfl, fun w' hSw => by ((try dsimp only at hSw); go_simp)⟩) (by assumption) ?_
              (try simp only [Act.put, List.setIfInBounds_toArray, List.set_cons_zero, List.set_cons_succ])
              refine wpAnyH_take (i := 8) (oi := { dst := some 54, op := Op.fieldAddr 23 (Operand.tmp 53) 3, type := 0, pos := "record.go:115", after := #[{ on := 7, ground := Ground.data }], guard := none }) (v := .pointer (some ⟨B, 9, none⟩)) rfl (by kernel_rfl) (by kernel_rfl) (by kernel_rfl) (fun _ _ _ h => h) (Or.inl ⟨by rfl, fun w' hSw => by ((try dsimp only at hSw); go_simp)⟩) (by assumption) ?_
              (try simp only [Act.put, List.setIfInBounds_toArray, List.set_cons_zero, List.set_cons_succ])
              refine wpAnyH_take (i := 9) (oi := { dst := some 55, op := Op.load 3 (Operand.tmp 54), type := 3, pos := "record.go:115", after := #[{ on := 8, ground := Ground.data }], guard := none }) (v := .int .i64 oz) rfl (by kernel_rfl) (by kernel_rfl) (by kernel_rfl) (fun _ _ _ h => h) (Or.inl ⟨by rfl, fun w' hSw => by ((try dsimp only at hSw); have := X9 _ hSw; go_simp)⟩) (by assumption) ?_
              (try simp only [Act.put, List.setIfInBounds_toArray, List.set_cons_zero, List.set_cons_succ])
              refine wpAnyH_ready (rs := [10]) (by kernel_rfl) (by simp) ?_
              refine AllReadyH.cons (o := { dst := some 56, op := Op.buildSlice 24 2 #[(0, Operand.tmp 52), (1, Operand.tmp 55)], type := 24, pos := "record.go:115", after := #[{ on := 6, ground := Ground.data }, { on := 9, ground := Ground.data }], guard := none }) rfl (fun K hK => ?_) ?_
              · go_simp
                refine hK.out _ _ ?_ (fun hHeld => ?_)
                · exact hx0.drew.alloc _
                clear hK K
                (try simp only [Act.put, List.setIfInBounds_toArray, List.set_cons_zero, List.set_cons_succ])
                refine wpAnyH_ready (rs := [11]) (by kernel_rfl) (by simp) ?_
                refine AllReadyH.cons (o := { dst := some 57, op := Op.call { callee := Callee.value (Operand.func 87), args := #[Operand.tmp 49, Operand.tmp 56], argTypes := #[116, 24] }, type := 0, pos := "record.go:115", after := #[{ on := 3, ground := Ground.data }, { on := 10, ground := Ground.data }], guard := none }) rfl (fun K hK => ?_) ?_
                · go_simp; go_at_call 87; refine (N6.out _ _ (by simp; omega) (Bx.new _ _ _) (H5.out.1.drew.alloc _)).mono ?_; rintro e u6 ⟨rfl, hu⟩; have hxu := (hx0.drew.alloc (.cells #[.int .i64 ob, .int .i64 oz] 3)).only hu.2 hne (by decide)
                  refine hK.out _ _ ?_ (fun hHeld => ?_)
                  · exact hxu
                  clear hK K
                  (try simp only [Act.put, List.setIfInBounds_toArray, List.set_cons_zero, List.set_cons_succ])
                  refine wpAnyH_done (by kernel_rfl) ?_ _
                  refine NoPanic.normal ?_
                  have H6 := Lib.hid ((H5.out.drew.alloc (.cells #[.int .i64 ob, .int .i64 oz] 3)).then hu)
                  have HX6 := Lib.hid hxu
                  clear hu hxu hHeld hx0 hp0 H5 HX5 N6 X8 X9
                  have x10 := (HX6.out.cell 10).trans (show (#[.int .i64 kind, .int .i64 tx, .int .i64 prev, .int .i64 next, .string key, .bool had, .string ok, .string ov, .int .i64 ob, .int .i64 oz, .slice A1 n1 c1, .slice A2 n2 c2, .slice A3 n3 c3, .slice A4 n4 c4] : Array Value)[10]? = some (.slice A1 n1 c1) from rfl)
                  go_wp2_with fail
                  refine (N7.out _ H6.out).mono ?_; rintro e u7 ⟨rfl, hu⟩
                  have H7 := Lib.hid (H6.out.then hu)
                  have HX7 := Lib.hid (HX6.out.only hu.2 hne (by decide))
                  clear hu x10 H6 HX6 N7
                  have x11 := (HX7.out.cell 11).trans (show (#[.int .i64 kind, .int .i64 tx, .int .i64 prev, .int .i64 next, .string key, .bool had, .string ok, .string ov, .int .i64 ob, .int .i64 oz, .slice A1 n1 c1, .slice A2 n2 c2, .slice A3 n3 c3, .slice A4 n4 c4] : Array Value)[11]? = some (.slice A2 n2 c2) from rfl)
                  go_wp2_with fail
                  refine (N8.out _ H7.out).mono ?_; rintro e u8 ⟨rfl, hu⟩
                  have H8 := Lib.hid (H7.out.then hu)
                  have HX8 := Lib.hid (HX7.out.only hu.2 hne (by decide))
                  clear hu x11 H7 HX7 N8
                  have x12 := (HX8.out.cell 12).trans (show (#[.int .i64 kind, .int .i64 tx, .int .i64 prev, .int .i64 next, .string key, .bool had, .string ok, .string ov, .int .i64 ob, .int .i64 oz, .slice A1 n1 c1, .slice A2 n2 c2, .slice A3 n3 c3, .slice A4 n4 c4] : Array Value)[12]? = some (.slice A3 n3 c3) from rfl)
                  go_wp2_with fail
                  refine (N9.out _ H8.out).mono ?_; rintro e u9 ⟨rfl, hu⟩
                  have H9 := Lib.hid (H8.out.then hu)
                  have HX9 := Lib.hid (HX8.out.only hu.2 hne (by decide))
                  clear hu x12 H8 HX8 N9
                  have x13 := (HX9.out.cell 13).trans (show (#[.int .i64 kind, .int .i64 tx, .int .i64 prev, .int .i64 next, .string key, .bool had, .string ok, .string ov, .int .i64 ob, .int .i64 oz, .slice A1 n1 c1, .slice A2 n2 c2, .slice A3 n3 c3, .slice A4 n4 c4] : Array Value)[13]? = some (.slice A4 n4 c4) from rfl)
                  go_wp2_with fail
                  refine (N10.out _ H9.out).mono ?_; rintro e u10 ⟨rfl, hu⟩
                  have H10 := Lib.hid (H9.out.then hu)
                  have HX10 := Lib.hid (HX9.out.only hu.2 hne (by decide))
                  clear hu x13 H9 HX9 N10
                  go_wp2_with fail
                  go_end0
                  exact ⟨rfl, H10.out⟩
                exact AllReadyH.nil
              exact AllReadyH.nil
            exact AllReadyH.nil
          exact AllReadyH.nil
        exact AllReadyH.nil
      exact AllReadyH.nil
    exact AllReadyH.nil
  exact AllReadyH.nil
end Go.Proofs.YtbmnagfjpenemaaGreatDoor
