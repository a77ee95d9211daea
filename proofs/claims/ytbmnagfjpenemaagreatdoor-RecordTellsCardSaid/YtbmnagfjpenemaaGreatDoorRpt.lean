/- The document's RecordPut. -/
import Derived.Test.YtbmnagfjpenemaaGreatDoorRrt
import Derived.Test.YtbmnagfjpenemaaGreatDoorGet
namespace Go.Proofs.YtbmnagfjpenemaaGreatDoor
open Go.ChangeShapes Go.WideShapes Go.ChangeAt Go.RowKit
set_option linter.unusedVariables false
set_option linter.unusedSimpArgs false
set_option maxRecDepth 100000
theorem Held.start' (X : World) : Held X X.drew := (Below.refl _ _).drew
theorem join_take {α : Type} (f : α → BA) (X : BA) (l : List α) (k : Nat) (d : α) (h : k < l.length) : X ++ (l.take (k + 1)).flatMap f = (X ++ (l.take k).flatMap f) ++ f (l.getD k d) := by
  rw [take_snoc l k d h, List.flatMap_append, List.append_assoc]
  simp
theorem str_sz (l : BA) : (str l).size = l.length := rfl
set_option maxHeartbeats 16000000 in
theorem rput_is {C : Nat} (r : Rc) (h : Hd) (w : World) (hr : RcM C w r h) (hC : C ≤ w.heap.size) : Calls Tryz.prog 7 #[rcv r h] w fun e w' => e = .returned (.tuple #[.string (str (putS r)), .bool (rightR r)]) ∧ Below w.heap.size w w' := by
  have HA := Lib.hid ((Below.refl w.heap.size w).alloc (Nat.le_refl _) (.cells (rcs r h) 29))
  have HX := Lib.hid (Bx.new w (rcs r h) 29)
  have hmm := (hr.more hC).kept HA.out
  have RI := Lib.hid (rright_is r h (w.alloc (.cells (rcs r h) 29)) hmm HA.out.size)
  cases g : rightR r with
  | false =>
    rw [g] at RI
    rw [show putS r = [] from by unfold putS; rw [g]; rfl, show str [] = ByteArray.mk #[] from rfl]
    clear hr hC hmm
    have hx := rcs_at r h _ _ HX.out
    obtain ⟨x0, x1, x2, x3, x4, x5, x6, x7, x8, x9, x10, x11, x12, x13⟩ := hx
    unfold rcv at RI ⊢
    unfold rcs at *
    go_enter Tryz.func7, Tryz.ntmps7
    go_wp2_with fail
    refine RI.out.mono ?_; rintro e w1 ⟨rfl, hb⟩
    have H1 := Lib.hid (HA.out.trans (hb.mono HA.out.size))
    clear hb
    go_wp2_with fail
    go_ret2
    exact ⟨rfl, H1.out⟩
  | true =>
    rw [g] at RI
    rw [show putS r = encR r from by unfold putS; rw [g]; rfl]
    have hR := rightR_iff.1 g
    have MM := Lib.hid (fun u (hb : Below w.heap.size w u) => (hr.more hC).kept hb)
    clear hr hC hmm g
    obtain ⟨kind, tx, prev, next, key, had, ⟨ok, ov, ob, oz⟩, pages, pts, txs, dys⟩ := r
    obtain ⟨⟨A1, n1, c1⟩, ⟨A2, n2, c2⟩, ⟨A3, n3, c3⟩, ⟨A4, n4, c4⟩⟩ := h
    obtain ⟨k1, k2, k3, k4, k5, k6, k7, k8, k9, k10⟩ := hR
    have m := MM.out w (Below.refl _ _)
    obtain ⟨p1, p2⟩ := everyB_iff.1 k8
    obtain ⟨t1, t2⟩ := everyB_iff.1 k9
    obtain ⟨d1, d2⟩ := everyB_iff.1 k10
    obtain ⟨g1, g2⟩ := everyB_iff.1 k7
    obtain ⟨o1, o2, o3, o4⟩ := rightO_in k6
    have hL1 := m.g.1
    have hL2 := m.p.1
    have hL3 := m.t.1
    have hL4 := m.d.1
    dsimp only at k1 k2 k3 k4 k5 k6 k7 k8 k9 k10 p1 p2 t1 t2 d1 d2 g1 g2 o1 o2 o3 o4 hL1 hL2 hL3 hL4
    rw [hL1] at g1
    rw [hL2] at p1
    rw [hL3] at t1
    rw [hL4] at d1
    have n1N : (n1 : Int) ≤ 64 := by omega
    have n2N : (n2 : Int) ≤ 40 := by omega
    have n3N : (n3 : Int) ≤ 8 := by omega
    have n4N : (n4 : Int) ≤ 64 := by omega
    have N1 := Lib.hid (fun u => rnum_is kind (by omega) u)
    have N2 := Lib.hid (fun u => rnum_is tx (two_iff.1 k2) u)
    have N3 := Lib.hid (fun u => rlong_is prev (four_iff.1 k3) u)
    have N4 := Lib.hid (fun u => rlong_is next (four_iff.1 k4) u)
    have N5 := Lib.hid (fun u => rtext_is key (by omega) u)
    have N6 := Lib.hid (fun u => rflag_is had u)
    have N7 := Lib.hid (fun u => rtext_is ok (by omega) u)
    have N8 := Lib.hid (fun u => rtext_is ov (by omega) u)
    have N9 := Lib.hid (fun u => rnum_is ob (two_iff.1 o3) u)
    have N10 := Lib.hid (fun u => rnum_is oz (two_iff.1 o4) u)
    have N12 := Lib.hid (fun u => rnum_is n2 ⟨by omega, by omega⟩ u)
    have N11 := Lib.hid (fun u (hb : Below w.heap.size w u) => rnums_is (c := c1) u (MM.out u hb).g hb.size (by omega) (fun x hx => two_iff.1 (g2 x hx)))
    have N13 := Lib.hid (fun u => rnum_is n3 ⟨by omega, by omega⟩ u)
    have N14 := Lib.hid (fun u => rnum_is n4 ⟨by omega, by omega⟩ u)
    dsimp only at N11
    have z1 : (str (w2 kind)).size ≤ 2 := Nat.le_refl _
    have z2 : (str (w2 tx)).size ≤ 2 := Nat.le_refl _
    have z3 : (str (w4 prev)).size ≤ 4 := Nat.le_refl _
    have z4 : (str (w4 next)).size ≤ 4 := Nat.le_refl _
    have z5 : (str (encS key)).size ≤ 257 := by rw [str_sz, encS_length]; omega
    have z6 : (str (encF had)).size ≤ 2 := Nat.le_refl _
    have z7 : (str (encS ok)).size ≤ 18 := by rw [str_sz, encS_length]; omega
    have z8 : (str (encS ov)).size ≤ 42 := by rw [str_sz, encS_length]; omega
    have z9 : (str (w2 ob)).size ≤ 2 := Nat.le_refl _
    have z10 : (str (w2 oz)).size ≤ 2 := Nat.le_refl _
    have z11 : (str (encL w2 pages)).size ≤ 130 := by rw [str_sz, encL_length, flat_const w2_length]; omega
    have z12 : (str (w2 n2)).size ≤ 2 := Nat.le_refl _
    have z13 : (str (w2 n3)).size ≤ 2 := Nat.le_refl _
    have z14 : (str (w2 n4)).size ≤ 2 := Nat.le_refl _
    obtain ⟨E0, hE0⟩ : ∃ E0 : BA, E0 = w2 kind ++ (w2 tx ++ (w4 prev ++ (w4 next ++ (encS key ++ (encF had ++ (encS ok ++ (encS ov ++ (w2 ob ++ (w2 oz ++ (encL w2 pages)))))))))) := ⟨_, rfl⟩
    have HS1 := Lib.hid (show str (w2 kind) ++ str (w2 tx) ++ str (w4 prev) ++ str (w4 next) ++ str (encS key) ++ str (encF had) ++ str (encS ok) ++ str (encS ov) ++ str (w2 ob) ++ str (w2 oz) ++ str (encL w2 pages) ++ str (w2 n2) = str ((E0 ++ w2 n2) ++ (pts.take 0).flatMap encP) from by
      rw [hE0]
      simp only [str_app, List.take_zero, List.flatMap_nil, List.append_nil, List.append_assoc])
    have HENC := Lib.hid (show encR ⟨kind, tx, prev, next, key, had, ⟨ok, ov, ob, oz⟩, pages, pts, txs, dys⟩ = (((E0 ++ w2 n2) ++ pts.flatMap encP) ++ w2 n3 ++ txs.flatMap encT) ++ w2 n4 ++ dys.flatMap encD from by
      rw [hE0]
      unfold encR encC
      rw [show encL encP pts = w2 n2 ++ pts.flatMap encP from by unfold encL; rw [hL2], show encL encT txs = w2 n3 ++ txs.flatMap encT from by unfold encL; rw [hL3], show encL encD dys = w2 n4 ++ dys.flatMap encD from by unfold encL; rw [hL4]]
      simp only [List.append_assoc])
    rw [HENC.out]
    generalize str (w2 kind) = a1 at *
    generalize str (w2 tx) = a2 at *
    generalize str (w4 prev) = a3 at *
    generalize str (w4 next) = a4 at *
    generalize str (encS key) = a5 at *
    generalize str (encF had) = a6 at *
    generalize str (encS ok) = a7 at *
    generalize str (encS ov) = a8 at *
    generalize str (w2 ob) = a9 at *
    generalize str (w2 oz) = a10 at *
    generalize str (encL w2 pages) = a11 at *
    generalize str (w2 n2) = a12 at *
    generalize ha13 : str (w2 n3) = a13 at *
    generalize ha14 : str (w2 n4) = a14 at *
    have HA13 := Lib.hid ha13
    have HA14 := Lib.hid ha14
    have y2 : (a1 ++ a2).size ≤ 4 := by rw [ByteArray.size_append]; omega
    have y3 : (a1 ++ a2 ++ a3).size ≤ 8 := by rw [ByteArray.size_append]; omega
    have y4 : (a1 ++ a2 ++ a3 ++ a4).size ≤ 12 := by rw [ByteArray.size_append]; omega
    have y5 : (a1 ++ a2 ++ a3 ++ a4 ++ a5).size ≤ 269 := by rw [ByteArray.size_append]; omega
    have y6 : (a1 ++ a2 ++ a3 ++ a4 ++ a5 ++ a6).size ≤ 271 := by rw [ByteArray.size_append]; omega
    have y7 : (a1 ++ a2 ++ a3 ++ a4 ++ a5 ++ a6 ++ a7).size ≤ 289 := by rw [ByteArray.size_append]; omega
    have y8 : (a1 ++ a2 ++ a3 ++ a4 ++ a5 ++ a6 ++ a7 ++ a8).size ≤ 331 := by rw [ByteArray.size_append]; omega
    have y9 : (a1 ++ a2 ++ a3 ++ a4 ++ a5 ++ a6 ++ a7 ++ a8 ++ a9).size ≤ 333 := by rw [ByteArray.size_append]; omega
    have y10 : (a1 ++ a2 ++ a3 ++ a4 ++ a5 ++ a6 ++ a7 ++ a8 ++ a9 ++ a10).size ≤ 335 := by rw [ByteArray.size_append]; omega
    have y11 : (a1 ++ a2 ++ a3 ++ a4 ++ a5 ++ a6 ++ a7 ++ a8 ++ a9 ++ a10 ++ a11).size ≤ 465 := by rw [ByteArray.size_append]; omega
    have y12 : (a1 ++ a2 ++ a3 ++ a4 ++ a5 ++ a6 ++ a7 ++ a8 ++ a9 ++ a10 ++ a11 ++ a12).size ≤ 467 := by rw [ByteArray.size_append]; omega
    have P2 := Lib.hid p2
    have T2 := Lib.hid t2
    have D2 := Lib.hid d2
    have HL2 := Lib.hid hL2
    have HL3 := Lib.hid hL3
    have HL4 := Lib.hid hL4
    clear m k1 k2 k3 k4 k5 k6 k7 k8 k9 k10 p1 p2 t1 t2 d1 d2 g1 g2 o1 o2 o3 o4 hL1 hL2 hL3 hL4 hE0 HENC ha13 ha14
    have hx := rcs_at _ _ _ _ HX.out
    obtain ⟨x0, x1, x2, x3, x4, x5, x6, x7, x8, x9, x10, x11, x12, x13⟩ := hx
    dsimp only at x0 x1 x2 x3 x4 x5 x6 x7 x8 x9 x10 x11 x12 x13
    unfold rcv at RI ⊢
    unfold rcs at *
    dsimp only at *
    go_enter Tryz.func7, Tryz.ntmps7
    go_wp2_with fail
    refine RI.out.mono ?_; rintro e V ⟨rfl, hb⟩
    have HV := Lib.hid (HA.out.trans (hb.mono HA.out.size))
    have HXV := Lib.hid (HX.out.held hb)
    clear hb RI x0 x1 x2 x3 x4 x5 x6 x7 x8 x9 x10 x11 x12 x13
    go_upto_region 3 with fail
    have X0 : ∀ u, Held V u → u.cell? ⟨w.heap.size, 0, none⟩ = some (.int .i64 kind) := fun u hu => ((HXV.out.held hu).cell 0).trans rfl
    have X1 : ∀ u, Held V u → u.cell? ⟨w.heap.size, 1, none⟩ = some (.int .i64 tx) := fun u hu => ((HXV.out.held hu).cell 1).trans rfl
    have X2 : ∀ u, Held V u → u.cell? ⟨w.heap.size, 2, none⟩ = some (.int .i64 prev) := fun u hu => ((HXV.out.held hu).cell 2).trans rfl
    have X3 : ∀ u, Held V u → u.cell? ⟨w.heap.size, 3, none⟩ = some (.int .i64 next) := fun u hu => ((HXV.out.held hu).cell 3).trans rfl
    have X4 : ∀ u, Held V u → u.cell? ⟨w.heap.size, 4, none⟩ = some (.string key) := fun u hu => ((HXV.out.held hu).cell 4).trans rfl
    have X5 : ∀ u, Held V u → u.cell? ⟨w.heap.size, 5, none⟩ = some (.bool had) := fun u hu => ((HXV.out.held hu).cell 5).trans rfl
    have X6 : ∀ u, Held V u → u.cell? ⟨w.heap.size, 6, none⟩ = some (.string ok) := fun u hu => ((HXV.out.held hu).cell 6).trans rfl
    have X7 : ∀ u, Held V u → u.cell? ⟨w.heap.size, 7, none⟩ = some (.string ov) := fun u hu => ((HXV.out.held hu).cell 7).trans rfl
    have X8 : ∀ u, Held V u → u.cell? ⟨w.heap.size, 8, none⟩ = some (.int .i64 ob) := fun u hu => ((HXV.out.held hu).cell 8).trans rfl
    have X9 : ∀ u, Held V u → u.cell? ⟨w.heap.size, 9, none⟩ = some (.int .i64 oz) := fun u hu => ((HXV.out.held hu).cell 9).trans rfl
    have X10 : ∀ u, Held V u → u.cell? ⟨w.heap.size, 10, none⟩ = some (.slice A1 n1 c1) := fun u hu => ((HXV.out.held hu).cell 10).trans rfl
    have X11 : ∀ u, Held V u → u.cell? ⟨w.heap.size, 11, none⟩ = some (.slice A2 n2 c2) := fun u hu => ((HXV.out.held hu).cell 11).trans rfl
    have X12 : ∀ u, Held V u → u.cell? ⟨w.heap.size, 12, none⟩ = some (.slice A3 n3 c3) := fun u hu => ((HXV.out.held hu).cell 12).trans rfl
    have X13 : ∀ u, Held V u → u.cell? ⟨w.heap.size, 13, none⟩ = some (.slice A4 n4 c4) := fun u hu => ((HXV.out.held hu).cell 13).trans rfl
    have N11' := Lib.hid (fun u (hu : Held V u) => N11.out u (HV.out.trans (Below.mono hu HV.out.size)))
    refine wp_region_noPanic ?_
    refine wp_region_held_drew (S := Held V) (by kernel_rfl) ?_ (fun hHeld => ?_)
    · exact Held.start' V
    refine wpAnyH_take (i := 0) (oi := { dst := some 11, op := Op.fieldAddr 29 (Operand.tmp 1) 0, type := 0, pos := "base.go:550", after := #[], guard := none }) (v := .pointer (some ⟨w.heap.size, 0, none⟩)) rfl (by kernel_rfl) (by kernel_rfl) (by kernel_rfl) (fun _ _ _ h => h) (Or.inl ⟨by rfl, fun w' hSw => by ((try dsimp only at hSw); go_simp)⟩) (by assumption) ?_
    (try simp only [Act.put, List.setIfInBounds_toArray, List.set_cons_zero, List.set_cons_succ])
    refine wpAnyH_take (i := 1) (oi := { dst := some 12, op := Op.load 3 (Operand.tmp 11), type := 3, pos := "base.go:550", after := #[{ on := 0, ground := Ground.data }], guard := none }) (v := .int .i64 kind) rfl (by kernel_rfl) (by kernel_rfl) (by kernel_rfl) (fun _ _ _ h => h) (Or.inl ⟨by rfl, fun w' hSw => by ((try dsimp only at hSw); have hcell := X0 _ hSw; go_simp)⟩) (by assumption) ?_
    (try simp only [Act.put, List.setIfInBounds_toArray, List.set_cons_zero, List.set_cons_succ])
    refine wpAnyH_take (i := 3) (oi := { dst := some 14, op := Op.fieldAddr 29 (Operand.tmp 1) 1, type := 0, pos := "base.go:550", after := #[], guard := none }) (v := .pointer (some ⟨w.heap.size, 1, none⟩)) rfl (by kernel_rfl) (by kernel_rfl) (by kernel_rfl) (fun _ _ _ h => h) (Or.inl ⟨by rfl, fun w' hSw => by ((try dsimp only at hSw); go_simp)⟩) (by assumption) ?_
    (try simp only [Act.put, List.setIfInBounds_toArray, List.set_cons_zero, List.set_cons_succ])
    refine wpAnyH_take (i := 4) (oi := { dst := some 15, op := Op.load 3 (Operand.tmp 14), type := 3, pos := "base.go:550", after := #[{ on := 3, ground := Ground.data }], guard := none }) (v := .int .i64 tx) rfl (by kernel_rfl) (by kernel_rfl) (by kernel_rfl) (fun _ _ _ h => h) (Or.inl ⟨by rfl, fun w' hSw => by ((try dsimp only at hSw); have hcell := X1 _ hSw; go_simp)⟩) (by assumption) ?_
    (try simp only [Act.put, List.setIfInBounds_toArray, List.set_cons_zero, List.set_cons_succ])
    refine wpAnyH_take (i := 7) (oi := { dst := some 18, op := Op.fieldAddr 29 (Operand.tmp 1) 2, type := 0, pos := "base.go:550", after := #[], guard := none }) (v := .pointer (some ⟨w.heap.size, 2, none⟩)) rfl (by kernel_rfl) (by kernel_rfl) (by kernel_rfl) (fun _ _ _ h => h) (Or.inl ⟨by rfl, fun w' hSw => by ((try dsimp only at hSw); go_simp)⟩) (by assumption) ?_
    (try simp only [Act.put, List.setIfInBounds_toArray, List.set_cons_zero, List.set_cons_succ])
    refine wpAnyH_take (i := 8) (oi := { dst := some 19, op := Op.load 3 (Operand.tmp 18), type := 3, pos := "base.go:550", after := #[{ on := 7, ground := Ground.data }], guard := none }) (v := .int .i64 prev) rfl (by kernel_rfl) (by kernel_rfl) (by kernel_rfl) (fun _ _ _ h => h) (Or.inl ⟨by rfl, fun w' hSw => by ((try dsimp only at hSw); have hcell := X2 _ hSw; go_simp)⟩) (by assumption) ?_
    (try simp only [Act.put, List.setIfInBounds_toArray, List.set_cons_zero, List.set_cons_succ])
    refine wpAnyH_take (i := 11) (oi := { dst := some 22, op := Op.fieldAddr 29 (Operand.tmp 1) 3, type := 0, pos := "base.go:550", after := #[], guard := none }) (v := .pointer (some ⟨w.heap.size, 3, none⟩)) rfl (by kernel_rfl) (by kernel_rfl) (by kernel_rfl) (fun _ _ _ h => h) (Or.inl ⟨by rfl, fun w' hSw => by ((try dsimp only at hSw); go_simp)⟩) (by assumption) ?_
    (try simp only [Act.put, List.setIfInBounds_toArray, List.set_cons_zero, List.set_cons_succ])
    refine wpAnyH_take (i := 12) (oi := { dst := some 23, op := Op.load 3 (Operand.tmp 22), type := 3, pos := "base.go:550", after := #[{ on := 11, ground := Ground.data }], guard := none }) (v := .int .i64 next) rfl (by kernel_rfl) (by kernel_rfl) (by kernel_rfl) (fun _ _ _ h => h) (Or.inl ⟨by rfl, fun w' hSw => by ((try dsimp only at hSw); have hcell := X3 _ hSw; go_simp)⟩) (by assumption) ?_
    (try simp only [Act.put, List.setIfInBounds_toArray, List.set_cons_zero, List.set_cons_succ])
    refine wpAnyH_take (i := 15) (oi := { dst := some 26, op := Op.fieldAddr 29 (Operand.tmp 1) 4, type := 0, pos := "base.go:550", after := #[], guard := none }) (v := .pointer (some ⟨w.heap.size, 4, none⟩)) rfl (by kernel_rfl) (by kernel_rfl) (by kernel_rfl) (fun _ _ _ h => h) (Or.inl ⟨by rfl, fun w' hSw => by ((try dsimp only at hSw); go_simp)⟩) (by assumption) ?_
    (try simp only [Act.put, List.setIfInBounds_toArray, List.set_cons_zero, List.set_cons_succ])
    refine wpAnyH_take (i := 16) (oi := { dst := some 27, op := Op.load 9 (Operand.tmp 26), type := 9, pos := "base.go:550", after := #[{ on := 15, ground := Ground.data }], guard := none }) (v := .string key) rfl (by kernel_rfl) (by kernel_rfl) (by kernel_rfl) (fun _ _ _ h => h) (Or.inl ⟨by rfl, fun w' hSw => by ((try dsimp only at hSw); have hcell := X4 _ hSw; go_simp)⟩) (by assumption) ?_
    (try simp only [Act.put, List.setIfInBounds_toArray, List.set_cons_zero, List.set_cons_succ])
    refine wpAnyH_take (i := 19) (oi := { dst := some 30, op := Op.fieldAddr 29 (Operand.tmp 1) 5, type := 0, pos := "base.go:550", after := #[], guard := none }) (v := .pointer (some ⟨w.heap.size, 5, none⟩)) rfl (by kernel_rfl) (by kernel_rfl) (by kernel_rfl) (fun _ _ _ h => h) (Or.inl ⟨by rfl, fun w' hSw => by ((try dsimp only at hSw); go_simp)⟩) (by assumption) ?_
    (try simp only [Act.put, List.setIfInBounds_toArray, List.set_cons_zero, List.set_cons_succ])
    refine wpAnyH_take (i := 20) (oi := { dst := some 31, op := Op.load 4 (Operand.tmp 30), type := 4, pos := "base.go:550", after := #[{ on := 19, ground := Ground.data }], guard := none }) (v := .bool had) rfl (by kernel_rfl) (by kernel_rfl) (by kernel_rfl) (fun _ _ _ h => h) (Or.inl ⟨by rfl, fun w' hSw => by ((try dsimp only at hSw); have hcell := X5 _ hSw; go_simp)⟩) (by assumption) ?_
    (try simp only [Act.put, List.setIfInBounds_toArray, List.set_cons_zero, List.set_cons_succ])
    refine wpAnyH_take (i := 23) (oi := { dst := some 34, op := Op.fieldAddr 29 (Operand.tmp 1) 6, type := 0, pos := "base.go:550", after := #[], guard := none }) (v := .pointer (some ⟨w.heap.size, 6, none⟩)) rfl (by kernel_rfl) (by kernel_rfl) (by kernel_rfl) (fun _ _ _ h => h) (Or.inl ⟨by rfl, fun w' hSw => by ((try dsimp only at hSw); go_simp)⟩) (by assumption) ?_
    (try simp only [Act.put, List.setIfInBounds_toArray, List.set_cons_zero, List.set_cons_succ])
    refine wpAnyH_take (i := 24) (oi := { dst := some 35, op := Op.fieldAddr 23 (Operand.tmp 34) 0, type := 0, pos := "base.go:550", after := #[{ on := 23, ground := Ground.data }], guard := none }) (v := .pointer (some ⟨w.heap.size, 6, none⟩)) rfl (by kernel_rfl) (by kernel_rfl) (by kernel_rfl) (fun _ _ _ h => h) (Or.inl ⟨by rfl, fun w' hSw => by ((try dsimp only at hSw); go_simp)⟩) (by assumption) ?_
    (try simp only [Act.put, List.setIfInBounds_toArray, List.set_cons_zero, List.set_cons_succ])
    refine wpAnyH_take (i := 25) (oi := { dst := some 36, op := Op.load 9 (Operand.tmp 35), type := 9, pos := "base.go:550", after := #[{ on := 24, ground := Ground.data }], guard := none }) (v := .string ok) rfl (by kernel_rfl) (by kernel_rfl) (by kernel_rfl) (fun _ _ _ h => h) (Or.inl ⟨by rfl, fun w' hSw => by ((try dsimp only at hSw); have hcell := X6 _ hSw; go_simp)⟩) (by assumption) ?_
    (try simp only [Act.put, List.setIfInBounds_toArray, List.set_cons_zero, List.set_cons_succ])
    refine wpAnyH_take (i := 28) (oi := { dst := some 39, op := Op.fieldAddr 29 (Operand.tmp 1) 6, type := 0, pos := "base.go:550", after := #[], guard := none }) (v := .pointer (some ⟨w.heap.size, 6, none⟩)) rfl (by kernel_rfl) (by kernel_rfl) (by kernel_rfl) (fun _ _ _ h => h) (Or.inl ⟨by rfl, fun w' hSw => by ((try dsimp only at hSw); go_simp)⟩) (by assumption) ?_
    (try simp only [Act.put, List.setIfInBounds_toArray, List.set_cons_zero, List.set_cons_succ])
    refine wpAnyH_take (i := 29) (oi := { dst := some 40, op := Op.fieldAddr 23 (Operand.tmp 39) 1, type := 0, pos := "base.go:550", after := #[{ on := 28, ground := Ground.data }], guard := none }) (v := .pointer (some ⟨w.heap.size, 7, none⟩)) rfl (by kernel_rfl) (by kernel_rfl) (by kernel_rfl) (fun _ _ _ h => h) (Or.inl ⟨by rfl, fun w' hSw => by ((try dsimp only at hSw); go_simp)⟩) (by assumption) ?_
    (try simp only [Act.put, List.setIfInBounds_toArray, List.set_cons_zero, List.set_cons_succ])
    refine wpAnyH_take (i := 30) (oi := { dst := some 41, op := Op.load 9 (Operand.tmp 40), type := 9, pos := "base.go:550", after := #[{ on := 29, ground := Ground.data }], guard := none }) (v := .string ov) rfl (by kernel_rfl) (by kernel_rfl) (by kernel_rfl) (fun _ _ _ h => h) (Or.inl ⟨by rfl, fun w' hSw => by ((try dsimp only at hSw); have hcell := X7 _ hSw; go_simp)⟩) (by assumption) ?_
    (try simp only [Act.put, List.setIfInBounds_toArray, List.set_cons_zero, List.set_cons_succ])
    refine wpAnyH_take (i := 33) (oi := { dst := some 44, op := Op.fieldAddr 29 (Operand.tmp 1) 6, type := 0, pos := "base.go:550", after := #[], guard := none }) (v := .pointer (some ⟨w.heap.size, 6, none⟩)) rfl (by kernel_rfl) (by kernel_rfl) (by kernel_rfl) (fun _ _ _ h => h) (Or.inl ⟨by rfl, fun w' hSw => by ((try dsimp only at hSw); go_simp)⟩) (by assumption) ?_
    (try simp only [Act.put, List.setIfInBounds_toArray, List.set_cons_zero, List.set_cons_succ])
    refine wpAnyH_take (i := 34) (oi := { dst := some 45, op := Op.fieldAddr 23 (Operand.tmp 44) 2, type := 0, pos := "base.go:550", after := #[{ on := 33, ground := Ground.data }], guard := none }) (v := .pointer (some ⟨w.heap.size, 8, none⟩)) rfl (by kernel_rfl) (by kernel_rfl) (by kernel_rfl) (fun _ _ _ h => h) (Or.inl ⟨by rfl, fun w' hSw => by ((try dsimp only at hSw); go_simp)⟩) (by assumption) ?_
    (try simp only [Act.put, List.setIfInBounds_toArray, List.set_cons_zero, List.set_cons_succ])
    refine wpAnyH_take (i := 35) (oi := { dst := some 46, op := Op.load 3 (Operand.tmp 45), type := 3, pos := "base.go:550", after := #[{ on := 34, ground := Ground.data }], guard := none }) (v := .int .i64 ob) rfl (by kernel_rfl) (by kernel_rfl) (by kernel_rfl) (fun _ _ _ h => h) (Or.inl ⟨by rfl, fun w' hSw => by ((try dsimp only at hSw); have hcell := X8 _ hSw; go_simp)⟩) (by assumption) ?_
    (try simp only [Act.put, List.setIfInBounds_toArray, List.set_cons_zero, List.set_cons_succ])
    refine wpAnyH_take (i := 38) (oi := { dst := some 49, op := Op.fieldAddr 29 (Operand.tmp 1) 6, type := 0, pos := "base.go:550", after := #[], guard := none }) (v := .pointer (some ⟨w.heap.size, 6, none⟩)) rfl (by kernel_rfl) (by kernel_rfl) (by kernel_rfl) (fun _ _ _ h => h) (Or.inl ⟨by rfl, fun w' hSw => by ((try dsimp only at hSw); go_simp)⟩) (by assumption) ?_
    (try simp only [Act.put, List.setIfInBounds_toArray, List.set_cons_zero, List.set_cons_succ])
    refine wpAnyH_take (i := 39) (oi := { dst := some 50, op := Op.fieldAddr 23 (Operand.tmp 49) 3, type := 0, pos := "base.go:550", after := #[{ on := 38, ground := Ground.data }], guard := none }) (v := .pointer (some ⟨w.heap.size, 9, none⟩)) rfl (by kernel_rfl) (by kernel_rfl) (by kernel_rfl) (fun _ _ _ h => h) (Or.inl ⟨by rfl, fun w' hSw => by ((try dsimp only at hSw); go_simp)⟩) (by assumption) ?_
    (try simp only [Act.put, List.setIfInBounds_toArray, List.set_cons_zero, List.set_cons_succ])
    refine wpAnyH_take (i := 40) (oi := { dst := some 51, op := Op.load 3 (Operand.tmp 50), type := 3, pos := "base.go:550", after := #[{ on := 39, ground := Ground.data }], guard := none }) (v := .int .i64 oz) rfl (by kernel_rfl) (by kernel_rfl) (by kernel_rfl) (fun _ _ _ h => h) (Or.inl ⟨by rfl, fun w' hSw => by ((try dsimp only at hSw); have hcell := X9 _ hSw; go_simp)⟩) (by assumption) ?_
    (try simp only [Act.put, List.setIfInBounds_toArray, List.set_cons_zero, List.set_cons_succ])
    refine wpAnyH_take (i := 43) (oi := { dst := some 54, op := Op.fieldAddr 29 (Operand.tmp 1) 7, type := 0, pos := "base.go:550", after := #[], guard := none }) (v := .pointer (some ⟨w.heap.size, 10, none⟩)) rfl (by kernel_rfl) (by kernel_rfl) (by kernel_rfl) (fun _ _ _ h => h) (Or.inl ⟨by rfl, fun w' hSw => by ((try dsimp only at hSw); go_simp)⟩) (by assumption) ?_
    (try simp only [Act.put, List.setIfInBounds_toArray, List.set_cons_zero, List.set_cons_succ])
    refine wpAnyH_take (i := 44) (oi := { dst := some 55, op := Op.load 24 (Operand.tmp 54), type := 24, pos := "base.go:550", after := #[{ on := 43, ground := Ground.data }], guard := none }) (v := .slice A1 n1 c1) rfl (by kernel_rfl) (by kernel_rfl) (by kernel_rfl) (fun _ _ _ h => h) (Or.inl ⟨by rfl, fun w' hSw => by ((try dsimp only at hSw); have hcell := X10 _ hSw; go_simp)⟩) (by assumption) ?_
    (try simp only [Act.put, List.setIfInBounds_toArray, List.set_cons_zero, List.set_cons_succ])
    refine wpAnyH_take (i := 47) (oi := { dst := some 58, op := Op.fieldAddr 29 (Operand.tmp 1) 8, type := 0, pos := "base.go:550", after := #[], guard := none }) (v := .pointer (some ⟨w.heap.size, 11, none⟩)) rfl (by kernel_rfl) (by kernel_rfl) (by kernel_rfl) (fun _ _ _ h => h) (Or.inl ⟨by rfl, fun w' hSw => by ((try dsimp only at hSw); go_simp)⟩) (by assumption) ?_
    (try simp only [Act.put, List.setIfInBounds_toArray, List.set_cons_zero, List.set_cons_succ])
    refine wpAnyH_take (i := 48) (oi := { dst := some 59, op := Op.load 25 (Operand.tmp 58), type := 25, pos := "base.go:550", after := #[{ on := 47, ground := Ground.data }], guard := none }) (v := .slice A2 n2 c2) rfl (by kernel_rfl) (by kernel_rfl) (by kernel_rfl) (fun _ _ _ h => h) (Or.inl ⟨by rfl, fun w' hSw => by ((try dsimp only at hSw); have hcell := X11 _ hSw; go_simp)⟩) (by assumption) ?_
    (try simp only [Act.put, List.setIfInBounds_toArray, List.set_cons_zero, List.set_cons_succ])
    refine wpAnyH_take (i := 49) (oi := { dst := some 60, op := Op.call { callee := Callee.builtin Builtin.len, args := #[Operand.tmp 59], argTypes := #[25] }, type := 3, pos := "base.go:550", after := #[{ on := 48, ground := Ground.data }], guard := none }) (v := .int .i64 n2) rfl (by kernel_rfl) (by kernel_rfl) (by kernel_rfl) (fun _ _ _ h => h) (Or.inl ⟨by rfl, fun w' hSw => by ((try dsimp only at hSw); go_simp)⟩) (by assumption) ?_
    (try simp only [Act.put, List.setIfInBounds_toArray, List.set_cons_zero, List.set_cons_succ])
    refine wpAnyH_ready (rs := [2]) (by kernel_rfl) (by simp) ?_
    refine AllReadyH.cons (o := { dst := some 13, op := Op.call { callee := Callee.value (Operand.func 23), args := #[Operand.tmp 12], argTypes := #[3] }, type := 9, pos := "base.go:550", after := #[{ on := 1, ground := Ground.data }], guard := none }) rfl (fun K hK => ?_) ?_
    · go_simp; go_at_call 23; refine (N1.out _).mono ?_; rintro e u29 ⟨rfl, hb⟩
      refine hK.out _ _ ?_ (fun hHeld => ?_)
      · exact Held.step (by assumption) hb
      clear hK K
      (try simp only [Act.put, List.setIfInBounds_toArray, List.set_cons_zero, List.set_cons_succ])
      clear hb
      refine wpAnyH_ready (rs := [5]) (by kernel_rfl) (by simp) ?_
      refine AllReadyH.cons (o := { dst := some 16, op := Op.call { callee := Callee.value (Operand.func 23), args := #[Operand.tmp 15], argTypes := #[3] }, type := 9, pos := "base.go:550", after := #[{ on := 4, ground := Ground.data }, { on := 2, ground := Ground.chain }], guard := none }) rfl (fun K hK => ?_) ?_
      · go_simp; go_at_call 23; refine (N2.out _).mono ?_; rintro e u30 ⟨rfl, hb⟩
        refine hK.out _ _ ?_ (fun hHeld => ?_)
        · exact Held.step (by assumption) hb
        clear hK K
        (try simp only [Act.put, List.setIfInBounds_toArray, List.set_cons_zero, List.set_cons_succ])
        clear hb
        refine wpAnyH_take (i := 6) (oi := { dst := some 17, op := Op.binOp BinOp.add 9 (Operand.tmp 13) (Operand.tmp 16) 9, type := 9, pos := "base.go:550", after := #[{ on := 2, ground := Ground.data }, { on := 5, ground := Ground.data }], guard := none }) (v := .string (a1 ++ a2)) rfl (by kernel_rfl) (by kernel_rfl) (by kernel_rfl) (fun _ _ _ h => h) (Or.inl ⟨by rfl, fun w' hSw => by ((try dsimp only at hSw); go_simp; omega)⟩) (by assumption) ?_
        (try simp only [Act.put, List.setIfInBounds_toArray, List.set_cons_zero, List.set_cons_succ])
        refine wpAnyH_ready (rs := [9]) (by kernel_rfl) (by simp) ?_
        refine AllReadyH.cons (o := { dst := some 20, op := Op.call { callee := Callee.value (Operand.func 24), args := #[Operand.tmp 19], argTypes := #[3] }, type := 9, pos := "base.go:550", after := #[{ on := 8, ground := Ground.data }, { on := 5, ground := Ground.chain }], guard := none }) rfl (fun K hK => ?_) ?_
        · go_simp; go_at_call 24; refine (N3.out _).mono ?_; rintro e u32 ⟨rfl, hb⟩
          refine hK.out _ _ ?_ (fun hHeld => ?_)
          · exact Held.step (by assumption) hb
          clear hK K
          (try simp only [Act.put, List.setIfInBounds_toArray, List.set_cons_zero, List.set_cons_succ])
          clear hb
          refine wpAnyH_take (i := 10) (oi := { dst := some 21, op := Op.binOp BinOp.add 9 (Operand.tmp 17) (Operand.tmp 20) 9, type := 9, pos := "base.go:550", after := #[{ on := 6, ground := Ground.data }, { on := 9, ground := Ground.data }], guard := none }) (v := .string (a1 ++ a2 ++ a3)) rfl (by kernel_rfl) (by kernel_rfl) (by kernel_rfl) (fun _ _ _ h => h) (Or.inl ⟨by rfl, fun w' hSw => by ((try dsimp only at hSw); go_simp; omega)⟩) (by assumption) ?_
          (try simp only [Act.put, List.setIfInBounds_toArray, List.set_cons_zero, List.set_cons_succ])
          refine wpAnyH_ready (rs := [13]) (by kernel_rfl) (by simp) ?_
          refine AllReadyH.cons (o := { dst := some 24, op := Op.call { callee := Callee.value (Operand.func 24), args := #[Operand.tmp 23], argTypes := #[3] }, type := 9, pos := "base.go:550", after := #[{ on := 12, ground := Ground.data }, { on := 9, ground := Ground.chain }], guard := none }) rfl (fun K hK => ?_) ?_
          · go_simp; go_at_call 24; refine (N4.out _).mono ?_; rintro e u34 ⟨rfl, hb⟩
            refine hK.out _ _ ?_ (fun hHeld => ?_)
            · exact Held.step (by assumption) hb
            clear hK K
            (try simp only [Act.put, List.setIfInBounds_toArray, List.set_cons_zero, List.set_cons_succ])
            clear hb
            refine wpAnyH_take (i := 14) (oi := { dst := some 25, op := Op.binOp BinOp.add 9 (Operand.tmp 21) (Operand.tmp 24) 9, type := 9, pos := "base.go:550", after := #[{ on := 10, ground := Ground.data }, { on := 13, ground := Ground.data }], guard := none }) (v := .string (a1 ++ a2 ++ a3 ++ a4)) rfl (by kernel_rfl) (by kernel_rfl) (by kernel_rfl) (fun _ _ _ h => h) (Or.inl ⟨by rfl, fun w' hSw => by ((try dsimp only at hSw); go_simp; omega)⟩) (by assumption) ?_
            (try simp only [Act.put, List.setIfInBounds_toArray, List.set_cons_zero, List.set_cons_succ])
            refine wpAnyH_ready (rs := [17]) (by kernel_rfl) (by simp) ?_
            refine AllReadyH.cons (o := { dst := some 28, op := Op.call { callee := Callee.value (Operand.func 25), args := #[Operand.tmp 27], argTypes := #[9] }, type := 9, pos := "base.go:550", after := #[{ on := 16, ground := Ground.data }, { on := 13, ground := Ground.chain }], guard := none }) rfl (fun K hK => ?_) ?_
            · go_simp; go_at_call 25; refine (N5.out _).mono ?_; rintro e u36 ⟨rfl, hb⟩
              refine hK.out _ _ ?_ (fun hHeld => ?_)
              · exact Held.step (by assumption) hb
              clear hK K
              (try simp only [Act.put, List.setIfInBounds_toArray, List.set_cons_zero, List.set_cons_succ])
              clear hb
              refine wpAnyH_take (i := 18) (oi := { dst := some 29, op := Op.binOp BinOp.add 9 (Operand.tmp 25) (Operand.tmp 28) 9, type := 9, pos := "base.go:550", after := #[{ on := 14, ground := Ground.data }, { on := 17, ground := Ground.data }], guard := none }) (v := .string (a1 ++ a2 ++ a3 ++ a4 ++ a5)) rfl (by kernel_rfl) (by kernel_rfl) (by kernel_rfl) (fun _ _ _ h => h) (Or.inl ⟨by rfl, fun w' hSw => by ((try dsimp only at hSw); go_simp; omega)⟩) (by assumption) ?_
              (try simp only [Act.put, List.setIfInBounds_toArray, List.set_cons_zero, List.set_cons_succ])
              refine wpAnyH_ready (rs := [21]) (by kernel_rfl) (by simp) ?_
              refine AllReadyH.cons (o := { dst := some 32, op := Op.call { callee := Callee.value (Operand.func 26), args := #[Operand.tmp 31], argTypes := #[4] }, type := 9, pos := "base.go:550", after := #[{ on := 20, ground := Ground.data }, { on := 17, ground := Ground.chain }], guard := none }) rfl (fun K hK => ?_) ?_
              · go_simp; go_at_call 26; refine (N6.out _).mono ?_; rintro e u38 ⟨rfl, hb⟩
                refine hK.out _ _ ?_ (fun hHeld => ?_)
                · exact Held.step (by assumption) hb
                clear hK K
                (try simp only [Act.put, List.setIfInBounds_toArray, List.set_cons_zero, List.set_cons_succ])
                clear hb
                refine wpAnyH_take (i := 22) (oi := { dst := some 33, op := Op.binOp BinOp.add 9 (Operand.tmp 29) (Operand.tmp 32) 9, type := 9, pos := "base.go:550", after := #[{ on := 18, ground := Ground.data }, { on := 21, ground := Ground.data }], guard := none }) (v := .string (a1 ++ a2 ++ a3 ++ a4 ++ a5 ++ a6)) rfl (by kernel_rfl) (by kernel_rfl) (by kernel_rfl) (fun _ _ _ h => h) (Or.inl ⟨by rfl, fun w' hSw => by ((try dsimp only at hSw); go_simp; omega)⟩) (by assumption) ?_
                (try simp only [Act.put, List.setIfInBounds_toArray, List.set_cons_zero, List.set_cons_succ])
                refine wpAnyH_ready (rs := [26]) (by kernel_rfl) (by simp) ?_
                refine AllReadyH.cons (o := { dst := some 37, op := Op.call { callee := Callee.value (Operand.func 25), args := #[Operand.tmp 36], argTypes := #[9] }, type := 9, pos := "base.go:550", after := #[{ on := 25, ground := Ground.data }, { on := 21, ground := Ground.chain }], guard := none }) rfl (fun K hK => ?_) ?_
                · go_simp; go_at_call 25; refine (N7.out _).mono ?_; rintro e u40 ⟨rfl, hb⟩
                  refine hK.out _ _ ?_ (fun hHeld => ?_)
                  · exact Held.step (by assumption) hb
                  clear hK K
                  (try simp only [Act.put, List.setIfInBounds_toArray, List.set_cons_zero, List.set_cons_succ])
                  clear hb
                  refine wpAnyH_take (i := 27) (oi := { dst := some 38, op := Op.binOp BinOp.add 9 (Operand.tmp 33) (Operand.tmp 37) 9, type := 9, pos := "base.go:550", after := #[{ on := 22, ground := Ground.data }, { on := 26, ground := Ground.data }], guard := none }) (v := .string (a1 ++ a2 ++ a3 ++ a4 ++ a5 ++ a6 ++ a7)) rfl (by kernel_rfl) (by kernel_rfl) (by kernel_rfl) (fun _ _ _ h => h) (Or.inl ⟨by rfl, fun w' hSw => by ((try dsimp only at hSw); go_simp; omega)⟩) (by assumption) ?_
                  (try simp only [Act.put, List.setIfInBounds_toArray, List.set_cons_zero, List.set_cons_succ])
                  refine wpAnyH_ready (rs := [31]) (by kernel_rfl) (by simp) ?_
                  refine AllReadyH.cons (o := { dst := some 42, op := Op.call { callee := Callee.value (Operand.func 25), args := #[Operand.tmp 41], argTypes := #[9] }, type := 9, pos := "base.go:550", after := #[{ on := 30, ground := Ground.data }, { on := 26, ground := Ground.chain }], guard := none }) rfl (fun K hK => ?_) ?_
                  · go_simp; go_at_call 25; refine (N8.out _).mono ?_; rintro e u42 ⟨rfl, hb⟩
                    refine hK.out _ _ ?_ (fun hHeld => ?_)
                    · exact Held.step (by assumption) hb
                    clear hK K
                    (try simp only [Act.put, List.setIfInBounds_toArray, List.set_cons_zero, List.set_cons_succ])
                    clear hb
                    refine wpAnyH_take (i := 32) (oi := { dst := some 43, op := Op.binOp BinOp.add 9 (Operand.tmp 38) (Operand.tmp 42) 9, type := 9, pos := "base.go:550", after := #[{ on := 27, ground := Ground.data }, { on := 31, ground := Ground.data }], guard := none }) (v := .string (a1 ++ a2 ++ a3 ++ a4 ++ a5 ++ a6 ++ a7 ++ a8)) rfl (by kernel_rfl) (by kernel_rfl) (by kernel_rfl) (fun _ _ _ h => h) (Or.inl ⟨by rfl, fun w' hSw => by ((try dsimp only at hSw); go_simp; omega)⟩) (by assumption) ?_
                    (try simp only [Act.put, List.setIfInBounds_toArray, List.set_cons_zero, List.set_cons_succ])
                    refine wpAnyH_ready (rs := [36]) (by kernel_rfl) (by simp) ?_
                    refine AllReadyH.cons (o := { dst := some 47, op := Op.call { callee := Callee.value (Operand.func 23), args := #[Operand.tmp 46], argTypes := #[3] }, type := 9, pos := "base.go:550", after := #[{ on := 35, ground := Ground.data }, { on := 31, ground := Ground.chain }], guard := none }) rfl (fun K hK => ?_) ?_
                    · go_simp; go_at_call 23; refine (N9.out _).mono ?_; rintro e u44 ⟨rfl, hb⟩
                      refine hK.out _ _ ?_ (fun hHeld => ?_)
                      · exact Held.step (by assumption) hb
                      clear hK K
                      (try simp only [Act.put, List.setIfInBounds_toArray, List.set_cons_zero, List.set_cons_succ])
                      clear hb
                      refine wpAnyH_take (i := 37) (oi := { dst := some 48, op := Op.binOp BinOp.add 9 (Operand.tmp 43) (Operand.tmp 47) 9, type := 9, pos := "base.go:550", after := #[{ on := 32, ground := Ground.data }, { on := 36, ground := Ground.data }], guard := none }) (v := .string (a1 ++ a2 ++ a3 ++ a4 ++ a5 ++ a6 ++ a7 ++ a8 ++ a9)) rfl (by kernel_rfl) (by kernel_rfl) (by kernel_rfl) (fun _ _ _ h => h) (Or.inl ⟨by rfl, fun w' hSw => by ((try dsimp only at hSw); go_simp; omega)⟩) (by assumption) ?_
                      (try simp only [Act.put, List.setIfInBounds_toArray, List.set_cons_zero, List.set_cons_succ])
                      refine wpAnyH_ready (rs := [41]) (by kernel_rfl) (by simp) ?_
                      refine AllReadyH.cons (o := { dst := some 52, op := Op.call { callee := Callee.value (Operand.func 23), args := #[Operand.tmp 51], argTypes := #[3] }, type := 9, pos := "base.go:550", after := #[{ on := 40, ground := Ground.data }, { on := 36, ground := Ground.chain }], guard := none }) rfl (fun K hK => ?_) ?_
                      · go_simp; go_at_call 23; refine (N10.out _).mono ?_; rintro e u46 ⟨rfl, hb⟩
                        refine hK.out _ _ ?_ (fun hHeld => ?_)
                        · exact Held.step (by assumption) hb
                        clear hK K
                        (try simp only [Act.put, List.setIfInBounds_toArray, List.set_cons_zero, List.set_cons_succ])
                        clear hb
                        refine wpAnyH_take (i := 42) (oi := { dst := some 53, op := Op.binOp BinOp.add 9 (Operand.tmp 48) (Operand.tmp 52) 9, type := 9, pos := "base.go:550", after := #[{ on := 37, ground := Ground.data }, { on := 41, ground := Ground.data }], guard := none }) (v := .string (a1 ++ a2 ++ a3 ++ a4 ++ a5 ++ a6 ++ a7 ++ a8 ++ a9 ++ a10)) rfl (by kernel_rfl) (by kernel_rfl) (by kernel_rfl) (fun _ _ _ h => h) (Or.inl ⟨by rfl, fun w' hSw => by ((try dsimp only at hSw); go_simp; omega)⟩) (by assumption) ?_
                        (try simp only [Act.put, List.setIfInBounds_toArray, List.set_cons_zero, List.set_cons_succ])
                        refine wpAnyH_ready (rs := [45]) (by kernel_rfl) (by simp) ?_
                        refine AllReadyH.cons (o := { dst := some 56, op := Op.call { callee := Callee.value (Operand.func 27), args := #[Operand.tmp 55], argTypes := #[24] }, type := 9, pos := "base.go:550", after := #[{ on := 44, ground := Ground.data }, { on := 41, ground := Ground.chain }], guard := none }) rfl (fun K hK => ?_) ?_
                        · go_simp; go_at_call 27; refine (N11'.out _ (by assumption)).mono ?_; rintro e u48 ⟨rfl, hb⟩
                          refine hK.out _ _ ?_ (fun hHeld => ?_)
                          · exact Held.step (by assumption) hb
                          clear hK K
                          (try simp only [Act.put, List.setIfInBounds_toArray, List.set_cons_zero, List.set_cons_succ])
                          clear hb
                          refine wpAnyH_take (i := 46) (oi := { dst := some 57, op := Op.binOp BinOp.add 9 (Operand.tmp 53) (Operand.tmp 56) 9, type := 9, pos := "base.go:550", after := #[{ on := 42, ground := Ground.data }, { on := 45, ground := Ground.data }], guard := none }) (v := .string (a1 ++ a2 ++ a3 ++ a4 ++ a5 ++ a6 ++ a7 ++ a8 ++ a9 ++ a10 ++ a11)) rfl (by kernel_rfl) (by kernel_rfl) (by kernel_rfl) (fun _ _ _ h => h) (Or.inl ⟨by rfl, fun w' hSw => by ((try dsimp only at hSw); go_simp; omega)⟩) (by assumption) ?_
                          (try simp only [Act.put, List.setIfInBounds_toArray, List.set_cons_zero, List.set_cons_succ])
                          refine wpAnyH_ready (rs := [50]) (by kernel_rfl) (by simp) ?_
                          refine AllReadyH.cons (o := { dst := some 61, op := Op.call { callee := Callee.value (Operand.func 23), args := #[Operand.tmp 60], argTypes := #[3] }, type := 9, pos := "base.go:550", after := #[{ on := 49, ground := Ground.data }, { on := 45, ground := Ground.chain }], guard := none }) rfl (fun K hK => ?_) ?_
                          · go_simp; go_at_call 23; refine (N12.out _).mono ?_; rintro e u50 ⟨rfl, hb⟩
                            refine hK.out _ _ ?_ (fun hHeld => ?_)
                            · exact Held.step (by assumption) hb
                            clear hK K
                            (try simp only [Act.put, List.setIfInBounds_toArray, List.set_cons_zero, List.set_cons_succ])
                            clear hb
                            refine wpAnyH_take (i := 51) (oi := { dst := some 62, op := Op.binOp BinOp.add 9 (Operand.tmp 57) (Operand.tmp 61) 9, type := 9, pos := "base.go:550", after := #[{ on := 46, ground := Ground.data }, { on := 50, ground := Ground.data }], guard := none }) (v := .string (a1 ++ a2 ++ a3 ++ a4 ++ a5 ++ a6 ++ a7 ++ a8 ++ a9 ++ a10 ++ a11 ++ a12)) rfl (by kernel_rfl) (by kernel_rfl) (by kernel_rfl) (fun _ _ _ h => h) (Or.inl ⟨by rfl, fun w' hSw => by ((try dsimp only at hSw); go_simp; omega)⟩) (by assumption) ?_
                            (try simp only [Act.put, List.setIfInBounds_toArray, List.set_cons_zero, List.set_cons_succ])
                            refine wpAnyH_take (i := 52) (oi := { dst := some 4, op := Op.assign (Operand.tmp 62), type := 9, pos := "base.go:550", after := #[{ on := 51, ground := Ground.data }, { on := 50, ground := Ground.chain }, { on := 0, ground := Ground.phase }, { on := 1, ground := Ground.phase }, { on := 2, ground := Ground.phase }, { on := 3, ground := Ground.phase }, { on := 4, ground := Ground.phase }, { on := 5, ground := Ground.phase }, { on := 6, ground := Ground.phase }, { on := 7, ground := Ground.phase }, { on := 8, ground := Ground.phase }, { on := 9, ground := Ground.phase }, { on := 10, ground := Ground.phase }, { on := 11, ground := Ground.phase }, { on := 12, ground := Ground.phase }, { on := 13, ground := Ground.phase }, { on := 14, ground := Ground.phase }, { on := 15, ground := Ground.phase }, { on := 16, ground := Ground.phase }, { on := 17, ground := Ground.phase }, { on := 18, ground := Ground.phase }, { on := 19, ground := Ground.phase }, { on := 20, ground := Ground.phase }, { on := 21, ground := Ground.phase }, { on := 22, ground := Ground.phase }, { on := 23, ground := Ground.phase }, { on := 24, ground := Ground.phase }, { on := 25, ground := Ground.phase }, { on := 26, ground := Ground.phase }, { on := 27, ground := Ground.phase }, { on := 28, ground := Ground.phase }, { on := 29, ground := Ground.phase }, { on := 30, ground := Ground.phase }, { on := 31, ground := Ground.phase }, { on := 32, ground := Ground.phase }, { on := 33, ground := Ground.phase }, { on := 34, ground := Ground.phase }, { on := 35, ground := Ground.phase }, { on := 36, ground := Ground.phase }, { on := 37, ground := Ground.phase }, { on := 38, ground := Ground.phase }, { on := 39, ground := Ground.phase }, { on := 40, ground := Ground.phase }, { on := 41, ground := Ground.phase }, { on := 42, ground := Ground.phase }, { on := 43, ground := Ground.phase }, { on := 44, ground := Ground.phase }, { on := 45, ground := Ground.phase }, { on := 46, ground := Ground.phase }, { on := 47, ground := Ground.phase }, { on := 48, ground := Ground.phase }, { on := 49, ground := Ground.phase }, { on := 50, ground := Ground.phase }, { on := 51, ground := Ground.phase }], guard := none }) (v := .string (a1 ++ a2 ++ a3 ++ a4 ++ a5 ++ a6 ++ a7 ++ a8 ++ a9 ++ a10 ++ a11 ++ a12)) rfl (by kernel_rfl) (by kernel_rfl) (by kernel_rfl) (fun _ _ _ h => h) (Or.inl ⟨by rfl, fun w' hSw => by ((try dsimp only at hSw); go_simp)⟩) (by assumption) ?_
                            (try simp only [Act.put, List.setIfInBounds_toArray, List.set_cons_zero, List.set_cons_succ])
                            refine wpAnyH_done (by kernel_rfl) ?_ _
                            refine NoPanic.normal ?_
                            have HU := Lib.hid hHeld
                            clear hHeld X0 X1 X2 X3 X4 X5 X6 X7 X8 X9 X10 X11 X12 X13 N11' N11 N1 N2 N3 N4 N5 N6 N7 N8 N9 N10 N12
                            have HXU := Lib.hid (HXV.out.held HU.out)
                            have yy := (HXU.out.cell 11).trans rfl
                            have HSS := Lib.hid HS1.out
                            clear HS1 y2 y3 y4 y5 y6 y7 y8 y9 y10 y11
                            generalize a1 ++ a2 ++ a3 ++ a4 ++ a5 ++ a6 ++ a7 ++ a8 ++ a9 ++ a10 ++ a11 ++ a12 = S1 at *
                            clear z1 z2 z3 z4 z5 z6 z7 z8 z9 z10 z11 z12
                            go_wp2_with fail
                            clear yy
                            go_loopw [4, 5] (fun s x wr => ∃ k : Nat, k ≤ n2 ∧ x = .int .i64 k ∧ ∃ S, s = .string S ∧ S.size ≤ 500 + 300 * k ∧ Hid (S = str ((E0 ++ w2 n2) ++ (pts.take k).flatMap encP) ∧ Held V wr)) (fun _ x _ => n2 - (intOf x).toNat)
                            case atStart => exact ⟨0, Nat.zero_le _, rfl, _, rfl, by omega, HSS.out, HU.out⟩
                            case round =>
                              clear HSS HU HXU
                              obtain ⟨k, hk, rfl, S, rfl, hS, hq⟩ := hrel
                              have HQ := Lib.hid hq.out
                              clear hq
                              have HXW := Lib.hid (HXV.out.held HQ.out.2)
                              have HBW := Lib.hid (HV.out.trans (Below.mono HQ.out.2 HV.out.size))
                              have xx := (HXW.out.cell 11).trans rfl
                              have b0 : (0 : Int) ≤ (k : Int) := by omega
                              by_cases hlt : k < n2
                              · have b1 : (k : Int) < (n2 : Int) := by omega
                                have hkl : k < pts.length := by rw [HL2.out]; exact hlt
                                have HJ := Lib.hid (join_take encP ((E0 ++ w2 n2)) pts k nilP hkl)
                                have hx := P2.out _ (getD_mem' nilP hkl)
                                obtain ⟨b, off, rfl, hb, ⟨p0, p1, p2⟩, _⟩ := (MM.out wr HBW.out).p.2.2 k hlt
                                have hbl := Nat.lt_of_lt_of_le hb HBW.out.size
                                obtain ⟨e1, e2, e3, e4, e5⟩ := rightP_iff.1 hx
                                generalize pts.getD k nilP = x at *
                                obtain ⟨pg, ofs, bs⟩ := x
                                dsimp only at p0 p1 p2 e1 e2 e3 e4 e5
                                have M1 := Lib.hid (fun u => rnum_is pg ⟨by omega, by omega⟩ u)
                                have M2 := Lib.hid (fun u => rnum_is ofs ⟨by omega, by omega⟩ u)
                                have M3 := Lib.hid (fun u => rtext_is bs (by omega) u)
                                have s1 : (str (w2 pg)).size ≤ 2 := Nat.le_refl _
                                have s2 : (str (w2 ofs)).size ≤ 2 := Nat.le_refl _
                                have s3 : (str (encS bs)).size ≤ 258 := by rw [str_sz, encS_length]; omega
                                have HE := Lib.hid (show S ++ str (w2 pg) ++ str (w2 ofs) ++ str (encS bs) = str ((E0 ++ w2 n2) ++ (pts.take (k + 1)).flatMap encP) from by
                                  rw [HJ.out, HQ.out.1]
                                  unfold encP
                                  simp only [str_app, List.append_assoc])
                                generalize str (w2 pg) = q1 at *
                                generalize str (w2 ofs) = q2 at *
                                generalize str (encS bs) = q3 at *
                                clear hb e1 e2 e3 e4 e5 hx hkl
                                go_upto_region 7 with fail
                                clear xx
                                have W0 : ∀ u, Held wr u → u.cell? ⟨w.heap.size, 11, none⟩ = some (.slice (some ⟨b, off, none⟩) n2 c2) := fun u hu => ((HXW.out.held hu).cell 11).trans rfl
                                have W1 : ∀ u, Held wr u → u.cell? ⟨b, off + k * 3, none⟩ = some (.int .i64 pg) := fun u hu => (Below.cell (p := ⟨b, off + k * 3, none⟩) hu hbl).trans p0
                                have W2 : ∀ u, Held wr u → u.cell? ⟨b, off + k * 3 + 1, none⟩ = some (.int .i64 ofs) := fun u hu => (Below.cell (p := ⟨b, off + k * 3 + 1, none⟩) hu hbl).trans p1
                                have W3 : ∀ u, Held wr u → u.cell? ⟨b, off + k * 3 + 2, none⟩ = some (.string bs) := fun u hu => (Below.cell (p := ⟨b, off + k * 3 + 2, none⟩) hu hbl).trans p2
                                have y1 : (S ++ q1).size ≤ 500 + 300 * k + 2 := by simp only [ByteArray.size_append]; omega
                                have y2 : (S ++ q1 ++ q2).size ≤ 500 + 300 * k + 4 := by simp only [ByteArray.size_append]; omega
                                have y3 : (S ++ q1 ++ q2 ++ q3).size ≤ 500 + 300 * k + 262 := by simp only [ByteArray.size_append]; omega
                                refine wp_region_noPanic ?_
                                refine wp_region_held_drew (S := Held wr) (by kernel_rfl) ?_ (fun hHeld => ?_)
                                · exact Held.start' wr
                                refine wpAnyH_take (i := 0) (oi := { dst := some 70, op := Op.move (Operand.tmp 4), type := 9, pos := "base.go:552", after := #[], guard := none }) (v := .string S) rfl (by kernel_rfl) (by kernel_rfl) (by kernel_rfl) (fun _ _ _ h => h) (Or.inl ⟨by rfl, fun w' hSw => by ((try dsimp only at hSw); go_simp)⟩) (by assumption) ?_
                                (try simp only [Act.put, List.setIfInBounds_toArray, List.set_cons_zero, List.set_cons_succ])
                                refine wpAnyH_take (i := 1) (oi := { dst := some 71, op := Op.fieldAddr 29 (Operand.tmp 1) 8, type := 0, pos := "base.go:552", after := #[], guard := none }) (v := .pointer (some ⟨w.heap.size, 11, none⟩)) rfl (by kernel_rfl) (by kernel_rfl) (by kernel_rfl) (fun _ _ _ h => h) (Or.inl ⟨by rfl, fun w' hSw => by ((try dsimp only at hSw); go_simp)⟩) (by assumption) ?_
                                (try simp only [Act.put, List.setIfInBounds_toArray, List.set_cons_zero, List.set_cons_succ])
                                refine wpAnyH_take (i := 2) (oi := { dst := some 72, op := Op.load 25 (Operand.tmp 71), type := 25, pos := "base.go:552", after := #[{ on := 1, ground := Ground.data }], guard := none }) (v := .slice (some ⟨b, off, none⟩) n2 c2) rfl (by kernel_rfl) (by kernel_rfl) (by kernel_rfl) (fun _ _ _ h => h) (Or.inl ⟨by rfl, fun w' hSw => by ((try dsimp only at hSw); have hcell := W0 _ hSw; go_simp)⟩) (by assumption) ?_
                                (try simp only [Act.put, List.setIfInBounds_toArray, List.set_cons_zero, List.set_cons_succ])
                                refine wpAnyH_take (i := 3) (oi := { dst := some 73, op := Op.move (Operand.tmp 5), type := 3, pos := "base.go:552", after := #[], guard := none }) (v := .int .i64 k) rfl (by kernel_rfl) (by kernel_rfl) (by kernel_rfl) (fun _ _ _ h => h) (Or.inl ⟨by rfl, fun w' hSw => by ((try dsimp only at hSw); go_simp)⟩) (by assumption) ?_
                                (try simp only [Act.put, List.setIfInBounds_toArray, List.set_cons_zero, List.set_cons_succ])
                                refine wpAnyH_take (i := 4) (oi := { dst := some 74, op := Op.indexAddr 25 (Operand.tmp 72) (Operand.tmp 73), type := 0, pos := "base.go:552", after := #[{ on := 2, ground := Ground.data }, { on := 3, ground := Ground.data }], guard := none }) (v := .pointer (some ⟨b, off + k * 3, none⟩)) rfl (by kernel_rfl) (by kernel_rfl) (by kernel_rfl) (fun _ _ _ h => h) (Or.inl ⟨by rfl, fun w' hSw => by ((try dsimp only at hSw); go_simp)⟩) (by assumption) ?_
                                (try simp only [Act.put, List.setIfInBounds_toArray, List.set_cons_zero, List.set_cons_succ])
                                refine wpAnyH_take (i := 5) (oi := { dst := some 75, op := Op.fieldAddr 59 (Operand.tmp 74) 0, type := 0, pos := "base.go:552", after := #[{ on := 4, ground := Ground.data }], guard := none }) (v := .pointer (some ⟨b, off + k * 3, none⟩)) rfl (by kernel_rfl) (by kernel_rfl) (by kernel_rfl) (fun _ _ _ h => h) (Or.inl ⟨by rfl, fun w' hSw => by ((try dsimp only at hSw); go_simp)⟩) (by assumption) ?_
                                (try simp only [Act.put, List.setIfInBounds_toArray, List.set_cons_zero, List.set_cons_succ])
                                refine wpAnyH_take (i := 6) (oi := { dst := some 76, op := Op.load 3 (Operand.tmp 75), type := 3, pos := "base.go:552", after := #[{ on := 5, ground := Ground.data }], guard := none }) (v := .int .i64 pg) rfl (by kernel_rfl) (by kernel_rfl) (by kernel_rfl) (fun _ _ _ h => h) (Or.inl ⟨by rfl, fun w' hSw => by ((try dsimp only at hSw); have hcell := W1 _ hSw; go_simp)⟩) (by assumption) ?_
                                (try simp only [Act.put, List.setIfInBounds_toArray, List.set_cons_zero, List.set_cons_succ])
                                refine wpAnyH_take (i := 9) (oi := { dst := some 79, op := Op.fieldAddr 29 (Operand.tmp 1) 8, type := 0, pos := "base.go:552", after := #[], guard := none }) (v := .pointer (some ⟨w.heap.size, 11, none⟩)) rfl (by kernel_rfl) (by kernel_rfl) (by kernel_rfl) (fun _ _ _ h => h) (Or.inl ⟨by rfl, fun w' hSw => by ((try dsimp only at hSw); go_simp)⟩) (by assumption) ?_
                                (try simp only [Act.put, List.setIfInBounds_toArray, List.set_cons_zero, List.set_cons_succ])
                                refine wpAnyH_take (i := 10) (oi := { dst := some 80, op := Op.load 25 (Operand.tmp 79), type := 25, pos := "base.go:552", after := #[{ on := 9, ground := Ground.data }], guard := none }) (v := .slice (some ⟨b, off, none⟩) n2 c2) rfl (by kernel_rfl) (by kernel_rfl) (by kernel_rfl) (fun _ _ _ h => h) (Or.inl ⟨by rfl, fun w' hSw => by ((try dsimp only at hSw); have hcell := W0 _ hSw; go_simp)⟩) (by assumption) ?_
                                (try simp only [Act.put, List.setIfInBounds_toArray, List.set_cons_zero, List.set_cons_succ])
                                refine wpAnyH_take (i := 11) (oi := { dst := some 81, op := Op.move (Operand.tmp 5), type := 3, pos := "base.go:552", after := #[], guard := none }) (v := .int .i64 k) rfl (by kernel_rfl) (by kernel_rfl) (by kernel_rfl) (fun _ _ _ h => h) (Or.inl ⟨by rfl, fun w' hSw => by ((try dsimp only at hSw); go_simp)⟩) (by assumption) ?_
                                (try simp only [Act.put, List.setIfInBounds_toArray, List.set_cons_zero, List.set_cons_succ])
                                refine wpAnyH_take (i := 12) (oi := { dst := some 82, op := Op.indexAddr 25 (Operand.tmp 80) (Operand.tmp 81), type := 0, pos := "base.go:552", after := #[{ on := 10, ground := Ground.data }, { on := 11, ground := Ground.data }], guard := none }) (v := .pointer (some ⟨b, off + k * 3, none⟩)) rfl (by kernel_rfl) (by kernel_rfl) (by kernel_rfl) (fun _ _ _ h => h) (Or.inl ⟨by rfl, fun w' hSw => by ((try dsimp only at hSw); go_simp)⟩) (by assumption) ?_
                                (try simp only [Act.put, List.setIfInBounds_toArray, List.set_cons_zero, List.set_cons_succ])
                                refine wpAnyH_take (i := 13) (oi := { dst := some 83, op := Op.fieldAddr 59 (Operand.tmp 82) 1, type := 0, pos := "base.go:552", after := #[{ on := 12, ground := Ground.data }], guard := none }) (v := .pointer (some ⟨b, off + k * 3 + 1, none⟩)) rfl (by kernel_rfl) (by kernel_rfl) (by kernel_rfl) (fun _ _ _ h => h) (Or.inl ⟨by rfl, fun w' hSw => by ((try dsimp only at hSw); go_simp)⟩) (by assumption) ?_
                                (try simp only [Act.put, List.setIfInBounds_toArray, List.set_cons_zero, List.set_cons_succ])
                                refine wpAnyH_take (i := 14) (oi := { dst := some 84, op := Op.load 3 (Operand.tmp 83), type := 3, pos := "base.go:552", after := #[{ on := 13, ground := Ground.data }], guard := none }) (v := .int .i64 ofs) rfl (by kernel_rfl) (by kernel_rfl) (by kernel_rfl) (fun _ _ _ h => h) (Or.inl ⟨by rfl, fun w' hSw => by ((try dsimp only at hSw); have hcell := W2 _ hSw; go_simp)⟩) (by assumption) ?_
                                (try simp only [Act.put, List.setIfInBounds_toArray, List.set_cons_zero, List.set_cons_succ])
                                refine wpAnyH_take (i := 17) (oi := { dst := some 87, op := Op.fieldAddr 29 (Operand.tmp 1) 8, type := 0, pos := "base.go:552", after := #[], guard := none }) (v := .pointer (some ⟨w.heap.size, 11, none⟩)) rfl (by kernel_rfl) (by kernel_rfl) (by kernel_rfl) (fun _ _ _ h => h) (Or.inl ⟨by rfl, fun w' hSw => by ((try dsimp only at hSw); go_simp)⟩) (by assumption) ?_
                                (try simp only [Act.put, List.setIfInBounds_toArray, List.set_cons_zero, List.set_cons_succ])
                                refine wpAnyH_take (i := 18) (oi := { dst := some 88, op := Op.load 25 (Operand.tmp 87), type := 25, pos := "base.go:552", after := #[{ on := 17, ground := Ground.data }], guard := none }) (v := .slice (some ⟨b, off, none⟩) n2 c2) rfl (by kernel_rfl) (by kernel_rfl) (by kernel_rfl) (fun _ _ _ h => h) (Or.inl ⟨by rfl, fun w' hSw => by ((try dsimp only at hSw); have hcell := W0 _ hSw; go_simp)⟩) (by assumption) ?_
                                (try simp only [Act.put, List.setIfInBounds_toArray, List.set_cons_zero, List.set_cons_succ])
                                refine wpAnyH_take (i := 19) (oi := { dst := some 89, op := Op.move (Operand.tmp 5), type := 3, pos := "base.go:552", after := #[], guard := none }) (v := .int .i64 k) rfl (by kernel_rfl) (by kernel_rfl) (by kernel_rfl) (fun _ _ _ h => h) (Or.inl ⟨by rfl, fun w' hSw => by ((try dsimp only at hSw); go_simp)⟩) (by assumption) ?_
                                (try simp only [Act.put, List.setIfInBounds_toArray, List.set_cons_zero, List.set_cons_succ])
                                refine wpAnyH_take (i := 20) (oi := { dst := some 90, op := Op.indexAddr 25 (Operand.tmp 88) (Operand.tmp 89), type := 0, pos := "base.go:552", after := #[{ on := 18, ground := Ground.data }, { on := 19, ground := Ground.data }], guard := none }) (v := .pointer (some ⟨b, off + k * 3, none⟩)) rfl (by kernel_rfl) (by kernel_rfl) (by kernel_rfl) (fun _ _ _ h => h) (Or.inl ⟨by rfl, fun w' hSw => by ((try dsimp only at hSw); go_simp)⟩) (by assumption) ?_
                                (try simp only [Act.put, List.setIfInBounds_toArray, List.set_cons_zero, List.set_cons_succ])
                                refine wpAnyH_take (i := 21) (oi := { dst := some 91, op := Op.fieldAddr 59 (Operand.tmp 90) 2, type := 0, pos := "base.go:552", after := #[{ on := 20, ground := Ground.data }], guard := none }) (v := .pointer (some ⟨b, off + k * 3 + 2, none⟩)) rfl (by kernel_rfl) (by kernel_rfl) (by kernel_rfl) (fun _ _ _ h => h) (Or.inl ⟨by rfl, fun w' hSw => by ((try dsimp only at hSw); go_simp)⟩) (by assumption) ?_
                                (try simp only [Act.put, List.setIfInBounds_toArray, List.set_cons_zero, List.set_cons_succ])
                                refine wpAnyH_take (i := 22) (oi := { dst := some 92, op := Op.load 9 (Operand.tmp 91), type := 9, pos := "base.go:552", after := #[{ on := 21, ground := Ground.data }], guard := none }) (v := .string bs) rfl (by kernel_rfl) (by kernel_rfl) (by kernel_rfl) (fun _ _ _ h => h) (Or.inl ⟨by rfl, fun w' hSw => by ((try dsimp only at hSw); have hcell := W3 _ hSw; go_simp)⟩) (by assumption) ?_
                                (try simp only [Act.put, List.setIfInBounds_toArray, List.set_cons_zero, List.set_cons_succ])
                                refine wpAnyH_ready (rs := [7]) (by kernel_rfl) (by simp) ?_
                                refine AllReadyH.cons (o := { dst := some 77, op := Op.call { callee := Callee.value (Operand.func 23), args := #[Operand.tmp 76], argTypes := #[3] }, type := 9, pos := "base.go:552", after := #[{ on := 6, ground := Ground.data }], guard := none }) rfl (fun K hK => ?_) ?_
                                · go_simp; go_at_call 23; refine (M1.out _).mono ?_; rintro e u19 ⟨rfl, hb⟩
                                  refine hK.out _ _ ?_ (fun hHeld => ?_)
                                  · exact Held.step (by assumption) hb
                                  clear hK K
                                  (try simp only [Act.put, List.setIfInBounds_toArray, List.set_cons_zero, List.set_cons_succ])
                                  clear hb
                                  refine wpAnyH_take (i := 8) (oi := { dst := some 78, op := Op.binOp BinOp.add 9 (Operand.tmp 70) (Operand.tmp 77) 9, type := 9, pos := "base.go:552", after := #[{ on := 0, ground := Ground.data }, { on := 7, ground := Ground.data }], guard := none }) (v := .string (S ++ q1)) rfl (by kernel_rfl) (by kernel_rfl) (by kernel_rfl) (fun _ _ _ h => h) (Or.inl ⟨by rfl, fun w' hSw => by ((try dsimp only at hSw); go_simp; omega)⟩) (by assumption) ?_
                                  (try simp only [Act.put, List.setIfInBounds_toArray, List.set_cons_zero, List.set_cons_succ])
                                  refine wpAnyH_ready (rs := [15]) (by kernel_rfl) (by simp) ?_
                                  refine AllReadyH.cons (o := { dst := some 85, op := Op.call { callee := Callee.value (Operand.func 23), args := #[Operand.tmp 84], argTypes := #[3] }, type := 9, pos := "base.go:552", after := #[{ on := 14, ground := Ground.data }, { on := 7, ground := Ground.chain }], guard := none }) rfl (fun K hK => ?_) ?_
                                  · go_simp; go_at_call 23; refine (M2.out _).mono ?_; rintro e u21 ⟨rfl, hb⟩
                                    refine hK.out _ _ ?_ (fun hHeld => ?_)
                                    · exact Held.step (by assumption) hb
                                    clear hK K
                                    (try simp only [Act.put, List.setIfInBounds_toArray, List.set_cons_zero, List.set_cons_succ])
                                    clear hb
                                    refine wpAnyH_take (i := 16) (oi := { dst := some 86, op := Op.binOp BinOp.add 9 (Operand.tmp 78) (Operand.tmp 85) 9, type := 9, pos := "base.go:552", after := #[{ on := 8, ground := Ground.data }, { on := 15, ground := Ground.data }], guard := none }) (v := .string (S ++ q1 ++ q2)) rfl (by kernel_rfl) (by kernel_rfl) (by kernel_rfl) (fun _ _ _ h => h) (Or.inl ⟨by rfl, fun w' hSw => by ((try dsimp only at hSw); go_simp; omega)⟩) (by assumption) ?_
                                    (try simp only [Act.put, List.setIfInBounds_toArray, List.set_cons_zero, List.set_cons_succ])
                                    refine wpAnyH_ready (rs := [23]) (by kernel_rfl) (by simp) ?_
                                    refine AllReadyH.cons (o := { dst := some 93, op := Op.call { callee := Callee.value (Operand.func 25), args := #[Operand.tmp 92], argTypes := #[9] }, type := 9, pos := "base.go:552", after := #[{ on := 22, ground := Ground.data }, { on := 15, ground := Ground.chain }], guard := none }) rfl (fun K hK => ?_) ?_
                                    · go_simp; go_at_call 25; refine (M3.out _).mono ?_; rintro e u23 ⟨rfl, hb⟩
                                      refine hK.out _ _ ?_ (fun hHeld => ?_)
                                      · exact Held.step (by assumption) hb
                                      clear hK K
                                      (try simp only [Act.put, List.setIfInBounds_toArray, List.set_cons_zero, List.set_cons_succ])
                                      clear hb
                                      refine wpAnyH_take (i := 24) (oi := { dst := some 94, op := Op.binOp BinOp.add 9 (Operand.tmp 86) (Operand.tmp 93) 9, type := 9, pos := "base.go:552", after := #[{ on := 16, ground := Ground.data }, { on := 23, ground := Ground.data }], guard := none }) (v := .string (S ++ q1 ++ q2 ++ q3)) rfl (by kernel_rfl) (by kernel_rfl) (by kernel_rfl) (fun _ _ _ h => h) (Or.inl ⟨by rfl, fun w' hSw => by ((try dsimp only at hSw); go_simp; omega)⟩) (by assumption) ?_
                                      (try simp only [Act.put, List.setIfInBounds_toArray, List.set_cons_zero, List.set_cons_succ])
                                      refine wpAnyH_take (i := 25) (oi := { dst := some 4, op := Op.assign (Operand.tmp 94), type := 9, pos := "base.go:552", after := #[{ on := 24, ground := Ground.data }, { on := 23, ground := Ground.chain }, { on := 0, ground := Ground.phase }, { on := 1, ground := Ground.phase }, { on := 2, ground := Ground.phase }, { on := 3, ground := Ground.phase }, { on := 4, ground := Ground.phase }, { on := 5, ground := Ground.phase }, { on := 6, ground := Ground.phase }, { on := 7, ground := Ground.phase }, { on := 8, ground := Ground.phase }, { on := 9, ground := Ground.phase }, { on := 10, ground := Ground.phase }, { on := 11, ground := Ground.phase }, { on := 12, ground := Ground.phase }, { on := 13, ground := Ground.phase }, { on := 14, ground := Ground.phase }, { on := 15, ground := Ground.phase }, { on := 16, ground := Ground.phase }, { on := 17, ground := Ground.phase }, { on := 18, ground := Ground.phase }, { on := 19, ground := Ground.phase }, { on := 20, ground := Ground.phase }, { on := 21, ground := Ground.phase }, { on := 22, ground := Ground.phase }, { on := 23, ground := Ground.phase }, { on := 24, ground := Ground.phase }], guard := none }) (v := .string (S ++ q1 ++ q2 ++ q3)) rfl (by kernel_rfl) (by kernel_rfl) (by kernel_rfl) (fun _ _ _ h => h) (Or.inl ⟨by rfl, fun w' hSw => by ((try dsimp only at hSw); go_simp)⟩) (by assumption) ?_
                                      (try simp only [Act.put, List.setIfInBounds_toArray, List.set_cons_zero, List.set_cons_succ])
                                      refine wpAnyH_done (by kernel_rfl) ?_ _
                                      refine NoPanic.normal ?_
                                      have HN := Lib.hid (show Held V u23 from Below.trans HQ.out.2 (Below.mono hHeld (Below.size HQ.out.2)))
                                      clear hHeld
                                      go_wp2_with fail
                                      go_roundw
                                      case rel => exact ⟨k + 1, by omega, by go_num, _, rfl, by omega, HE.out, HN.out⟩
                                      case measure => simp [intOf]; omega
                                    exact AllReadyH.nil
                                  exact AllReadyH.nil
                                exact AllReadyH.nil
                              · obtain rfl : n2 = k := by omega
                                have hs := HQ.out.1
                                rw [List.take_of_length_le (by rw [HL2.out]; exact Nat.le_refl _)] at hs
                                have HSS := Lib.hid hs
                                have HU := Lib.hid HQ.out.2
                                have HXU := Lib.hid HXW.out
                                clear hs HQ HXW HBW hk hlt b0
                                have yy := (HXU.out.cell 12).trans rfl
                                have hsum : (S ++ a13).size ≤ 12600 := by rw [ByteArray.size_append]; omega
                                obtain ⟨sS, hsS⟩ : ∃ q, S.size = q := ⟨_, rfl⟩
                                obtain ⟨sa, hsa⟩ : ∃ q, a13.size = q := ⟨_, rfl⟩
                                have hsS2 : sS ≤ 20000 := by omega
                                have hsa2 : sa ≤ 2 := by omega
                                go_wp2_with fail
                                refine (N13.out _).mono ?_; rintro e u ⟨rfl, hb⟩
                                replace HU := Lib.hid (show Held V u from Below.trans HU.out (hb.mono (Below.size HU.out)))
                                replace HXU := Lib.hid (HXU.out.held hb)
                                have yz := (HXU.out.cell 12).trans rfl
                                replace HSS := Lib.hid (show S ++ a13 = str ((((E0 ++ w2 n2) ++ pts.flatMap encP) ++ w2 n3) ++ (txs.take 0).flatMap encT) from by
                                  rw [HSS.out, ← HA13.out]
                                  simp only [str_app, List.take_zero, List.flatMap_nil, List.append_nil, List.append_assoc])
                                clear hb yy xx
                                go_wp2_with fail
                                clear yz hsS hsa
                                generalize S ++ a13 = S9 at *
                                clear hsS2 hsa2
                                go_loopw [4, 6] (fun s x wr => ∃ k : Nat, k ≤ n3 ∧ x = .int .i64 k ∧ ∃ S, s = .string S ∧ S.size ≤ 12600 + 200 * k ∧ Hid (S = str ((((E0 ++ w2 n2) ++ pts.flatMap encP) ++ w2 n3) ++ (txs.take k).flatMap encT) ∧ Held V wr)) (fun _ x _ => n3 - (intOf x).toNat)
                                case atStart => exact ⟨0, Nat.zero_le _, rfl, _, rfl, by omega, HSS.out, HU.out⟩
                                case round =>
                                  clear HSS HU HXU
                                  obtain ⟨k, hk, rfl, S, rfl, hS, hq⟩ := hrel
                                  have HQ := Lib.hid hq.out
                                  clear hq
                                  have HXW := Lib.hid (HXV.out.held HQ.out.2)
                                  have HBW := Lib.hid (HV.out.trans (Below.mono HQ.out.2 HV.out.size))
                                  have xx := (HXW.out.cell 12).trans rfl
                                  have b0 : (0 : Int) ≤ (k : Int) := by omega
                                  by_cases hlt : k < n3
                                  · have b1 : (k : Int) < (n3 : Int) := by omega
                                    have hkl : k < txs.length := by rw [HL3.out]; exact hlt
                                    have HJ := Lib.hid (join_take encT ((((E0 ++ w2 n2) ++ pts.flatMap encP) ++ w2 n3)) txs k nilT hkl)
                                    have hx := T2.out _ (getD_mem' nilT hkl)
                                    obtain ⟨b, off, rfl, hb, ⟨p0, p1, p2, A5, n5, c5, p3, hpg⟩, _⟩ := (MM.out wr HBW.out).t.2.2 k hlt
                                    have hbl := Nat.lt_of_lt_of_le hb HBW.out.size
                                    obtain ⟨e1, e2, e3⟩ := rightT_iff.1 hx
                                    obtain ⟨e4, e5⟩ := everyB_iff.1 e3
                                    generalize txs.getD k nilT = x at *
                                    obtain ⟨xi, xl, xc, xp⟩ := x
                                    dsimp only at p0 p1 p2 p3 e1 e2 e3 e4 e5 hpg
                                    rw [hpg.1] at e4
                                    have M1 := Lib.hid (fun u => rnum_is xi (two_iff.1 e1) u)
                                    have M2 := Lib.hid (fun u => rlong_is xl (four_iff.1 e2) u)
                                    have M3 := Lib.hid (fun u => rflag_is xc u)
                                    have M4 := Lib.hid (fun u (hu : Held wr u) => rnums_is (c := c5) u (hpg.kept (Below.mono hu HBW.out.size)) (Nat.le_trans HBW.out.size (Below.size hu)) (by omega) (fun y hy => two_iff.1 (e5 y hy)))
                                    have s1 : (str (w2 xi)).size ≤ 2 := Nat.le_refl _
                                    have s2 : (str (w4 xl)).size ≤ 4 := Nat.le_refl _
                                    have s3 : (str (encF xc)).size ≤ 2 := Nat.le_refl _
                                    have s4 : (str (encL w2 xp)).size ≤ 130 := by rw [str_sz, encL_length, flat_const w2_length, hpg.1]; omega
                                    have HE := Lib.hid (show S ++ str (w2 xi) ++ str (w4 xl) ++ str (encF xc) ++ str (encL w2 xp) = str ((((E0 ++ w2 n2) ++ pts.flatMap encP) ++ w2 n3) ++ (txs.take (k + 1)).flatMap encT) from by
                                      rw [HJ.out, HQ.out.1]
                                      unfold encT
                                      simp only [str_app, List.append_assoc])
                                    generalize str (w2 xi) = q1 at *
                                    generalize str (w4 xl) = q2 at *
                                    generalize str (encF xc) = q3 at *
                                    generalize str (encL w2 xp) = q4 at *
                                    clear hb e1 e2 e3 e4 e5 hx hkl hpg
                                    go_upto_region 12 with fail
                                    clear xx
                                    have W0 : ∀ u, Held wr u → u.cell? ⟨w.heap.size, 12, none⟩ = some (.slice (some ⟨b, off, none⟩) n3 c3) := fun u hu => ((HXW.out.held hu).cell 12).trans rfl
                                    have W1 : ∀ u, Held wr u → u.cell? ⟨b, off + k * 4, none⟩ = some (.int .i64 xi) := fun u hu => (Below.cell (p := ⟨b, off + k * 4, none⟩) hu hbl).trans p0
                                    have W2 : ∀ u, Held wr u → u.cell? ⟨b, off + k * 4 + 1, none⟩ = some (.int .i64 xl) := fun u hu => (Below.cell (p := ⟨b, off + k * 4 + 1, none⟩) hu hbl).trans p1
                                    have W3 : ∀ u, Held wr u → u.cell? ⟨b, off + k * 4 + 2, none⟩ = some (.bool xc) := fun u hu => (Below.cell (p := ⟨b, off + k * 4 + 2, none⟩) hu hbl).trans p2
                                    have W4 : ∀ u, Held wr u → u.cell? ⟨b, off + k * 4 + 3, none⟩ = some (.slice A5 n5 c5) := fun u hu => (Below.cell (p := ⟨b, off + k * 4 + 3, none⟩) hu hbl).trans p3
                                    have y1 : (S ++ q1).size ≤ 12600 + 200 * k + 2 := by simp only [ByteArray.size_append]; omega
                                    have y2 : (S ++ q1 ++ q2).size ≤ 12600 + 200 * k + 6 := by simp only [ByteArray.size_append]; omega
                                    have y3 : (S ++ q1 ++ q2 ++ q3).size ≤ 12600 + 200 * k + 8 := by simp only [ByteArray.size_append]; omega
                                    have y4 : (S ++ q1 ++ q2 ++ q3 ++ q4).size ≤ 12600 + 200 * k + 138 := by simp only [ByteArray.size_append]; omega
                                    refine wp_region_noPanic ?_
                                    refine wp_region_held_drew (S := Held wr) (by kernel_rfl) ?_ (fun hHeld => ?_)
                                    · exact Held.start' wr
                                    refine wpAnyH_take (i := 0) (oi := { dst := some 108, op := Op.move (Operand.tmp 4), type := 9, pos := "base.go:556", after := #[], guard := none }) (v := .string S) rfl (by kernel_rfl) (by kernel_rfl) (by kernel_rfl) (fun _ _ _ h => h) (Or.inl ⟨by rfl, fun w' hSw => by ((try dsimp only at hSw); go_simp)⟩) (by assumption) ?_
                                    (try simp only [Act.put, List.setIfInBounds_toArray, List.set_cons_zero, List.set_cons_succ])
                                    refine wpAnyH_take (i := 1) (oi := { dst := some 109, op := Op.fieldAddr 29 (Operand.tmp 1) 9, type := 0, pos := "base.go:556", after := #[], guard := none }) (v := .pointer (some ⟨w.heap.size, 12, none⟩)) rfl (by kernel_rfl) (by kernel_rfl) (by kernel_rfl) (fun _ _ _ h => h) (Or.inl ⟨by rfl, fun w' hSw => by ((try dsimp only at hSw); go_simp)⟩) (by assumption) ?_
                                    (try simp only [Act.put, List.setIfInBounds_toArray, List.set_cons_zero, List.set_cons_succ])
                                    refine wpAnyH_take (i := 2) (oi := { dst := some 110, op := Op.load 26 (Operand.tmp 109), type := 26, pos := "base.go:556", after := #[{ on := 1, ground := Ground.data }], guard := none }) (v := .slice (some ⟨b, off, none⟩) n3 c3) rfl (by kernel_rfl) (by kernel_rfl) (by kernel_rfl) (fun _ _ _ h => h) (Or.inl ⟨by rfl, fun w' hSw => by ((try dsimp only at hSw); have hcell := W0 _ hSw; go_simp)⟩) (by assumption) ?_
                                    (try simp only [Act.put, List.setIfInBounds_toArray, List.set_cons_zero, List.set_cons_succ])
                                    refine wpAnyH_take (i := 3) (oi := { dst := some 111, op := Op.move (Operand.tmp 6), type := 3, pos := "base.go:556", after := #[], guard := none }) (v := .int .i64 k) rfl (by kernel_rfl) (by kernel_rfl) (by kernel_rfl) (fun _ _ _ h => h) (Or.inl ⟨by rfl, fun w' hSw => by ((try dsimp only at hSw); go_simp)⟩) (by assumption) ?_
                                    (try simp only [Act.put, List.setIfInBounds_toArray, List.set_cons_zero, List.set_cons_succ])
                                    refine wpAnyH_take (i := 4) (oi := { dst := some 112, op := Op.indexAddr 26 (Operand.tmp 110) (Operand.tmp 111), type := 0, pos := "base.go:556", after := #[{ on := 2, ground := Ground.data }, { on := 3, ground := Ground.data }], guard := none }) (v := .pointer (some ⟨b, off + k * 4, none⟩)) rfl (by kernel_rfl) (by kernel_rfl) (by kernel_rfl) (fun _ _ _ h => h) (Or.inl ⟨by rfl, fun w' hSw => by ((try dsimp only at hSw); go_simp)⟩) (by assumption) ?_
                                    (try simp only [Act.put, List.setIfInBounds_toArray, List.set_cons_zero, List.set_cons_succ])
                                    refine wpAnyH_take (i := 5) (oi := { dst := some 113, op := Op.fieldAddr 61 (Operand.tmp 112) 0, type := 0, pos := "base.go:556", after := #[{ on := 4, ground := Ground.data }], guard := none }) (v := .pointer (some ⟨b, off + k * 4, none⟩)) rfl (by kernel_rfl) (by kernel_rfl) (by kernel_rfl) (fun _ _ _ h => h) (Or.inl ⟨by rfl, fun w' hSw => by ((try dsimp only at hSw); go_simp)⟩) (by assumption) ?_
                                    (try simp only [Act.put, List.setIfInBounds_toArray, List.set_cons_zero, List.set_cons_succ])
                                    refine wpAnyH_take (i := 6) (oi := { dst := some 114, op := Op.load 3 (Operand.tmp 113), type := 3, pos := "base.go:556", after := #[{ on := 5, ground := Ground.data }], guard := none }) (v := .int .i64 xi) rfl (by kernel_rfl) (by kernel_rfl) (by kernel_rfl) (fun _ _ _ h => h) (Or.inl ⟨by rfl, fun w' hSw => by ((try dsimp only at hSw); have hcell := W1 _ hSw; go_simp)⟩) (by assumption) ?_
                                    (try simp only [Act.put, List.setIfInBounds_toArray, List.set_cons_zero, List.set_cons_succ])
                                    refine wpAnyH_take (i := 9) (oi := { dst := some 117, op := Op.fieldAddr 29 (Operand.tmp 1) 9, type := 0, pos := "base.go:556", after := #[], guard := none }) (v := .pointer (some ⟨w.heap.size, 12, none⟩)) rfl (by kernel_rfl) (by kernel_rfl) (by kernel_rfl) (fun _ _ _ h => h) (Or.inl ⟨by rfl, fun w' hSw => by ((try dsimp only at hSw); go_simp)⟩) (by assumption) ?_
                                    (try simp only [Act.put, List.setIfInBounds_toArray, List.set_cons_zero, List.set_cons_succ])
                                    refine wpAnyH_take (i := 10) (oi := { dst := some 118, op := Op.load 26 (Operand.tmp 117), type := 26, pos := "base.go:556", after := #[{ on := 9, ground := Ground.data }], guard := none }) (v := .slice (some ⟨b, off, none⟩) n3 c3) rfl (by kernel_rfl) (by kernel_rfl) (by kernel_rfl) (fun _ _ _ h => h) (Or.inl ⟨by rfl, fun w' hSw => by ((try dsimp only at hSw); have hcell := W0 _ hSw; go_simp)⟩) (by assumption) ?_
                                    (try simp only [Act.put, List.setIfInBounds_toArray, List.set_cons_zero, List.set_cons_succ])
                                    refine wpAnyH_take (i := 11) (oi := { dst := some 119, op := Op.move (Operand.tmp 6), type := 3, pos := "base.go:556", after := #[], guard := none }) (v := .int .i64 k) rfl (by kernel_rfl) (by kernel_rfl) (by kernel_rfl) (fun _ _ _ h => h) (Or.inl ⟨by rfl, fun w' hSw => by ((try dsimp only at hSw); go_simp)⟩) (by assumption) ?_
                                    (try simp only [Act.put, List.setIfInBounds_toArray, List.set_cons_zero, List.set_cons_succ])
                                    refine wpAnyH_take (i := 12) (oi := { dst := some 120, op := Op.indexAddr 26 (Operand.tmp 118) (Operand.tmp 119), type := 0, pos := "base.go:556", after := #[{ on := 10, ground := Ground.data }, { on := 11, ground := Ground.data }], guard := none }) (v := .pointer (some ⟨b, off + k * 4, none⟩)) rfl (by kernel_rfl) (by kernel_rfl) (by kernel_rfl) (fun _ _ _ h => h) (Or.inl ⟨by rfl, fun w' hSw => by ((try dsimp only at hSw); go_simp)⟩) (by assumption) ?_
                                    (try simp only [Act.put, List.setIfInBounds_toArray, List.set_cons_zero, List.set_cons_succ])
                                    refine wpAnyH_take (i := 13) (oi := { dst := some 121, op := Op.fieldAddr 61 (Operand.tmp 120) 1, type := 0, pos := "base.go:556", after := #[{ on := 12, ground := Ground.data }], guard := none }) (v := .pointer (some ⟨b, off + k * 4 + 1, none⟩)) rfl (by kernel_rfl) (by kernel_rfl) (by kernel_rfl) (fun _ _ _ h => h) (Or.inl ⟨by rfl, fun w' hSw => by ((try dsimp only at hSw); go_simp)⟩) (by assumption) ?_
                                    (try simp only [Act.put, List.setIfInBounds_toArray, List.set_cons_zero, List.set_cons_succ])
                                    refine wpAnyH_take (i := 14) (oi := { dst := some 122, op := Op.load 3 (Operand.tmp 121), type := 3, pos := "base.go:556", after := #[{ on := 13, ground := Ground.data }], guard := none }) (v := .int .i64 xl) rfl (by kernel_rfl) (by kernel_rfl) (by kernel_rfl) (fun _ _ _ h => h) (Or.inl ⟨by rfl, fun w' hSw => by ((try dsimp only at hSw); have hcell := W2 _ hSw; go_simp)⟩) (by assumption) ?_
                                    (try simp only [Act.put, List.setIfInBounds_toArray, List.set_cons_zero, List.set_cons_succ])
                                    refine wpAnyH_take (i := 17) (oi := { dst := some 125, op := Op.fieldAddr 29 (Operand.tmp 1) 9, type := 0, pos := "base.go:556", after := #[], guard := none }) (v := .pointer (some ⟨w.heap.size, 12, none⟩)) rfl (by kernel_rfl) (by kernel_rfl) (by kernel_rfl) (fun _ _ _ h => h) (Or.inl ⟨by rfl, fun w' hSw => by ((try dsimp only at hSw); go_simp)⟩) (by assumption) ?_
                                    (try simp only [Act.put, List.setIfInBounds_toArray, List.set_cons_zero, List.set_cons_succ])
                                    refine wpAnyH_take (i := 18) (oi := { dst := some 126, op := Op.load 26 (Operand.tmp 125), type := 26, pos := "base.go:556", after := #[{ on := 17, ground := Ground.data }], guard := none }) (v := .slice (some ⟨b, off, none⟩) n3 c3) rfl (by kernel_rfl) (by kernel_rfl) (by kernel_rfl) (fun _ _ _ h => h) (Or.inl ⟨by rfl, fun w' hSw => by ((try dsimp only at hSw); have hcell := W0 _ hSw; go_simp)⟩) (by assumption) ?_
                                    (try simp only [Act.put, List.setIfInBounds_toArray, List.set_cons_zero, List.set_cons_succ])
                                    refine wpAnyH_take (i := 19) (oi := { dst := some 127, op := Op.move (Operand.tmp 6), type := 3, pos := "base.go:556", after := #[], guard := none }) (v := .int .i64 k) rfl (by kernel_rfl) (by kernel_rfl) (by kernel_rfl) (fun _ _ _ h => h) (Or.inl ⟨by rfl, fun w' hSw => by ((try dsimp only at hSw); go_simp)⟩) (by assumption) ?_
                                    (try simp only [Act.put, List.setIfInBounds_toArray, List.set_cons_zero, List.set_cons_succ])
                                    refine wpAnyH_take (i := 20) (oi := { dst := some 128, op := Op.indexAddr 26 (Operand.tmp 126) (Operand.tmp 127), type := 0, pos := "base.go:556", after := #[{ on := 18, ground := Ground.data }, { on := 19, ground := Ground.data }], guard := none }) (v := .pointer (some ⟨b, off + k * 4, none⟩)) rfl (by kernel_rfl) (by kernel_rfl) (by kernel_rfl) (fun _ _ _ h => h) (Or.inl ⟨by rfl, fun w' hSw => by ((try dsimp only at hSw); go_simp)⟩) (by assumption) ?_
                                    (try simp only [Act.put, List.setIfInBounds_toArray, List.set_cons_zero, List.set_cons_succ])
                                    refine wpAnyH_take (i := 21) (oi := { dst := some 129, op := Op.fieldAddr 61 (Operand.tmp 128) 2, type := 0, pos := "base.go:556", after := #[{ on := 20, ground := Ground.data }], guard := none }) (v := .pointer (some ⟨b, off + k * 4 + 2, none⟩)) rfl (by kernel_rfl) (by kernel_rfl) (by kernel_rfl) (fun _ _ _ h => h) (Or.inl ⟨by rfl, fun w' hSw => by ((try dsimp only at hSw); go_simp)⟩) (by assumption) ?_
                                    (try simp only [Act.put, List.setIfInBounds_toArray, List.set_cons_zero, List.set_cons_succ])
                                    refine wpAnyH_take (i := 22) (oi := { dst := some 130, op := Op.load 4 (Operand.tmp 129), type := 4, pos := "base.go:556", after := #[{ on := 21, ground := Ground.data }], guard := none }) (v := .bool xc) rfl (by kernel_rfl) (by kernel_rfl) (by kernel_rfl) (fun _ _ _ h => h) (Or.inl ⟨by rfl, fun w' hSw => by ((try dsimp only at hSw); have hcell := W3 _ hSw; go_simp)⟩) (by assumption) ?_
                                    (try simp only [Act.put, List.setIfInBounds_toArray, List.set_cons_zero, List.set_cons_succ])
                                    refine wpAnyH_take (i := 25) (oi := { dst := some 133, op := Op.fieldAddr 29 (Operand.tmp 1) 9, type := 0, pos := "base.go:556", after := #[], guard := none }) (v := .pointer (some ⟨w.heap.size, 12, none⟩)) rfl (by kernel_rfl) (by kernel_rfl) (by kernel_rfl) (fun _ _ _ h => h) (Or.inl ⟨by rfl, fun w' hSw => by ((try dsimp only at hSw); go_simp)⟩) (by assumption) ?_
                                    (try simp only [Act.put, List.setIfInBounds_toArray, List.set_cons_zero, List.set_cons_succ])
                                    refine wpAnyH_take (i := 26) (oi := { dst := some 134, op := Op.load 26 (Operand.tmp 133), type := 26, pos := "base.go:556", after := #[{ on := 25, ground := Ground.data }], guard := none }) (v := .slice (some ⟨b, off, none⟩) n3 c3) rfl (by kernel_rfl) (by kernel_rfl) (by kernel_rfl) (fun _ _ _ h => h) (Or.inl ⟨by rfl, fun w' hSw => by ((try dsimp only at hSw); have hcell := W0 _ hSw; go_simp)⟩) (by assumption) ?_
                                    (try simp only [Act.put, List.setIfInBounds_toArray, List.set_cons_zero, List.set_cons_succ])
                                    refine wpAnyH_take (i := 27) (oi := { dst := some 135, op := Op.move (Operand.tmp 6), type := 3, pos := "base.go:556", after := #[], guard := none }) (v := .int .i64 k) rfl (by kernel_rfl) (by kernel_rfl) (by kernel_rfl) (fun _ _ _ h => h) (Or.inl ⟨by rfl, fun w' hSw => by ((try dsimp only at hSw); go_simp)⟩) (by assumption) ?_
                                    (try simp only [Act.put, List.setIfInBounds_toArray, List.set_cons_zero, List.set_cons_succ])
                                    refine wpAnyH_take (i := 28) (oi := { dst := some 136, op := Op.indexAddr 26 (Operand.tmp 134) (Operand.tmp 135), type := 0, pos := "base.go:556", after := #[{ on := 26, ground := Ground.data }, { on := 27, ground := Ground.data }], guard := none }) (v := .pointer (some ⟨b, off + k * 4, none⟩)) rfl (by kernel_rfl) (by kernel_rfl) (by kernel_rfl) (fun _ _ _ h => h) (Or.inl ⟨by rfl, fun w' hSw => by ((try dsimp only at hSw); go_simp)⟩) (by assumption) ?_
                                    (try simp only [Act.put, List.setIfInBounds_toArray, List.set_cons_zero, List.set_cons_succ])
                                    refine wpAnyH_take (i := 29) (oi := { dst := some 137, op := Op.fieldAddr 61 (Operand.tmp 136) 3, type := 0, pos := "base.go:556", after := #[{ on := 28, ground := Ground.data }], guard := none }) (v := .pointer (some ⟨b, off + k * 4 + 3, none⟩)) rfl (by kernel_rfl) (by kernel_rfl) (by kernel_rfl) (fun _ _ _ h => h) (Or.inl ⟨by rfl, fun w' hSw => by ((try dsimp only at hSw); go_simp)⟩) (by assumption) ?_
                                    (try simp only [Act.put, List.setIfInBounds_toArray, List.set_cons_zero, List.set_cons_succ])
                                    refine wpAnyH_take (i := 30) (oi := { dst := some 138, op := Op.load 24 (Operand.tmp 137), type := 24, pos := "base.go:556", after := #[{ on := 29, ground := Ground.data }], guard := none }) (v := .slice A5 n5 c5) rfl (by kernel_rfl) (by kernel_rfl) (by kernel_rfl) (fun _ _ _ h => h) (Or.inl ⟨by rfl, fun w' hSw => by ((try dsimp only at hSw); have hcell := W4 _ hSw; go_simp)⟩) (by assumption) ?_
                                    (try simp only [Act.put, List.setIfInBounds_toArray, List.set_cons_zero, List.set_cons_succ])
                                    refine wpAnyH_ready (rs := [7]) (by kernel_rfl) (by simp) ?_
                                    refine AllReadyH.cons (o := { dst := some 115, op := Op.call { callee := Callee.value (Operand.func 23), args := #[Operand.tmp 114], argTypes := #[3] }, type := 9, pos := "base.go:556", after := #[{ on := 6, ground := Ground.data }], guard := none }) rfl (fun K hK => ?_) ?_
                                    · go_simp; go_at_call 23; refine (M1.out _).mono ?_; rintro e u25 ⟨rfl, hb⟩
                                      refine hK.out _ _ ?_ (fun hHeld => ?_)
                                      · exact Held.step (by assumption) hb
                                      clear hK K
                                      (try simp only [Act.put, List.setIfInBounds_toArray, List.set_cons_zero, List.set_cons_succ])
                                      clear hb
                                      refine wpAnyH_take (i := 8) (oi := { dst := some 116, op := Op.binOp BinOp.add 9 (Operand.tmp 108) (Operand.tmp 115) 9, type := 9, pos := "base.go:556", after := #[{ on := 0, ground := Ground.data }, { on := 7, ground := Ground.data }], guard := none }) (v := .string (S ++ q1)) rfl (by kernel_rfl) (by kernel_rfl) (by kernel_rfl) (fun _ _ _ h => h) (Or.inl ⟨by rfl, fun w' hSw => by ((try dsimp only at hSw); go_simp; omega)⟩) (by assumption) ?_
                                      (try simp only [Act.put, List.setIfInBounds_toArray, List.set_cons_zero, List.set_cons_succ])
                                      refine wpAnyH_ready (rs := [15]) (by kernel_rfl) (by simp) ?_
                                      refine AllReadyH.cons (o := { dst := some 123, op := Op.call { callee := Callee.value (Operand.func 24), args := #[Operand.tmp 122], argTypes := #[3] }, type := 9, pos := "base.go:556", after := #[{ on := 14, ground := Ground.data }, { on := 7, ground := Ground.chain }], guard := none }) rfl (fun K hK => ?_) ?_
                                      · go_simp; go_at_call 24; refine (M2.out _).mono ?_; rintro e u27 ⟨rfl, hb⟩
                                        refine hK.out _ _ ?_ (fun hHeld => ?_)
                                        · exact Held.step (by assumption) hb
                                        clear hK K
                                        (try simp only [Act.put, List.setIfInBounds_toArray, List.set_cons_zero, List.set_cons_succ])
                                        clear hb
                                        refine wpAnyH_take (i := 16) (oi := { dst := some 124, op := Op.binOp BinOp.add 9 (Operand.tmp 116) (Operand.tmp 123) 9, type := 9, pos := "base.go:556", after := #[{ on := 8, ground := Ground.data }, { on := 15, ground := Ground.data }], guard := none }) (v := .string (S ++ q1 ++ q2)) rfl (by kernel_rfl) (by kernel_rfl) (by kernel_rfl) (fun _ _ _ h => h) (Or.inl ⟨by rfl, fun w' hSw => by ((try dsimp only at hSw); go_simp; omega)⟩) (by assumption) ?_
                                        (try simp only [Act.put, List.setIfInBounds_toArray, List.set_cons_zero, List.set_cons_succ])
                                        refine wpAnyH_ready (rs := [23]) (by kernel_rfl) (by simp) ?_
                                        refine AllReadyH.cons (o := { dst := some 131, op := Op.call { callee := Callee.value (Operand.func 26), args := #[Operand.tmp 130], argTypes := #[4] }, type := 9, pos := "base.go:556", after := #[{ on := 22, ground := Ground.data }, { on := 15, ground := Ground.chain }], guard := none }) rfl (fun K hK => ?_) ?_
                                        · go_simp; go_at_call 26; refine (M3.out _).mono ?_; rintro e u29 ⟨rfl, hb⟩
                                          refine hK.out _ _ ?_ (fun hHeld => ?_)
                                          · exact Held.step (by assumption) hb
                                          clear hK K
                                          (try simp only [Act.put, List.setIfInBounds_toArray, List.set_cons_zero, List.set_cons_succ])
                                          clear hb
                                          refine wpAnyH_take (i := 24) (oi := { dst := some 132, op := Op.binOp BinOp.add 9 (Operand.tmp 124) (Operand.tmp 131) 9, type := 9, pos := "base.go:556", after := #[{ on := 16, ground := Ground.data }, { on := 23, ground := Ground.data }], guard := none }) (v := .string (S ++ q1 ++ q2 ++ q3)) rfl (by kernel_rfl) (by kernel_rfl) (by kernel_rfl) (fun _ _ _ h => h) (Or.inl ⟨by rfl, fun w' hSw => by ((try dsimp only at hSw); go_simp; omega)⟩) (by assumption) ?_
                                          (try simp only [Act.put, List.setIfInBounds_toArray, List.set_cons_zero, List.set_cons_succ])
                                          refine wpAnyH_ready (rs := [31]) (by kernel_rfl) (by simp) ?_
                                          refine AllReadyH.cons (o := { dst := some 139, op := Op.call { callee := Callee.value (Operand.func 27), args := #[Operand.tmp 138], argTypes := #[24] }, type := 9, pos := "base.go:556", after := #[{ on := 30, ground := Ground.data }, { on := 23, ground := Ground.chain }], guard := none }) rfl (fun K hK => ?_) ?_
                                          · go_simp; go_at_call 27; refine (M4.out _ (by assumption)).mono ?_; rintro e u31 ⟨rfl, hb⟩
                                            refine hK.out _ _ ?_ (fun hHeld => ?_)
                                            · exact Held.step (by assumption) hb
                                            clear hK K
                                            (try simp only [Act.put, List.setIfInBounds_toArray, List.set_cons_zero, List.set_cons_succ])
                                            clear hb
                                            refine wpAnyH_take (i := 32) (oi := { dst := some 140, op := Op.binOp BinOp.add 9 (Operand.tmp 132) (Operand.tmp 139) 9, type := 9, pos := "base.go:556", after := #[{ on := 24, ground := Ground.data }, { on := 31, ground := Ground.data }], guard := none }) (v := .string (S ++ q1 ++ q2 ++ q3 ++ q4)) rfl (by kernel_rfl) (by kernel_rfl) (by kernel_rfl) (fun _ _ _ h => h) (Or.inl ⟨by rfl, fun w' hSw => by ((try dsimp only at hSw); go_simp; omega)⟩) (by assumption) ?_
                                            (try simp only [Act.put, List.setIfInBounds_toArray, List.set_cons_zero, List.set_cons_succ])
                                            refine wpAnyH_take (i := 33) (oi := { dst := some 4, op := Op.assign (Operand.tmp 140), type := 9, pos := "base.go:556", after := #[{ on := 32, ground := Ground.data }, { on := 31, ground := Ground.chain }, { on := 0, ground := Ground.phase }, { on := 1, ground := Ground.phase }, { on := 2, ground := Ground.phase }, { on := 3, ground := Ground.phase }, { on := 4, ground := Ground.phase }, { on := 5, ground := Ground.phase }, { on := 6, ground := Ground.phase }, { on := 7, ground := Ground.phase }, { on := 8, ground := Ground.phase }, { on := 9, ground := Ground.phase }, { on := 10, ground := Ground.phase }, { on := 11, ground := Ground.phase }, { on := 12, ground := Ground.phase }, { on := 13, ground := Ground.phase }, { on := 14, ground := Ground.phase }, { on := 15, ground := Ground.phase }, { on := 16, ground := Ground.phase }, { on := 17, ground := Ground.phase }, { on := 18, ground := Ground.phase }, { on := 19, ground := Ground.phase }, { on := 20, ground := Ground.phase }, { on := 21, ground := Ground.phase }, { on := 22, ground := Ground.phase }, { on := 23, ground := Ground.phase }, { on := 24, ground := Ground.phase }, { on := 25, ground := Ground.phase }, { on := 26, ground := Ground.phase }, { on := 27, ground := Ground.phase }, { on := 28, ground := Ground.phase }, { on := 29, ground := Ground.phase }, { on := 30, ground := Ground.phase }, { on := 31, ground := Ground.phase }, { on := 32, ground := Ground.phase }], guard := none }) (v := .string (S ++ q1 ++ q2 ++ q3 ++ q4)) rfl (by kernel_rfl) (by kernel_rfl) (by kernel_rfl) (fun _ _ _ h => h) (Or.inl ⟨by rfl, fun w' hSw => by ((try dsimp only at hSw); go_simp)⟩) (by assumption) ?_
                                            (try simp only [Act.put, List.setIfInBounds_toArray, List.set_cons_zero, List.set_cons_succ])
                                            refine wpAnyH_done (by kernel_rfl) ?_ _
                                            refine NoPanic.normal ?_
                                            have HN := Lib.hid (show Held V u31 from Below.trans HQ.out.2 (Below.mono hHeld (Below.size HQ.out.2)))
                                            clear hHeld
                                            go_wp2_with fail
                                            go_roundw
                                            case rel => exact ⟨k + 1, by omega, by go_num, _, rfl, by omega, HE.out, HN.out⟩
                                            case measure => simp [intOf]; omega
                                          exact AllReadyH.nil
                                        exact AllReadyH.nil
                                      exact AllReadyH.nil
                                    exact AllReadyH.nil
                                  · obtain rfl : n3 = k := by omega
                                    have hs := HQ.out.1
                                    rw [List.take_of_length_le (by rw [HL3.out]; exact Nat.le_refl _)] at hs
                                    have HSS := Lib.hid hs
                                    have HU := Lib.hid HQ.out.2
                                    have HXU := Lib.hid HXW.out
                                    clear hs HQ HXW HBW hk hlt b0
                                    have yy := (HXU.out.cell 13).trans rfl
                                    have hsum : (S ++ a14).size ≤ 14300 := by rw [ByteArray.size_append]; omega
                                    obtain ⟨sS, hsS⟩ : ∃ q, S.size = q := ⟨_, rfl⟩
                                    obtain ⟨sa, hsa⟩ : ∃ q, a14.size = q := ⟨_, rfl⟩
                                    have hsS2 : sS ≤ 20000 := by omega
                                    have hsa2 : sa ≤ 2 := by omega
                                    go_wp2_with fail
                                    refine (N14.out _).mono ?_; rintro e u ⟨rfl, hb⟩
                                    replace HU := Lib.hid (show Held V u from Below.trans HU.out (hb.mono (Below.size HU.out)))
                                    replace HXU := Lib.hid (HXU.out.held hb)
                                    have yz := (HXU.out.cell 13).trans rfl
                                    replace HSS := Lib.hid (show S ++ a14 = str (((((E0 ++ w2 n2) ++ pts.flatMap encP) ++ w2 n3 ++ txs.flatMap encT) ++ w2 n4) ++ (dys.take 0).flatMap encD) from by
                                      rw [HSS.out, ← HA14.out]
                                      simp only [str_app, List.take_zero, List.flatMap_nil, List.append_nil, List.append_assoc])
                                    clear hb yy xx
                                    go_wp2_with fail
                                    clear yz hsS hsa
                                    generalize S ++ a14 = S9 at *
                                    clear hsS2 hsa2
                                    go_loopw [4, 7] (fun s x wr => ∃ k : Nat, k ≤ n4 ∧ x = .int .i64 k ∧ ∃ S, s = .string S ∧ S.size ≤ 14300 + 10 * k ∧ Hid (S = str (((((E0 ++ w2 n2) ++ pts.flatMap encP) ++ w2 n3 ++ txs.flatMap encT) ++ w2 n4) ++ (dys.take k).flatMap encD) ∧ Held V wr)) (fun _ x _ => n4 - (intOf x).toNat)
                                    case atStart => exact ⟨0, Nat.zero_le _, rfl, _, rfl, by omega, HSS.out, HU.out⟩
                                    case round =>
                                      clear HSS HU HXU
                                      obtain ⟨k, hk, rfl, S, rfl, hS, hq⟩ := hrel
                                      have HQ := Lib.hid hq.out
                                      clear hq
                                      have HXW := Lib.hid (HXV.out.held HQ.out.2)
                                      have HBW := Lib.hid (HV.out.trans (Below.mono HQ.out.2 HV.out.size))
                                      have xx := (HXW.out.cell 13).trans rfl
                                      have b0 : (0 : Int) ≤ (k : Int) := by omega
                                      by_cases hlt : k < n4
                                      · have b1 : (k : Int) < (n4 : Int) := by omega
                                        have hkl : k < dys.length := by rw [HL4.out]; exact hlt
                                        have HJ := Lib.hid (join_take encD (((((E0 ++ w2 n2) ++ pts.flatMap encP) ++ w2 n3 ++ txs.flatMap encT) ++ w2 n4)) dys k nilD hkl)
                                        have hx := D2.out _ (getD_mem' nilD hkl)
                                        obtain ⟨b, off, rfl, hb, ⟨p0, p1⟩, _⟩ := (MM.out wr HBW.out).d.2.2 k hlt
                                        have hbl := Nat.lt_of_lt_of_le hb HBW.out.size
                                        obtain ⟨e1, e2⟩ := rightD_iff.1 hx
                                        generalize dys.getD k nilD = x at *
                                        obtain ⟨pg, lsn⟩ := x
                                        dsimp only at p0 p1 e1 e2
                                        have M1 := Lib.hid (fun u => rnum_is pg (two_iff.1 e1) u)
                                        have M2 := Lib.hid (fun u => rlong_is lsn (four_iff.1 e2) u)
                                        have s1 : (str (w2 pg)).size ≤ 2 := Nat.le_refl _
                                        have s2 : (str (w4 lsn)).size ≤ 4 := Nat.le_refl _
                                        have HE := Lib.hid (show S ++ str (w2 pg) ++ str (w4 lsn) = str (((((E0 ++ w2 n2) ++ pts.flatMap encP) ++ w2 n3 ++ txs.flatMap encT) ++ w2 n4) ++ (dys.take (k + 1)).flatMap encD) from by
                                          rw [HJ.out, HQ.out.1]
                                          unfold encD
                                          simp only [str_app, List.append_assoc])
                                        generalize str (w2 pg) = q1 at *
                                        generalize str (w4 lsn) = q2 at *
                                        clear hb e1 e2 hx hkl
                                        go_upto_region 17 with fail
                                        clear xx
                                        have W0 : ∀ u, Held wr u → u.cell? ⟨w.heap.size, 13, none⟩ = some (.slice (some ⟨b, off, none⟩) n4 c4) := fun u hu => ((HXW.out.held hu).cell 13).trans rfl
                                        have W1 : ∀ u, Held wr u → u.cell? ⟨b, off + k * 2, none⟩ = some (.int .i64 pg) := fun u hu => (Below.cell (p := ⟨b, off + k * 2, none⟩) hu hbl).trans p0
                                        have W2 : ∀ u, Held wr u → u.cell? ⟨b, off + k * 2 + 1, none⟩ = some (.int .i64 lsn) := fun u hu => (Below.cell (p := ⟨b, off + k * 2 + 1, none⟩) hu hbl).trans p1
                                        have y1 : (S ++ q1).size ≤ 14300 + 10 * k + 2 := by simp only [ByteArray.size_append]; omega
                                        have y2 : (S ++ q1 ++ q2).size ≤ 14300 + 10 * k + 6 := by simp only [ByteArray.size_append]; omega
                                        refine wp_region_noPanic ?_
                                        refine wp_region_held_drew (S := Held wr) (by kernel_rfl) ?_ (fun hHeld => ?_)
                                        · exact Held.start' wr
                                        refine wpAnyH_take (i := 0) (oi := { dst := some 154, op := Op.move (Operand.tmp 4), type := 9, pos := "base.go:560", after := #[], guard := none }) (v := .string S) rfl (by kernel_rfl) (by kernel_rfl) (by kernel_rfl) (fun _ _ _ h => h) (Or.inl ⟨by rfl, fun w' hSw => by ((try dsimp only at hSw); go_simp)⟩) (by assumption) ?_
                                        (try simp only [Act.put, List.setIfInBounds_toArray, List.set_cons_zero, List.set_cons_succ])
                                        refine wpAnyH_take (i := 1) (oi := { dst := some 155, op := Op.fieldAddr 29 (Operand.tmp 1) 10, type := 0, pos := "base.go:560", after := #[], guard := none }) (v := .pointer (some ⟨w.heap.size, 13, none⟩)) rfl (by kernel_rfl) (by kernel_rfl) (by kernel_rfl) (fun _ _ _ h => h) (Or.inl ⟨by rfl, fun w' hSw => by ((try dsimp only at hSw); go_simp)⟩) (by assumption) ?_
                                        (try simp only [Act.put, List.setIfInBounds_toArray, List.set_cons_zero, List.set_cons_succ])
                                        refine wpAnyH_take (i := 2) (oi := { dst := some 156, op := Op.load 27 (Operand.tmp 155), type := 27, pos := "base.go:560", after := #[{ on := 1, ground := Ground.data }], guard := none }) (v := .slice (some ⟨b, off, none⟩) n4 c4) rfl (by kernel_rfl) (by kernel_rfl) (by kernel_rfl) (fun _ _ _ h => h) (Or.inl ⟨by rfl, fun w' hSw => by ((try dsimp only at hSw); have hcell := W0 _ hSw; go_simp)⟩) (by assumption) ?_
                                        (try simp only [Act.put, List.setIfInBounds_toArray, List.set_cons_zero, List.set_cons_succ])
                                        refine wpAnyH_take (i := 3) (oi := { dst := some 157, op := Op.move (Operand.tmp 7), type := 3, pos := "base.go:560", after := #[], guard := none }) (v := .int .i64 k) rfl (by kernel_rfl) (by kernel_rfl) (by kernel_rfl) (fun _ _ _ h => h) (Or.inl ⟨by rfl, fun w' hSw => by ((try dsimp only at hSw); go_simp)⟩) (by assumption) ?_
                                        (try simp only [Act.put, List.setIfInBounds_toArray, List.set_cons_zero, List.set_cons_succ])
                                        refine wpAnyH_take (i := 4) (oi := { dst := some 158, op := Op.indexAddr 27 (Operand.tmp 156) (Operand.tmp 157), type := 0, pos := "base.go:560", after := #[{ on := 2, ground := Ground.data }, { on := 3, ground := Ground.data }], guard := none }) (v := .pointer (some ⟨b, off + k * 2, none⟩)) rfl (by kernel_rfl) (by kernel_rfl) (by kernel_rfl) (fun _ _ _ h => h) (Or.inl ⟨by rfl, fun w' hSw => by ((try dsimp only at hSw); go_simp)⟩) (by assumption) ?_
                                        (try simp only [Act.put, List.setIfInBounds_toArray, List.set_cons_zero, List.set_cons_succ])
                                        refine wpAnyH_take (i := 5) (oi := { dst := some 159, op := Op.fieldAddr 74 (Operand.tmp 158) 0, type := 0, pos := "base.go:560", after := #[{ on := 4, ground := Ground.data }], guard := none }) (v := .pointer (some ⟨b, off + k * 2, none⟩)) rfl (by kernel_rfl) (by kernel_rfl) (by kernel_rfl) (fun _ _ _ h => h) (Or.inl ⟨by rfl, fun w' hSw => by ((try dsimp only at hSw); go_simp)⟩) (by assumption) ?_
                                        (try simp only [Act.put, List.setIfInBounds_toArray, List.set_cons_zero, List.set_cons_succ])
                                        refine wpAnyH_take (i := 6) (oi := { dst := some 160, op := Op.load 3 (Operand.tmp 159), type := 3, pos := "base.go:560", after := #[{ on := 5, ground := Ground.data }], guard := none }) (v := .int .i64 pg) rfl (by kernel_rfl) (by kernel_rfl) (by kernel_rfl) (fun _ _ _ h => h) (Or.inl ⟨by rfl, fun w' hSw => by ((try dsimp only at hSw); have hcell := W1 _ hSw; go_simp)⟩) (by assumption) ?_
                                        (try simp only [Act.put, List.setIfInBounds_toArray, List.set_cons_zero, List.set_cons_succ])
                                        refine wpAnyH_take (i := 9) (oi := { dst := some 163, op := Op.fieldAddr 29 (Operand.tmp 1) 10, type := 0, pos := "base.go:560", after := #[], guard := none }) (v := .pointer (some ⟨w.heap.size, 13, none⟩)) rfl (by kernel_rfl) (by kernel_rfl) (by kernel_rfl) (fun _ _ _ h => h) (Or.inl ⟨by rfl, fun w' hSw => by ((try dsimp only at hSw); go_simp)⟩) (by assumption) ?_
                                        (try simp only [Act.put, List.setIfInBounds_toArray, List.set_cons_zero, List.set_cons_succ])
                                        refine wpAnyH_take (i := 10) (oi := { dst := some 164, op := Op.load 27 (Operand.tmp 163), type := 27, pos := "base.go:560", after := #[{ on := 9, ground := Ground.data }], guard := none }) (v := .slice (some ⟨b, off, none⟩) n4 c4) rfl (by kernel_rfl) (by kernel_rfl) (by kernel_rfl) (fun _ _ _ h => h) (Or.inl ⟨by rfl, fun w' hSw => by ((try dsimp only at hSw); have hcell := W0 _ hSw; go_simp)⟩) (by assumption) ?_
                                        (try simp only [Act.put, List.setIfInBounds_toArray, List.set_cons_zero, List.set_cons_succ])
                                        refine wpAnyH_take (i := 11) (oi := { dst := some 165, op := Op.move (Operand.tmp 7), type := 3, pos := "base.go:560", after := #[], guard := none }) (v := .int .i64 k) rfl (by kernel_rfl) (by kernel_rfl) (by kernel_rfl) (fun _ _ _ h => h) (Or.inl ⟨by rfl, fun w' hSw => by ((try dsimp only at hSw); go_simp)⟩) (by assumption) ?_
                                        (try simp only [Act.put, List.setIfInBounds_toArray, List.set_cons_zero, List.set_cons_succ])
                                        refine wpAnyH_take (i := 12) (oi := { dst := some 166, op := Op.indexAddr 27 (Operand.tmp 164) (Operand.tmp 165), type := 0, pos := "base.go:560", after := #[{ on := 10, ground := Ground.data }, { on := 11, ground := Ground.data }], guard := none }) (v := .pointer (some ⟨b, off + k * 2, none⟩)) rfl (by kernel_rfl) (by kernel_rfl) (by kernel_rfl) (fun _ _ _ h => h) (Or.inl ⟨by rfl, fun w' hSw => by ((try dsimp only at hSw); go_simp)⟩) (by assumption) ?_
                                        (try simp only [Act.put, List.setIfInBounds_toArray, List.set_cons_zero, List.set_cons_succ])
                                        refine wpAnyH_take (i := 13) (oi := { dst := some 167, op := Op.fieldAddr 74 (Operand.tmp 166) 1, type := 0, pos := "base.go:560", after := #[{ on := 12, ground := Ground.data }], guard := none }) (v := .pointer (some ⟨b, off + k * 2 + 1, none⟩)) rfl (by kernel_rfl) (by kernel_rfl) (by kernel_rfl) (fun _ _ _ h => h) (Or.inl ⟨by rfl, fun w' hSw => by ((try dsimp only at hSw); go_simp)⟩) (by assumption) ?_
                                        (try simp only [Act.put, List.setIfInBounds_toArray, List.set_cons_zero, List.set_cons_succ])
                                        refine wpAnyH_take (i := 14) (oi := { dst := some 168, op := Op.load 3 (Operand.tmp 167), type := 3, pos := "base.go:560", after := #[{ on := 13, ground := Ground.data }], guard := none }) (v := .int .i64 lsn) rfl (by kernel_rfl) (by kernel_rfl) (by kernel_rfl) (fun _ _ _ h => h) (Or.inl ⟨by rfl, fun w' hSw => by ((try dsimp only at hSw); have hcell := W2 _ hSw; go_simp)⟩) (by assumption) ?_
                                        (try simp only [Act.put, List.setIfInBounds_toArray, List.set_cons_zero, List.set_cons_succ])
                                        refine wpAnyH_ready (rs := [7]) (by kernel_rfl) (by simp) ?_
                                        refine AllReadyH.cons (o := { dst := some 161, op := Op.call { callee := Callee.value (Operand.func 23), args := #[Operand.tmp 160], argTypes := #[3] }, type := 9, pos := "base.go:560", after := #[{ on := 6, ground := Ground.data }], guard := none }) rfl (fun K hK => ?_) ?_
                                        · go_simp; go_at_call 23; refine (M1.out _).mono ?_; rintro e u13 ⟨rfl, hb⟩
                                          refine hK.out _ _ ?_ (fun hHeld => ?_)
                                          · exact Held.step (by assumption) hb
                                          clear hK K
                                          (try simp only [Act.put, List.setIfInBounds_toArray, List.set_cons_zero, List.set_cons_succ])
                                          clear hb
                                          refine wpAnyH_take (i := 8) (oi := { dst := some 162, op := Op.binOp BinOp.add 9 (Operand.tmp 154) (Operand.tmp 161) 9, type := 9, pos := "base.go:560", after := #[{ on := 0, ground := Ground.data }, { on := 7, ground := Ground.data }], guard := none }) (v := .string (S ++ q1)) rfl (by kernel_rfl) (by kernel_rfl) (by kernel_rfl) (fun _ _ _ h => h) (Or.inl ⟨by rfl, fun w' hSw => by ((try dsimp only at hSw); go_simp; omega)⟩) (by assumption) ?_
                                          (try simp only [Act.put, List.setIfInBounds_toArray, List.set_cons_zero, List.set_cons_succ])
                                          refine wpAnyH_ready (rs := [15]) (by kernel_rfl) (by simp) ?_
                                          refine AllReadyH.cons (o := { dst := some 169, op := Op.call { callee := Callee.value (Operand.func 24), args := #[Operand.tmp 168], argTypes := #[3] }, type := 9, pos := "base.go:560", after := #[{ on := 14, ground := Ground.data }, { on := 7, ground := Ground.chain }], guard := none }) rfl (fun K hK => ?_) ?_
                                          · go_simp; go_at_call 24; refine (M2.out _).mono ?_; rintro e u15 ⟨rfl, hb⟩
                                            refine hK.out _ _ ?_ (fun hHeld => ?_)
                                            · exact Held.step (by assumption) hb
                                            clear hK K
                                            (try simp only [Act.put, List.setIfInBounds_toArray, List.set_cons_zero, List.set_cons_succ])
                                            clear hb
                                            refine wpAnyH_take (i := 16) (oi := { dst := some 170, op := Op.binOp BinOp.add 9 (Operand.tmp 162) (Operand.tmp 169) 9, type := 9, pos := "base.go:560", after := #[{ on := 8, ground := Ground.data }, { on := 15, ground := Ground.data }], guard := none }) (v := .string (S ++ q1 ++ q2)) rfl (by kernel_rfl) (by kernel_rfl) (by kernel_rfl) (fun _ _ _ h => h) (Or.inl ⟨by rfl, fun w' hSw => by ((try dsimp only at hSw); go_simp; omega)⟩) (by assumption) ?_
                                            (try simp only [Act.put, List.setIfInBounds_toArray, List.set_cons_zero, List.set_cons_succ])
                                            refine wpAnyH_take (i := 17) (oi := { dst := some 4, op := Op.assign (Operand.tmp 170), type := 9, pos := "base.go:560", after := #[{ on := 16, ground := Ground.data }, { on := 15, ground := Ground.chain }, { on := 0, ground := Ground.phase }, { on := 1, ground := Ground.phase }, { on := 2, ground := Ground.phase }, { on := 3, ground := Ground.phase }, { on := 4, ground := Ground.phase }, { on := 5, ground := Ground.phase }, { on := 6, ground := Ground.phase }, { on := 7, ground := Ground.phase }, { on := 8, ground := Ground.phase }, { on := 9, ground := Ground.phase }, { on := 10, ground := Ground.phase }, { on := 11, ground := Ground.phase }, { on := 12, ground := Ground.phase }, { on := 13, ground := Ground.phase }, { on := 14, ground := Ground.phase }, { on := 15, ground := Ground.phase }, { on := 16, ground := Ground.phase }], guard := none }) (v := .string (S ++ q1 ++ q2)) rfl (by kernel_rfl) (by kernel_rfl) (by kernel_rfl) (fun _ _ _ h => h) (Or.inl ⟨by rfl, fun w' hSw => by ((try dsimp only at hSw); go_simp)⟩) (by assumption) ?_
                                            (try simp only [Act.put, List.setIfInBounds_toArray, List.set_cons_zero, List.set_cons_succ])
                                            refine wpAnyH_done (by kernel_rfl) ?_ _
                                            refine NoPanic.normal ?_
                                            have HN := Lib.hid (show Held V u15 from Below.trans HQ.out.2 (Below.mono hHeld (Below.size HQ.out.2)))
                                            clear hHeld
                                            go_wp2_with fail
                                            go_roundw
                                            case rel => exact ⟨k + 1, by omega, by go_num, _, rfl, by omega, HE.out, HN.out⟩
                                            case measure => simp [intOf]; omega
                                          exact AllReadyH.nil
                                        exact AllReadyH.nil
                                      · obtain rfl : n4 = k := by omega
                                        have hs := HQ.out.1
                                        rw [List.take_of_length_le (by rw [HL4.out]; exact Nat.le_refl _)] at hs
                                        have HSS := Lib.hid hs
                                        have HU := Lib.hid HQ.out.2
                                        have HXU := Lib.hid HXW.out
                                        clear hs HQ HXW HBW hk hlt b0
                                        go_wp2_with fail
                                        go_ret2
                                        exact ⟨by rw [← HSS.out]; rfl, HV.out.trans (Below.mono HU.out HV.out.size)⟩
                          exact AllReadyH.nil
                        exact AllReadyH.nil
                      exact AllReadyH.nil
                    exact AllReadyH.nil
                  exact AllReadyH.nil
                exact AllReadyH.nil
              exact AllReadyH.nil
            exact AllReadyH.nil
          exact AllReadyH.nil
        exact AllReadyH.nil
      exact AllReadyH.nil
    exact AllReadyH.nil
end Go.Proofs.YtbmnagfjpenemaaGreatDoor
