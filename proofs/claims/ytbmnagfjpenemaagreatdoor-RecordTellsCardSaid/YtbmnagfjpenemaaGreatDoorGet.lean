/- The contracts of Put and Get. -/
import Derived.Test.YtbmnagfjpenemaaGreatDoorRecr
namespace Go.Proofs.YtbmnagfjpenemaaGreatDoor
open Go.ChangeShapes Go.WideShapes Go.ChangeAt Go.RowKit
set_option linter.unusedVariables false
set_option linter.unusedSimpArgs false
set_option maxRecDepth 100000
theorem rcs_at (r : Rc) (h : Hd) (w : World) (B : Nat) (k : Bx w B (rcs r h) 29) : w.cell? ⟨B, 0, none⟩ = some (.int .i64 r.kind) ∧ w.cell? ⟨B, 1, none⟩ = some (.int .i64 r.tx) ∧ w.cell? ⟨B, 2, none⟩ = some (.int .i64 r.prev) ∧ w.cell? ⟨B, 3, none⟩ = some (.int .i64 r.next) ∧ w.cell? ⟨B, 4, none⟩ = some (.string r.key) ∧ w.cell? ⟨B, 5, none⟩ = some (.bool r.had) ∧ w.cell? ⟨B, 6, none⟩ = some (.string r.old.k) ∧ w.cell? ⟨B, 7, none⟩ = some (.string r.old.v) ∧ w.cell? ⟨B, 8, none⟩ = some (.int .i64 r.old.b) ∧ w.cell? ⟨B, 9, none⟩ = some (.int .i64 r.old.z) ∧ w.cell? ⟨B, 10, none⟩ = some (.slice h.g.A h.g.n h.g.c) ∧ w.cell? ⟨B, 11, none⟩ = some (.slice h.p.A h.p.n h.p.c) ∧ w.cell? ⟨B, 12, none⟩ = some (.slice h.t.A h.t.n h.t.c) ∧ w.cell? ⟨B, 13, none⟩ = some (.slice h.d.A h.d.n h.d.c) :=
  ⟨k.cell 0, k.cell 1, k.cell 2, k.cell 3, k.cell 4, k.cell 5, k.cell 6, k.cell 7, k.cell 8, k.cell 9, k.cell 10, k.cell 11, k.cell 12, k.cell 13⟩
theorem RcO.base {B D : Nat} {w : World} {r : Rc} {h : Hd} (k : RcO B w r h) (hD : D ≤ B) : RcO D w r h := by
  obtain ⟨a, b, ⟨ss, c⟩, d⟩ := k
  exact ⟨a.base hD, b.base hD, ⟨ss, c.base hD⟩, d.base hD⟩
theorem below_drewN {C : Nat} {w0 w : World} (h : Below C w0 w) (q : Nat) : Below C w0 (w.drewN q) := h.trans ⟨rfl, rfl, rfl, Nat.le_refl _, fun _ _ => rfl⟩
set_option maxHeartbeats 4000000 in
theorem put_any {C : Nat} (r : Rc) (h : Hd) (w : World) (hr : RcM C w r h) (hC : C ≤ w.heap.size) : Calls Tryz.prog 6 #[rcv r h] w fun e w' => e = .returned (.tuple #[.string (str (putS r)), .bool (rightR r)]) ∧ Below w.heap.size w w' := by
  have HA := Lib.hid ((Below.refl w.heap.size w).alloc (Nat.le_refl _) (.cells (rcs r h) 29))
  have HX := Lib.hid (Bx.new w (rcs r h) 29)
  have hmm := (hr.more hC).kept HA.out
  have RI := Lib.hid (right_is r h (w.alloc (.cells (rcs r h) 29)) hmm HA.out.size)
  have hlt := HX.out.lt
  have HLT := Lib.hid hlt
  cases g : rightR r with
  | false =>
    rw [g] at RI
    rw [show putS r = [] from by unfold putS; rw [g]; rfl, show str [] = ByteArray.mk #[] from rfl]
    clear hr hC hmm
    have hx := rcs_at r h _ _ HX.out
    obtain ⟨x0, x1, x2, x3, x4, x5, x6, x7, x8, x9, x10, x11, x12, x13⟩ := hx
    unfold rcv at RI ⊢
    unfold rcs at *
    go_enter Tryz.func6, Tryz.ntmps6
    go_wp2_with fail
    refine RI.out.mono ?_; rintro e w1 ⟨rfl, hb⟩
    have H1 := Lib.hid (HA.out.trans (hb.mono HA.out.size))
    clear hb
    go_wp2_with fail
    go_ret2
    exact ⟨rfl, H1.out⟩
  | true =>
    rw [g] at RI
    rw [show putS r = encR r from by unfold putS; rw [g]; rfl]
    have HR := Lib.hid (rightR_iff.1 g)
    have RW := Lib.hid (fun (u : World) p (hb : Below w.heap.size w u) (hp : w.heap.size ≤ p) (hpu : p < u.heap.size) (hw : Wr w.heap.size u p [] false) => record_w r h [] u HR.out ((hr.more hC).kept hb) hp hpu hw (by simp))
    have WN := Lib.hid (fun (u : World) (hb : Below w.heap.size w u) => Wr.new w.heap.size u (Nat.le_succ_of_le hb.size))
    have hx := rcs_at r h _ _ HX.out
    obtain ⟨x0, x1, x2, x3, x4, x5, x6, x7, x8, x9, x10, x11, x12, x13⟩ := hx
    clear hr hC hmm g
    unfold rcv at RI RW ⊢
    unfold rcs at *
    generalize encR r = l at *
    go_enter Tryz.func6, Tryz.ntmps6
    go_wp2_with fail
    refine RI.out.mono ?_; rintro e w1 ⟨rfl, hb⟩
    have H1 := Lib.hid (HA.out.trans (hb.mono HA.out.size))
    have HX1 := Lib.hid (HX.out.held hb)
    clear hb x0 x1 x2 x3 x4 x5 x6 x7 x8 x9 x10 x11 x12 x13
    have W1 := Lib.hid (WN.out w1 H1.out)
    have H2 := Lib.hid (H1.out.alloc H1.out.size (.cells #[.slice none 0 0, .bool false] 67))
    have HX2 := Lib.hid (HX1.out.alloc (.cells #[.slice none 0 0, .bool false] 67))
    have R2 := Lib.hid (RW.out _ _ H2.out H1.out.size (by simp) W1.out)
    obtain ⟨x0, x1, x2, x3, x4, x5, x6, x7, x8, x9, x10, x11, x12, x13⟩ := rcs_at r h _ _ HX2.out
    go_wp2_with fail
    refine R2.out.mono ?_; rintro e w3 ⟨rfl, hw⟩
    have H3 := Lib.hid (H2.out.trans (hw.2.below H1.out.size))
    have DN := Lib.hid (done_good _ _ _ _ hw.1)
    rw [List.nil_append] at DN
    clear hw x0 x1 x2 x3 x4 x5 x6 x7 x8 x9 x10 x11 x12 x13
    go_wp2_with fail
    refine DN.out.mono ?_; rintro e w4 ⟨rfl, rfl⟩
    go_wp2_with fail
    go_ret2
    exact ⟨rfl, H3.out⟩
/-- What Get hands back. -/
def GetP (b : BA) (w : World) (e : Ending) (w' : World) : Prop := Below w.heap.size w w' ∧ ((getOk b = true ∧ ∃ h, e = .returned (.tuple #[rcv (readR b) h, .bool true]) ∧ RcO w.heap.size w' (readR b) h) ∨ (getOk b = false ∧ e = .returned (.tuple #[rcv nilR hd0, .bool false])))
theorem GetP.no {b : BA} {w w' : World} (h : getOk b = false) (hb : Below w.heap.size w w') : GetP b w (.returned (.tuple #[rcv nilR hd0, .bool false])) w' := ⟨hb, .inr ⟨h, rfl⟩⟩
theorem GetP.yes {b : BA} {w w' : World} {h : Hd} (hg : getOk b = true) (hb : Below w.heap.size w w') (ho : RcO w.heap.size w' (readR b) h) : GetP b w (.returned (.tuple #[rcv (readR b) h, .bool true])) w' := ⟨hb, .inl ⟨hg, h, rfl, ho⟩⟩
theorem str_beq (a b : BA) : ((str a).toList == (str b).toList) = decide (a = b) := by
  rw [str_toList, str_toList]
  by_cases h : a = b
  · rw [h]; simp
  · rw [decide_eq_false h, beq_eq_false_iff_ne]; exact h
theorem below_row {C B : Nat} {w0 w : World} {ds : Array Value} (h : Below C w0 w) (hB : C ≤ B) : Below C w0 (w.setRow B ds) :=
  ⟨h.os, h.tape, h.output, by rw [row_size]; exact h.size, fun k hk => (row_other w B k ds (by omega)).trans (h.block k hk)⟩
def z14 : Array Value := #[.int .i64 0, .int .i64 0, .int .i64 0, .int .i64 0, .string ⟨#[]⟩, .bool false, .string ⟨#[]⟩, .string ⟨#[]⟩, .int .i64 0, .int .i64 0, .slice none 0 0, .slice none 0 0, .slice none 0 0, .slice none 0 0]
set_option maxHeartbeats 8000000 in
theorem get_any (b : BA) (hb : b.length ≤ 800000) (w : World) : Calls Tryz.prog 14 #[.string (str b)] w fun e w' => GetP b w e w' := by
  have HA := Lib.hid ((Below.refl w.heap.size w).alloc (Nat.le_refl _) (.cells z14 29))
  have HZ := Lib.hid (Bx.new w z14 29)
  have FR := Lib.hid (fun u => from_any b u)
  have RR := Lib.hid (fun u q (hc : w.heap.size ≤ u.heap.size) (hu : RdS u q (b, true)) => record_r w.heap.size q (b, true) u hb hc hu)
  rw [show (recR (b, true)).1 = readR b from rfl] at RR
  have HW := Lib.hid (rec_w (s := (b, true)) hb)
  rw [show (recR (b, true)).1 = readR b from rfl] at HW
  have PU := Lib.hid (fun u h (hu : RcM u.heap.size u (readR b) h) => put_any (readR b) h u hu (Nat.le_refl _))
  have HGO := Lib.hid (show getOk b = (rightR (readR b) && decide (encR (readR b) = b)) from rfl)
  have HPS := Lib.hid (fun (e : rightR (readR b) = true) => (show putS (readR b) = encR (readR b) from by unfold putS; rw [e]; rfl))
  have GN := Lib.hid (fun u => GetP.no (b := b) (w := w) (w' := u))
  have GY := Lib.hid (fun u h => GetP.yes (b := b) (w := w) (w' := u) (h := h))
  have SB := Lib.hid (fun a => str_beq a b)
  have HSZ := Lib.hid (show (w.alloc (.cells z14 29)).heap.size = w.heap.size + 1 from by simp)
  have HSB := Lib.hid (fun (u : World) (s : ByteArray) (e : s = str b) => (show RdS (u.alloc (.cells #[.string s, .bool true] 135)) u.heap.size (b, true) from by subst e; exact Rd.new u b))
  generalize readR b = r at *
  obtain ⟨sb, hsb⟩ : ∃ sb, sb = str b := ⟨_, rfl⟩
  rw [← hsb] at FR SB ⊢
  replace HSB := Lib.hid (fun u => HSB.out u sb hsb)
  clear hb hsb
  unfold rcv at RR PU GN GY
  unfold z14 at *
  have HNE := Lib.hid (show w.heap.size ≠ (w.alloc (.cells #[.int .i64 0, .int .i64 0, .int .i64 0, .int .i64 0, .string ⟨#[]⟩, .bool false, .string ⟨#[]⟩, .string ⟨#[]⟩, .int .i64 0, .int .i64 0, .slice none 0 0, .slice none 0 0, .slice none 0 0, .slice none 0 0] 29)).heap.size from by simp)
  go_enter Tryz.func14, Tryz.ntmps14
  go_upto_region 1 with fail
  generalize w.alloc (.cells #[.int .i64 0, .int .i64 0, .int .i64 0, .int .i64 0, .string ⟨#[]⟩, .bool false, .string ⟨#[]⟩, .string ⟨#[]⟩, .int .i64 0, .int .i64 0, .slice none 0 0, .slice none 0 0, .slice none 0 0, .slice none 0 0] 29) = W at *
  go_wp2_with fail
  refine (FR.out _).mono ?_; rintro e w2 ⟨rfl, rfl⟩
  have HQ := Lib.hid (HSB.out W)
  have H2 := Lib.hid (HA.out.alloc HA.out.size (.cells #[.string sb, .bool true] 135))
  have HZ2 := Lib.hid (HZ.out.alloc (.cells #[.string sb, .bool true] 135))
  have RC := Lib.hid (RR.out _ _ H2.out.size HQ.out)
  go_wp2_with fail
  refine RC.out.mono ?_; rintro e w3 ⟨h, rfl, ho, hrd⟩
  have H3 := Lib.hid (H2.out.trans (hrd.2.below HA.out.size))
  have HO3 := Lib.hid (ho.base H2.out.size)
  have HZ3 := Lib.hid (HZ2.out.only hrd.2 HNE.out (by decide))
  have HAL := Lib.hid ((Below.refl w3.heap.size w3).alloc (Nat.le_refl _) (.cells (rcs r h) 29))
  have H4 := Lib.hid (H3.out.alloc H3.out.size (.cells (rcs r h) 29))
  have HO4 := Lib.hid (HO3.out.below HAL.out)
  have HZ4 := Lib.hid (HZ3.out.held HAL.out)
  have HX4 := Lib.hid (Bx.new w3 (rcs r h) 29)
  have P4 := Lib.hid (PU.out _ h (HO4.out.m HW.out))
  have HGE := Lib.hid H3.out.size
  clear ho hrd RC HQ H2 HZ2 RR FR HSB HA HZ HAL HO3 HZ3 PU HNE
  unfold rcs at *
  obtain ⟨x0, x1, x2, x3, x4, x5, x6, x7, x8, x9, x10, x11, x12, x13⟩ := rcs_at r h _ _ HX4.out
  go_wp2_with fail
  refine P4.out.mono ?_; rintro e w5 ⟨rfl, hb⟩
  have H5 := Lib.hid (H4.out.trans (hb.mono H4.out.size))
  have HO5 := Lib.hid (HO4.out.below hb)
  have HZ5 := Lib.hid (HZ4.out.held hb)
  have HX5 := Lib.hid (HX4.out.held hb)
  clear hb x0 x1 x2 x3 x4 x5 x6 x7 x8 x9 x10 x11 x12 x13 P4 H4 HO4 HZ4 HX4
  have hz := HZ5.out
  cases g : rightR r with
  | false =>
    as_aux_lemma =>
      have HN := Lib.hid (GN.out (w5.setRow w.heap.size #[.int .i64 0, .int .i64 0, .int .i64 0, .int .i64 0, .string ⟨#[]⟩, .bool false, .string ⟨#[]⟩, .string ⟨#[]⟩, .int .i64 0, .int .i64 0, .slice none 0 0, .slice none 0 0, .slice none 0 0, .slice none 0 0]) (by rw [HGO.out, g]; rfl) (below_row H5.out (Nat.le_refl _)))
      clear HGO HPS SB GY GN
      go_wp2_with (refine wpList_store_row rfl 29 (.tmp 2) (.tmp 23) rfl w.heap.size #[.int .i64 0, .int .i64 0, .int .i64 0, .int .i64 0, .string ⟨#[]⟩, .bool false, .string ⟨#[]⟩, .string ⟨#[]⟩, .int .i64 0, .int .i64 0, .slice none 0 0, .slice none 0 0, .slice none 0 0, .slice none 0 0] rfl rfl 29 _ hz (by kernel_rfl) rfl (by simp [Value.oneCell']) ?_)
      have hy := hz.row #[.int .i64 0, .int .i64 0, .int .i64 0, .int .i64 0, .string ⟨#[]⟩, .bool false, .string ⟨#[]⟩, .string ⟨#[]⟩, .int .i64 0, .int .i64 0, .slice none 0 0, .slice none 0 0, .slice none 0 0, .slice none 0 0]
      generalize w5.setRow _ _ = V at *
      have y0 : V.cell? ⟨w.heap.size, 0, none⟩ = some (.int .i64 0) := hy.cell 0
      have y1 : V.cell? ⟨w.heap.size, 1, none⟩ = some (.int .i64 0) := hy.cell 1
      have y2 : V.cell? ⟨w.heap.size, 2, none⟩ = some (.int .i64 0) := hy.cell 2
      have y3 : V.cell? ⟨w.heap.size, 3, none⟩ = some (.int .i64 0) := hy.cell 3
      have y4 : V.cell? ⟨w.heap.size, 4, none⟩ = some (.string ⟨#[]⟩) := hy.cell 4
      have y5 : V.cell? ⟨w.heap.size, 5, none⟩ = some (.bool false) := hy.cell 5
      have y6 : V.cell? ⟨w.heap.size, 6, none⟩ = some (.string ⟨#[]⟩) := hy.cell 6
      have y7 : V.cell? ⟨w.heap.size, 7, none⟩ = some (.string ⟨#[]⟩) := hy.cell 7
      have y8 : V.cell? ⟨w.heap.size, 8, none⟩ = some (.int .i64 0) := hy.cell 8
      have y9 : V.cell? ⟨w.heap.size, 9, none⟩ = some (.int .i64 0) := hy.cell 9
      have y10 : V.cell? ⟨w.heap.size, 10, none⟩ = some (.slice none 0 0) := hy.cell 10
      have y11 : V.cell? ⟨w.heap.size, 11, none⟩ = some (.slice none 0 0) := hy.cell 11
      have y12 : V.cell? ⟨w.heap.size, 12, none⟩ = some (.slice none 0 0) := hy.cell 12
      have y13 : V.cell? ⟨w.heap.size, 13, none⟩ = some (.slice none 0 0) := hy.cell 13
      refine bodyPost_ret (v := .tuple #[.agg #[.int .i64 0, .int .i64 0, .int .i64 0, .int .i64 0, .string ⟨#[]⟩, .bool false, .string ⟨#[]⟩, .string ⟨#[]⟩, .int .i64 0, .int .i64 0, .slice none 0 0, .slice none 0 0, .slice none 0 0, .slice none 0 0], .bool false]) (by simp [results, Tryz.results14, go_sem, y0, y1, y2, y3, y4, y5, y6, y7, y8, y9, y10, y11, y12, y13] ) rfl ?_
      exact HN.out
  | true =>
    have e1 := SB.out (putS r)
    by_cases e : encR r = b
    · rw [decide_eq_true (show putS r = b from (HPS.out g).trans e)] at e1
      have e2 : (str (putS r)).toList = sb.toList := by simpa using e1
      have e3 : (sb.toList == sb.toList) = true := by simp
      have HN := Lib.hid (GY.out (w5.setRow w.heap.size #[.int .i64 r.kind, .int .i64 r.tx, .int .i64 r.prev, .int .i64 r.next, .string r.key, .bool r.had, .string r.old.k, .string r.old.v, .int .i64 r.old.b, .int .i64 r.old.z, .slice h.g.A h.g.n h.g.c, .slice h.p.A h.p.n h.p.c, .slice h.t.A h.t.n h.t.c, .slice h.d.A h.d.n h.d.c]) h (by rw [HGO.out, g, decide_eq_true e]; rfl) (below_row H5.out (Nat.le_refl _)) (HO5.out.aside (Aside.row _ _ _) hz))
      obtain ⟨x0, x1, x2, x3, x4, x5, x6, x7, x8, x9, x10, x11, x12, x13⟩ := rcs_at r h _ _ HX5.out
      clear HGO HPS SB GY GN
      go_wp2_with (refine wpList_store_row rfl 29 (.tmp 2) (.tmp 24) rfl w.heap.size #[.int .i64 r.kind, .int .i64 r.tx, .int .i64 r.prev, .int .i64 r.next, .string r.key, .bool r.had, .string r.old.k, .string r.old.v, .int .i64 r.old.b, .int .i64 r.old.z, .slice h.g.A h.g.n h.g.c, .slice h.p.A h.p.n h.p.c, .slice h.t.A h.t.n h.t.c, .slice h.d.A h.d.n h.d.c] rfl rfl 29 _ hz (by kernel_rfl) rfl (by simp [Value.oneCell']) ?_)
      have hy := hz.row #[.int .i64 r.kind, .int .i64 r.tx, .int .i64 r.prev, .int .i64 r.next, .string r.key, .bool r.had, .string r.old.k, .string r.old.v, .int .i64 r.old.b, .int .i64 r.old.z, .slice h.g.A h.g.n h.g.c, .slice h.p.A h.p.n h.p.c, .slice h.t.A h.t.n h.t.c, .slice h.d.A h.d.n h.d.c]
      generalize w5.setRow _ _ = V at *
      have y0 : V.cell? ⟨w.heap.size, 0, none⟩ = some (.int .i64 r.kind) := hy.cell 0
      have y1 : V.cell? ⟨w.heap.size, 1, none⟩ = some (.int .i64 r.tx) := hy.cell 1
      have y2 : V.cell? ⟨w.heap.size, 2, none⟩ = some (.int .i64 r.prev) := hy.cell 2
      have y3 : V.cell? ⟨w.heap.size, 3, none⟩ = some (.int .i64 r.next) := hy.cell 3
      have y4 : V.cell? ⟨w.heap.size, 4, none⟩ = some (.string r.key) := hy.cell 4
      have y5 : V.cell? ⟨w.heap.size, 5, none⟩ = some (.bool r.had) := hy.cell 5
      have y6 : V.cell? ⟨w.heap.size, 6, none⟩ = some (.string r.old.k) := hy.cell 6
      have y7 : V.cell? ⟨w.heap.size, 7, none⟩ = some (.string r.old.v) := hy.cell 7
      have y8 : V.cell? ⟨w.heap.size, 8, none⟩ = some (.int .i64 r.old.b) := hy.cell 8
      have y9 : V.cell? ⟨w.heap.size, 9, none⟩ = some (.int .i64 r.old.z) := hy.cell 9
      have y10 : V.cell? ⟨w.heap.size, 10, none⟩ = some (.slice h.g.A h.g.n h.g.c) := hy.cell 10
      have y11 : V.cell? ⟨w.heap.size, 11, none⟩ = some (.slice h.p.A h.p.n h.p.c) := hy.cell 11
      have y12 : V.cell? ⟨w.heap.size, 12, none⟩ = some (.slice h.t.A h.t.n h.t.c) := hy.cell 12
      have y13 : V.cell? ⟨w.heap.size, 13, none⟩ = some (.slice h.d.A h.d.n h.d.c) := hy.cell 13
      refine bodyPost_ret (v := .tuple #[.agg #[.int .i64 r.kind, .int .i64 r.tx, .int .i64 r.prev, .int .i64 r.next, .string r.key, .bool r.had, .string r.old.k, .string r.old.v, .int .i64 r.old.b, .int .i64 r.old.z, .slice h.g.A h.g.n h.g.c, .slice h.p.A h.p.n h.p.c, .slice h.t.A h.t.n h.t.c, .slice h.d.A h.d.n h.d.c], .bool true]) (by simp [results, Tryz.results14, go_sem, y0, y1, y2, y3, y4, y5, y6, y7, y8, y9, y10, y11, y12, y13] ) rfl ?_
      exact HN.out
    · rw [decide_eq_false (show ¬ putS r = b from fun hh => e ((HPS.out g).symm.trans hh))] at e1
      have e2 : ¬ (str (putS r)).toList = sb.toList := by simpa using e1
      have HN := Lib.hid (GN.out (w5.setRow w.heap.size #[.int .i64 0, .int .i64 0, .int .i64 0, .int .i64 0, .string ⟨#[]⟩, .bool false, .string ⟨#[]⟩, .string ⟨#[]⟩, .int .i64 0, .int .i64 0, .slice none 0 0, .slice none 0 0, .slice none 0 0, .slice none 0 0]) (by rw [HGO.out, decide_eq_false e, Bool.and_false]) (below_row H5.out (Nat.le_refl _)))
      clear HGO HPS SB GY GN
      go_wp2_with (refine wpList_store_row rfl 29 (.tmp 2) (.tmp 23) rfl w.heap.size #[.int .i64 0, .int .i64 0, .int .i64 0, .int .i64 0, .string ⟨#[]⟩, .bool false, .string ⟨#[]⟩, .string ⟨#[]⟩, .int .i64 0, .int .i64 0, .slice none 0 0, .slice none 0 0, .slice none 0 0, .slice none 0 0] rfl rfl 29 _ hz (by kernel_rfl) rfl (by simp [Value.oneCell']) ?_)
      have hy := hz.row #[.int .i64 0, .int .i64 0, .int .i64 0, .int .i64 0, .string ⟨#[]⟩, .bool false, .string ⟨#[]⟩, .string ⟨#[]⟩, .int .i64 0, .int .i64 0, .slice none 0 0, .slice none 0 0, .slice none 0 0, .slice none 0 0]
      generalize w5.setRow _ _ = V at *
      have y0 : V.cell? ⟨w.heap.size, 0, none⟩ = some (.int .i64 0) := hy.cell 0
      have y1 : V.cell? ⟨w.heap.size, 1, none⟩ = some (.int .i64 0) := hy.cell 1
      have y2 : V.cell? ⟨w.heap.size, 2, none⟩ = some (.int .i64 0) := hy.cell 2
      have y3 : V.cell? ⟨w.heap.size, 3, none⟩ = some (.int .i64 0) := hy.cell 3
      have y4 : V.cell? ⟨w.heap.size, 4, none⟩ = some (.string ⟨#[]⟩) := hy.cell 4
      have y5 : V.cell? ⟨w.heap.size, 5, none⟩ = some (.bool false) := hy.cell 5
      have y6 : V.cell? ⟨w.heap.size, 6, none⟩ = some (.string ⟨#[]⟩) := hy.cell 6
      have y7 : V.cell? ⟨w.heap.size, 7, none⟩ = some (.string ⟨#[]⟩) := hy.cell 7
      have y8 : V.cell? ⟨w.heap.size, 8, none⟩ = some (.int .i64 0) := hy.cell 8
      have y9 : V.cell? ⟨w.heap.size, 9, none⟩ = some (.int .i64 0) := hy.cell 9
      have y10 : V.cell? ⟨w.heap.size, 10, none⟩ = some (.slice none 0 0) := hy.cell 10
      have y11 : V.cell? ⟨w.heap.size, 11, none⟩ = some (.slice none 0 0) := hy.cell 11
      have y12 : V.cell? ⟨w.heap.size, 12, none⟩ = some (.slice none 0 0) := hy.cell 12
      have y13 : V.cell? ⟨w.heap.size, 13, none⟩ = some (.slice none 0 0) := hy.cell 13
      refine bodyPost_ret (v := .tuple #[.agg #[.int .i64 0, .int .i64 0, .int .i64 0, .int .i64 0, .string ⟨#[]⟩, .bool false, .string ⟨#[]⟩, .string ⟨#[]⟩, .int .i64 0, .int .i64 0, .slice none 0 0, .slice none 0 0, .slice none 0 0, .slice none 0 0], .bool false]) (by simp [results, Tryz.results14, go_sem, y0, y1, y2, y3, y4, y5, y6, y7, y8, y9, y10, y11, y12, y13] ) rfl ?_
      exact HN.out
end Go.Proofs.YtbmnagfjpenemaaGreatDoor
