/- The laws' first call 'alive'; Light. -/
import Derived.Test.YtbmnagfjpenemaaGreatDoorSamer
import Derived.Test.YtbmnagfjpenemaaGreatDoorGet
import Derived.Test.YtbmnagfjpenemaaGreatDoorSort
import Derived.Test.YtbmnagfjpenemaaGreatDoorName
namespace Go.Proofs.YtbmnagfjpenemaaGreatDoor
open Go.ChangeShapes Go.WideShapes Go.ChangeAt Go.RowKit
set_option linter.unusedVariables false
set_option linter.unusedSimpArgs false
set_option maxRecDepth 100000
def r0 : Rc := ⟨1, 3, 7, 0, ⟨#[107]⟩, true, ⟨⟨#[107]⟩, ⟨#[118]⟩, 0, 0⟩, [5], [⟨2, 9, ⟨#[120, 121]⟩⟩], [], []⟩
theorem r0_right : rightR r0 = true := by kernel_rfl
theorem r0_size : (str (encR r0)).size = 45 := by kernel_rfl
theorem extract_str (l : BA) (n : Nat) : (str l).extract 0 n = str (l.take n) := extract_take l n
theorem r0_head : (str (encR r0)).extract 0 4 = ⟨#[0, 1, 0, 3]⟩ := by
  rw [extract_str, show (encR r0).take 4 = [0, 1, 0, 3] by kernel_rfl]
  rfl
theorem r0_touch : touchL r0 = [2] := by
  unfold touchL r0 asc
  simp [Lib.compact, Lib.compactUpTo, Lib.keeps]
theorem nm_2 : str (nm 2) = ⟨#[117, 110, 100, 111, 110, 101]⟩ := rfl
def h0 (a b : Nat) : Hd := ⟨⟨some ⟨a, 0, none⟩, 1, 1⟩, ⟨some ⟨b, 0, none⟩, 1, 1⟩, sl0, sl0⟩
theorem r0_in {w : World} {a b : Nat} (ha : Bx w a #[.int .i64 5] 3) (hb : Bx w b #[.int .i64 2, .int .i64 9, .string ⟨#[120, 121]⟩] 59) : RcM w.heap.size w r0 (h0 a b) := by
  refine ⟨?_, ?_, ?_, ?_, ?_, ⟨?_, ?_, ?_, ?_⟩, ⟨rfl, ?_, fun k hk => ?_⟩, ⟨rfl, ?_, fun k hk => ?_⟩, TxsM.nil _ _ _, DysM.nil _ _ _⟩
  · exact (by unfold rng; decide : rng 1)
  · exact (by unfold rng; decide : rng 3)
  · exact (by unfold rng; decide : rng 7)
  · exact zero_rng
  · exact (by decide : (1 : Nat) ≤ maxLen)
  · exact zero_rng
  · exact zero_rng
  · exact (by decide : (1 : Nat) ≤ maxLen)
  · exact (by decide : (1 : Nat) ≤ maxLen)
  · exact (by decide : (1 : Nat) ≤ maxLen)
  · obtain rfl : k = 0 := by have : k < 1 := hk; omega
    exact ⟨a, 0, rfl, ha.lt, ha.cell 0, (by unfold rng; decide : rng 5)⟩
  · exact (by decide : (1 : Nat) ≤ maxLen)
  · obtain rfl : k = 0 := by have : k < 1 := hk; omega
    exact ⟨b, 0, rfl, hb.lt, ⟨hb.cell 0, hb.cell 1, hb.cell 2⟩, (by unfold rng; decide : rng 2), (by unfold rng; decide : rng 9), (by decide : (2 : Nat) ≤ maxLen)⟩
theorem eqR_self (r : Rc) : eqR r r = true := (eqR_iff r r).2 rfl
theorem r0_same : sameL eqI 0 [2] [2] = true := rfl
theorem ints_one {w : World} {a : Nat} {v : Int} (ha : Bx w a #[.int .i64 v] 3) (hv : rng v) : IntsM w.heap.size w (some ⟨a, 0, none⟩) 1 [v] :=
  ⟨rfl, by unfold maxLen; omega, fun k hk => by
    obtain rfl : k = 0 := by omega
    exact ⟨a, 0, rfl, ha.lt, ha.cell 0, hv⟩⟩
theorem touch_in (r : Rc) (hr : ∀ p ∈ r.pts, rng p.pg) : ∀ x ∈ touchL r, rng x := by
  intro x hx
  have h1 : x ∈ asc (r.pts.map Pt.pg) := by
    unfold touchL Lib.compact Lib.compactUpTo at hx
    obtain ⟨j, hj, rfl⟩ := List.mem_map.1 hx
    have hj2 := List.mem_range.1 (List.mem_filter.1 hj).1
    simp only [List.getElem!_toArray, List.getElem!_eq_getElem?_getD]
    rw [List.getElem?_eq_getElem hj2]
    exact List.getElem_mem hj2
  unfold asc at h1
  rw [List.mem_mergeSort] at h1
  obtain ⟨p, hp, rfl⟩ := List.mem_map.1 h1
  exact hr p hp
set_option maxHeartbeats 8000000 in
theorem alive_yes (w : World) (hn : NamesAt w) : Calls Tryz.prog 5 #[] w fun e w' => e = .returned (.bool true) ∧ Below w.heap.size w w' := by
  have HN := Lib.hid hn
  have HPS := Lib.hid (show putS r0 = encR r0 from by unfold putS; rw [r0_right]; rfl)
  have PU := Lib.hid (fun u a b (hu : RcM u.heap.size u r0 (h0 a b)) => (show Calls Tryz.prog 6 #[.agg #[.int .i64 1, .int .i64 3, .int .i64 7, .int .i64 0, .string ⟨#[107]⟩, .bool true, .string ⟨#[107]⟩, .string ⟨#[118]⟩, .int .i64 0, .int .i64 0, .slice (some ⟨a, 0, none⟩) 1 1, .slice (some ⟨b, 0, none⟩) 1 1, .slice none 0 0, .slice none 0 0]] u fun e w' => e = .returned (.tuple #[.string (str (encR r0)), .bool true]) ∧ Below u.heap.size u w' from by
    have h := put_any r0 (h0 a b) u hu (Nat.le_refl _)
    rw [r0_right, HPS.out] at h
    exact h))
  have GE := Lib.hid (fun u => (show Calls Tryz.prog 14 #[.string (str (encR r0))] u fun e w' => ∃ k : Hd, e = .returned (.tuple #[.agg #[.int .i64 1, .int .i64 3, .int .i64 7, .int .i64 0, .string ⟨#[107]⟩, .bool true, .string ⟨#[107]⟩, .string ⟨#[118]⟩, .int .i64 0, .int .i64 0, .slice k.g.A k.g.n k.g.c, .slice k.p.A k.p.n k.p.c, .slice k.t.A k.t.n k.t.c, .slice k.d.A k.d.n k.d.c], .bool true]) ∧ RcO u.heap.size w' r0 k ∧ Below u.heap.size u w' from
    (get_any (encR r0) (by have := r0_size; rw [str_size] at this; omega) u).mono fun e w' ⟨hb, h⟩ => by
      rw [readR_enc r0_right, getOk_enc r0_right] at h
      rcases h with ⟨_, k, he, ho⟩ | ⟨h, _⟩
      · exact ⟨k, he, ho, hb⟩
      · cases h))
  have SR := Lib.hid (fun u k a b (h1 : RcM u.heap.size u r0 k) (h2 : RcM u.heap.size u r0 (h0 a b)) => (show Calls Tryz.prog 18 #[.agg #[.int .i64 1, .int .i64 3, .int .i64 7, .int .i64 0, .string ⟨#[107]⟩, .bool true, .string ⟨#[107]⟩, .string ⟨#[118]⟩, .int .i64 0, .int .i64 0, .slice k.g.A k.g.n k.g.c, .slice k.p.A k.p.n k.p.c, .slice k.t.A k.t.n k.t.c, .slice k.d.A k.d.n k.d.c], .agg #[.int .i64 1, .int .i64 3, .int .i64 7, .int .i64 0, .string ⟨#[107]⟩, .bool true, .string ⟨#[107]⟩, .string ⟨#[118]⟩, .int .i64 0, .int .i64 0, .slice (some ⟨a, 0, none⟩) 1 1, .slice (some ⟨b, 0, none⟩) 1 1, .slice none 0 0, .slice none 0 0]] u fun e w' => e = .returned (.bool true) ∧ Below u.heap.size u w' from by
    have h := samer_is r0 r0 k (h0 a b) u h1 h2 (Nat.le_refl _) (Nat.le_refl _)
    rw [eqR_self] at h
    exact h))
  have TO := Lib.hid (fun u a b (hu : RcM u.heap.size u r0 (h0 a b)) => (show Calls Tryz.prog 8 #[.agg #[.int .i64 1, .int .i64 3, .int .i64 7, .int .i64 0, .string ⟨#[107]⟩, .bool true, .string ⟨#[107]⟩, .string ⟨#[118]⟩, .int .i64 0, .int .i64 0, .slice (some ⟨a, 0, none⟩) 1 1, .slice (some ⟨b, 0, none⟩) 1 1, .slice none 0 0, .slice none 0 0]] u fun e w' => ∃ A c, e = .returned (.slice A 1 c) ∧ RowI u.heap.size w' ⟨A, 1, c⟩ [2] ∧ Below u.heap.size u w' from by
    have h := touches_any r0 (h0 a b) u hu (Nat.le_refl _) (by decide)
    rw [r0_touch] at h
    exact h))
  have NA := Lib.hid (fun u (hb : Below w.heap.size w u) => name_any 2 u (HN.out.kept hb))
  rw [nm_2] at NA
  have SI := Lib.hid (fun u A c B d (h1 : IntsM u.heap.size u A 1 [2]) (h2 : IntsM u.heap.size u B 1 [2]) => sameI_is (c := c) (d := d) u h1 h2)
  rw [r0_same] at SI
  have hsz := r0_size
  have hhd := r0_head
  have HW : Hid (RcW r0) := by
    unfold Hid
    have h := rec_w (s := (encR r0, true)) (by unfold Few; have := r0_size; rw [str_size] at this; simp only; omega)
    rw [show (recR (encR r0, true)).1 = readR (encR r0) from rfl, readR_enc r0_right] at h
    exact h
  clear HPS hn
  generalize str (encR r0) = s at *
  have HA := Lib.hid (((((Below.refl w.heap.size w).alloc (Nat.le_refl _) (.cells #[.int .i64 5] 3)).alloc (by simp) (.cells #[.int .i64 2, .int .i64 9, .string ⟨#[120, 121]⟩] 59)).alloc (by simp; omega) (.cells #[.int .i64 1, .int .i64 3, .int .i64 7, .int .i64 0, .string ⟨#[107]⟩, .bool true, .string ⟨#[107]⟩, .string ⟨#[118]⟩, .int .i64 0, .int .i64 0, .slice (some ⟨w.heap.size, 0, none⟩) 1 1, .slice (some ⟨(w.heap.size + 1), 0, none⟩) 1 1, .slice none 0 0, .slice none 0 0] 29)))
  have BA := Lib.hid (((Bx.new w #[.int .i64 5] 3).alloc (.cells #[.int .i64 2, .int .i64 9, .string ⟨#[120, 121]⟩] 59)).alloc (.cells #[.int .i64 1, .int .i64 3, .int .i64 7, .int .i64 0, .string ⟨#[107]⟩, .bool true, .string ⟨#[107]⟩, .string ⟨#[118]⟩, .int .i64 0, .int .i64 0, .slice (some ⟨w.heap.size, 0, none⟩) 1 1, .slice (some ⟨(w.heap.size + 1), 0, none⟩) 1 1, .slice none 0 0, .slice none 0 0] 29))
  have BB := Lib.hid ((Bx.new (w.alloc (.cells #[.int .i64 5] 3)) #[.int .i64 2, .int .i64 9, .string ⟨#[120, 121]⟩] 59).alloc (.cells #[.int .i64 1, .int .i64 3, .int .i64 7, .int .i64 0, .string ⟨#[107]⟩, .bool true, .string ⟨#[107]⟩, .string ⟨#[118]⟩, .int .i64 0, .int .i64 0, .slice (some ⟨w.heap.size, 0, none⟩) 1 1, .slice (some ⟨(w.heap.size + 1), 0, none⟩) 1 1, .slice none 0 0, .slice none 0 0] 29))
  have BR := Lib.hid (Bx.new ((w.alloc (.cells #[.int .i64 5] 3)).alloc (.cells #[.int .i64 2, .int .i64 9, .string ⟨#[120, 121]⟩] 59)) #[.int .i64 1, .int .i64 3, .int .i64 7, .int .i64 0, .string ⟨#[107]⟩, .bool true, .string ⟨#[107]⟩, .string ⟨#[118]⟩, .int .i64 0, .int .i64 0, .slice (some ⟨w.heap.size, 0, none⟩) 1 1, .slice (some ⟨(w.heap.size + 1), 0, none⟩) 1 1, .slice none 0 0, .slice none 0 0] 29)
  rw [World.size_alloc] at BB BR
  rw [World.size_alloc] at BR
  go_enter Tryz.func5, Tryz.ntmps5
  go_upto_region 2 with fail
  generalize ((w.alloc (.cells #[.int .i64 5] 3)).alloc (.cells #[.int .i64 2, .int .i64 9, .string ⟨#[120, 121]⟩] 59)).alloc (.cells #[.int .i64 1, .int .i64 3, .int .i64 7, .int .i64 0, .string ⟨#[107]⟩, .bool true, .string ⟨#[107]⟩, .string ⟨#[118]⟩, .int .i64 0, .int .i64 0, .slice (some ⟨w.heap.size, 0, none⟩) 1 1, .slice (some ⟨(w.heap.size + 1), 0, none⟩) 1 1, .slice none 0 0, .slice none 0 0] 29) = W at *
  generalize hBr : w.heap.size + 1 + 1 = Br at *
  generalize hBb : w.heap.size + 1 = Bb at *
  have P1 := Lib.hid (PU.out W w.heap.size Bb (r0_in BA.out BB.out))
  have x0 := BR.out.cell 0
  have x1 := BR.out.cell 1
  have x2 := BR.out.cell 2
  have x3 := BR.out.cell 3
  have x4 := BR.out.cell 4
  have x5 := BR.out.cell 5
  have x6 := BR.out.cell 6
  have x7 := BR.out.cell 7
  have x8 := BR.out.cell 8
  have x9 := BR.out.cell 9
  have x10 := BR.out.cell 10
  have x11 := BR.out.cell 11
  have x12 := BR.out.cell 12
  have x13 := BR.out.cell 13
  simp only [List.getElem?_toArray, List.getElem?_cons_zero, List.getElem?_cons_succ] at x0 x1 x2 x3 x4 x5 x6 x7 x8 x9 x10 x11 x12 x13
  go_wp2_with fail
  refine P1.out.mono ?_; rintro e w2 ⟨rfl, hb⟩
  have HA2 := Lib.hid (HA.out.trans (hb.mono HA.out.size))
  have BA2 := Lib.hid (BA.out.held hb)
  have BB2 := Lib.hid (BB.out.held hb)
  have BR2 := Lib.hid (BR.out.held hb)
  clear hb P1 PU HA BA BB BR
  clear x0 x1 x2 x3 x4 x5 x6 x7 x8 x9 x10 x11 x12 x13
  go_wp2_with fail
  refine (GE.out _).mono ?_; rintro e w3 ⟨k, rfl, ho, hb⟩
  have HA3 := Lib.hid ((HA2.out.trans (hb.mono HA2.out.size)).alloc (Nat.le_trans HA2.out.size hb.size) (.cells #[.int .i64 1, .int .i64 3, .int .i64 7, .int .i64 0, .string ⟨#[107]⟩, .bool true, .string ⟨#[107]⟩, .string ⟨#[118]⟩, .int .i64 0, .int .i64 0, .slice k.g.A k.g.n k.g.c, .slice k.p.A k.p.n k.p.c, .slice k.t.A k.t.n k.t.c, .slice k.d.A k.d.n k.d.c] 29))
  have BA3 := Lib.hid ((BA2.out.held hb).alloc (.cells #[.int .i64 1, .int .i64 3, .int .i64 7, .int .i64 0, .string ⟨#[107]⟩, .bool true, .string ⟨#[107]⟩, .string ⟨#[118]⟩, .int .i64 0, .int .i64 0, .slice k.g.A k.g.n k.g.c, .slice k.p.A k.p.n k.p.c, .slice k.t.A k.t.n k.t.c, .slice k.d.A k.d.n k.d.c] 29))
  have BB3 := Lib.hid ((BB2.out.held hb).alloc (.cells #[.int .i64 1, .int .i64 3, .int .i64 7, .int .i64 0, .string ⟨#[107]⟩, .bool true, .string ⟨#[107]⟩, .string ⟨#[118]⟩, .int .i64 0, .int .i64 0, .slice k.g.A k.g.n k.g.c, .slice k.p.A k.p.n k.p.c, .slice k.t.A k.t.n k.t.c, .slice k.d.A k.d.n k.d.c] 29))
  have BR3 := Lib.hid ((BR2.out.held hb).alloc (.cells #[.int .i64 1, .int .i64 3, .int .i64 7, .int .i64 0, .string ⟨#[107]⟩, .bool true, .string ⟨#[107]⟩, .string ⟨#[118]⟩, .int .i64 0, .int .i64 0, .slice k.g.A k.g.n k.g.c, .slice k.p.A k.p.n k.p.c, .slice k.t.A k.t.n k.t.c, .slice k.d.A k.d.n k.d.c] 29))
  have BX3 := Lib.hid (Bx.new w3 #[.int .i64 1, .int .i64 3, .int .i64 7, .int .i64 0, .string ⟨#[107]⟩, .bool true, .string ⟨#[107]⟩, .string ⟨#[118]⟩, .int .i64 0, .int .i64 0, .slice k.g.A k.g.n k.g.c, .slice k.p.A k.p.n k.p.c, .slice k.t.A k.t.n k.t.c, .slice k.d.A k.d.n k.d.c] 29)
  have HO3 := Lib.hid (ho.below ((Below.refl w3.heap.size w3).alloc (Nat.le_refl _) (.cells #[.int .i64 1, .int .i64 3, .int .i64 7, .int .i64 0, .string ⟨#[107]⟩, .bool true, .string ⟨#[107]⟩, .string ⟨#[118]⟩, .int .i64 0, .int .i64 0, .slice k.g.A k.g.n k.g.c, .slice k.p.A k.p.n k.p.c, .slice k.t.A k.t.n k.t.c, .slice k.d.A k.d.n k.d.c] 29)))
  clear hb ho HA2 BA2 BB2 BR2 GE
  have S3 := Lib.hid (SR.out _ k w.heap.size Bb (HO3.out.m HW.out) (r0_in BA3.out BB3.out))
  have x0 := BR3.out.cell 0
  have x1 := BR3.out.cell 1
  have x2 := BR3.out.cell 2
  have x3 := BR3.out.cell 3
  have x4 := BR3.out.cell 4
  have x5 := BR3.out.cell 5
  have x6 := BR3.out.cell 6
  have x7 := BR3.out.cell 7
  have x8 := BR3.out.cell 8
  have x9 := BR3.out.cell 9
  have x10 := BR3.out.cell 10
  have x11 := BR3.out.cell 11
  have x12 := BR3.out.cell 12
  have x13 := BR3.out.cell 13
  simp only [List.getElem?_toArray, List.getElem?_cons_zero, List.getElem?_cons_succ] at x0 x1 x2 x3 x4 x5 x6 x7 x8 x9 x10 x11 x12 x13
  have y0 := BX3.out.cell 0
  have y1 := BX3.out.cell 1
  have y2 := BX3.out.cell 2
  have y3 := BX3.out.cell 3
  have y4 := BX3.out.cell 4
  have y5 := BX3.out.cell 5
  have y6 := BX3.out.cell 6
  have y7 := BX3.out.cell 7
  have y8 := BX3.out.cell 8
  have y9 := BX3.out.cell 9
  have y10 := BX3.out.cell 10
  have y11 := BX3.out.cell 11
  have y12 := BX3.out.cell 12
  have y13 := BX3.out.cell 13
  simp only [List.getElem?_toArray, List.getElem?_cons_zero, List.getElem?_cons_succ] at y0 y1 y2 y3 y4 y5 y6 y7 y8 y9 y10 y11 y12 y13
  go_upto_region 4 with fail
  generalize w3.alloc (.cells #[.int .i64 1, .int .i64 3, .int .i64 7, .int .i64 0, .string ⟨#[107]⟩, .bool true, .string ⟨#[107]⟩, .string ⟨#[118]⟩, .int .i64 0, .int .i64 0, .slice k.g.A k.g.n k.g.c, .slice k.p.A k.p.n k.p.c, .slice k.t.A k.t.n k.t.c, .slice k.d.A k.d.n k.d.c] 29) = V at *
  go_wp2_with fail
  refine S3.out.mono ?_; rintro e w4 ⟨rfl, hb⟩
  have HA4 := Lib.hid (HA3.out.trans (hb.mono HA3.out.size))
  have BA4 := Lib.hid (BA3.out.held hb)
  have BB4 := Lib.hid (BB3.out.held hb)
  have BR4 := Lib.hid (BR3.out.held hb)
  clear hb HA3 BA3 BB3 BR3 BX3 HO3 S3 SR
  clear x0 x1 x2 x3 x4 x5 x6 x7 x8 x9 x10 x11 x12 x13 y0 y1 y2 y3 y4 y5 y6 y7 y8 y9 y10 y11 y12 y13
  have N4 := Lib.hid (NA.out _ HA4.out)
  have T4 := Lib.hid (TO.out _ w.heap.size Bb (r0_in BA4.out BB4.out))
  have x0 := BR4.out.cell 0
  have x1 := BR4.out.cell 1
  have x2 := BR4.out.cell 2
  have x3 := BR4.out.cell 3
  have x4 := BR4.out.cell 4
  have x5 := BR4.out.cell 5
  have x6 := BR4.out.cell 6
  have x7 := BR4.out.cell 7
  have x8 := BR4.out.cell 8
  have x9 := BR4.out.cell 9
  have x10 := BR4.out.cell 10
  have x11 := BR4.out.cell 11
  have x12 := BR4.out.cell 12
  have x13 := BR4.out.cell 13
  simp only [List.getElem?_toArray, List.getElem?_cons_zero, List.getElem?_cons_succ] at x0 x1 x2 x3 x4 x5 x6 x7 x8 x9 x10 x11 x12 x13
  go_wp2_with fail
  refine N4.out.mono ?_; rintro e w5 ⟨rfl, rfl⟩
  go_wp2_with fail
  refine T4.out.mono ?_; rintro e w6 ⟨A, c, rfl, ho, hb⟩
  have HA6 := Lib.hid ((HA4.out.trans (hb.mono HA4.out.size)).alloc (Nat.le_trans HA4.out.size hb.size) (.cells #[.int .i64 2] 3))
  have hal := (Below.refl w6.heap.size w6).alloc (Nat.le_refl _) (.cells #[.int .i64 2] 3)
  have I6 := Lib.hid (SI.out _ A c _ 1 ((ho.below hal).m (by decide) (fun x hx => by rw [List.mem_singleton.1 hx]; unfold rng; decide)) (ints_one (Bx.new w6 #[.int .i64 2] 3) (by unfold rng; decide)))
  clear hb ho hal HA4 BA4 BB4 BR4 T4 TO
  clear x0 x1 x2 x3 x4 x5 x6 x7 x8 x9 x10 x11 x12 x13
  go_wp2_with fail
  refine I6.out.mono ?_; rintro e w7 ⟨rfl, q, rfl⟩
  go_wp2_with fail
  go_ret
  exact ⟨rfl, below_drewN HA6.out q⟩
end Go.Proofs.YtbmnagfjpenemaaGreatDoor
