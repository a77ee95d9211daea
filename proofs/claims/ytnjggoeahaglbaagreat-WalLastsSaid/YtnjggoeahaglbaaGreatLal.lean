/- The laws' first call. -/
import Derived.Test.YtnjggoeahaglbaaGreatLs
namespace Go.Proofs.YtnjggoeahaglbaaGreat.Wa
open Go.ChangeShapes Go.WideShapes Go.ChangeAt Go.RowKit
open Fr
set_option linter.unusedVariables false
set_option linter.unusedSimpArgs false
set_option maxRecDepth 100000
/-- A record of which only the kind, the transaction, the key are said. -/
def recK (k t : Int) (key : ByteArray) : Rc.Rc := ⟨k, t, 0, 0, key, false, ⟨⟨#[]⟩, ⟨#[]⟩, 0, 0⟩, [], [], [], []⟩
theorem recK_in (C : Nat) (w : World) {k t : Int} {key : ByteArray} (hk : Rc.rng k) (ht : Rc.rng t) (hs : key.size ≤ maxLen) : Rc.RcM C w (recK k t key) Rc.hd0 :=
  ⟨hk, ht, Rc.zero_rng, Rc.zero_rng, hs, ⟨Rc.zero_rng, Rc.zero_rng, Nat.zero_le _, Nat.zero_le _⟩, Rc.IntsM.nil _ _ _, Rc.PtsM.nil _ _ _, Rc.TxsM.nil _ _ _, Rc.DysM.nil _ _ _⟩
theorem recK_right {k t : Int} {key : ByteArray} (hk : 1 ≤ k ∧ k ≤ 7) (ht : 0 ≤ t ∧ t ≤ 65535) (hs : key.size ≤ 255) : Rc.rightR (recK k t key) = true :=
  Rc.rightR_iff.2 ⟨hk, decide_eq_true ht, rfl, rfl, hs, rfl, rfl, rfl, rfl, rfl⟩
theorem recK_length {k t : Int} {key : ByteArray} (h : Rc.rightR (recK k t key) = true) : (Rc.putS (recK k t key)).length = 32 + key.size := by
  have e : Rc.putS (recK k t key) = Rc.encR (recK k t key) := by unfold Rc.putS; rw [h]; rfl
  rw [e, Rc.encR_length]
  show 12 + (2 + key.size) + 2 + (8 + 0 + 0) + (2 + 2 * 0) + (2 + 0) + (2 + 0) + (2 + 6 * 0) = _
  omega
theorem strm_const {L : Nat} : ∀ l : List BA, (∀ x ∈ l, x.length = L) → (strmB l).length = l.length * (L + 2)
  | [], _ => by simp [strmB]
  | x :: l, h => by
    rw [strmB_cons, List.length_append, recX_length, strm_const l (fun y hy => h y (List.mem_cons_of_mem _ hy)), h x List.mem_cons_self, List.length_cons, Nat.add_mul]
    omega
theorem cnt_const {L : Nat} {l : List BA} (h : ∀ x ∈ l, x.length = L) (h1 : 1 ≤ L) (h2 : L ≤ 65535) : cntB l = (l.length * (L + 2) + 55) / 56 := by
  by_cases h0 : l = []
  · subst h0; rw [cnt_nil, List.length_nil, Nat.zero_mul]
  · unfold cntB
    rw [if_pos (strmOk_iff.2 ⟨h0, fun x hx => by rw [h x hx]; exact ⟨h1, h2⟩⟩), strm_const l h]
theorem ls_app_ok {C Cr q p : Nat} {A : Lg} {D D0 : Dk.St} (r : Rc.Rc) (hd : Rc.Hd) (w : World) (h : LS C q p A D w) (hi : Inv A D0) (hr : Rc.RcM Cr w r hd) (hCr : Cr ≤ w.heap.size) (h1 : Rc.rightR r = true) (h2 : roomA A r = true) :
    Calls Tryz.prog 16 #[.pointer (some ⟨q, 0, none⟩), Rc.rcv r hd] w fun e w' => e = .returned (.tuple #[.int .i64 ((A.recs.length + 1 : Nat) : Int), .int .i64 0]) ∧ LS C q p (appA A r) D w' ∧ Lv C w w' := by
  refine (ls_append r hd w h hi hr hCr).mono ?_
  rintro e w' (⟨a, _⟩ | ⟨_, a, _⟩ | ⟨_, _, a, b, c⟩)
  · rw [h1] at a; cases a
  · rw [h2] at a; cases a
  · exact ⟨a, b, c⟩
/-- A flush, where no stop is ahead. -/
theorem ls_flush_ok {C q p : Nat} {A : Lg} {D : Dk.St} (w : World) (h : LS C q p A D w) (hi : Inv A D) (hr : D.runs = true) (hl : D.left < 0) :
    ∃ D', Inv { A with dur := A.recs.length, fin := A.fin + cntB (A.recs.drop A.dur) } D' ∧ D'.runs = true ∧ D'.left = D.left ∧ D'.last.length = D.last.length ∧
      Calls Tryz.prog 19 #[.pointer (some ⟨q, 0, none⟩)] w fun e w' => e = .returned (.int .i64 0) ∧ LS C q p { A with dur := A.recs.length, fin := A.fin + cntB (A.recs.drop A.dur) } D' w' ∧ Lv C w w' := by
  have hF := ls_flush w h hi
  rcases flush_ways hi with ⟨h1, h2⟩ | ⟨h1, h2, h3, h4, h5, h6, h7, h8⟩ | ⟨_, h2, _⟩
  · rw [h2] at hF
    have e : A.recs.drop A.dur = [] := List.drop_eq_nil_of_le (by omega)
    rw [e, cnt_nil, Nat.add_zero, ← h1]
    exact ⟨D, hi, hr, rfl, rfl, hF⟩
  · rw [(hi.bat h1).2] at h4
    rw [h3] at hF
    rw [h4] at hF h5
    exact ⟨_, h5, h6, h8 hl, h7, hF⟩
  · exact absurd hl (h2 hr)
def z32 : BA := Rc.putS (recK 4 1 ⟨#[]⟩)
def y32 : BA := Rc.putS (recK 5 1 ⟨#[]⟩)
theorem z_right : Rc.rightR (recK 4 1 ⟨#[]⟩) = true := recK_right (by decide) (by decide) (by decide)
theorem y_right : Rc.rightR (recK 5 1 ⟨#[]⟩) = true := recK_right (by decide) (by decide) (by decide)
theorem room_1 : roomA ⟨2, 64, 1, 0, [], 0⟩ (recK 4 1 ⟨#[]⟩) = true := by
  unfold roomA
  refine decide_eq_true ?_
  show ((cntB [z32] : Nat) : Int) ≤ 64 - 0
  rw [cnt_const (L := 32) (fun x hx => by rw [List.mem_singleton.1 hx]; exact recK_length z_right) (by omega) (by omega)]
  decide
theorem yz_len : ∀ x ∈ [z32, y32], x.length = 32 := fun x hx => by
  rcases List.mem_cons.1 hx with e | e
  · rw [e]; exact recK_length z_right
  · rw [List.mem_singleton.1 e]; exact recK_length y_right
theorem room_2 : roomA ⟨2, 64, 1, 0, [z32], 0⟩ (recK 5 1 ⟨#[]⟩) = true := by
  unfold roomA
  refine decide_eq_true ?_
  show ((cntB [z32, y32] : Nat) : Int) ≤ 64 - 0
  rw [cnt_const (L := 32) yz_len (by omega) (by omega)]
  decide
theorem cnt_2 : cntB ([z32, y32].drop 0) = 2 := cnt_const (L := 32) yz_len (by omega) (by omega)
set_option maxHeartbeats 8000000 in
theorem alive_yes (w : World) : Calls Tryz.prog 11 #[] w fun e w' => e = .returned (.bool true) ∧ Below w.heap.size w w' := by
  have NW := Lib.hid (Dk.new_d 200 (by omega) (by omega) w)
  go_enter Tryz.func11, Tryz.ntmps11
  go_wp2_with fail
  refine NW.out.mono ?_; rintro e w2 ⟨rfl, hD, hL⟩
  have HD := Lib.hid hD
  have L2 := Lib.hid (Lv.of_d hL)
  have hS2 : w.heap.size ≤ w2.heap.size := hL.size
  clear hD hL NW
  obtain ⟨I1, O1⟩ := blank_inv (f := 2) (s := 64) (n := 200) (ep := 1) (by omega) (by omega) (by omega) (by omega) (by omega)
  have OP := Lib.hid (ls_open 2 64 1 w2 HD.out hS2 rfl rfl (by omega) (by decide) (by decide) (by omega) O1)
  rw [blank_opG] at OP
  have II1 := Lib.hid I1
  have OP2 := Lib.hid (show Calls Tryz.prog 14 #[.pointer (some ⟨w.heap.size + 1, 0, none⟩), .int .i64 2, .int .i64 64, .int .i64 1] w2 fun e w' => ∃ q, e = .returned (.tuple #[.pointer (some ⟨q, 0, none⟩), .int .i64 0]) ∧ LS w.heap.size q (w.heap.size + 1) ⟨2, 64, 1, 0, [], 0⟩ (Dk.blank 200) w' ∧ Below w2.heap.size w2 w' from OP.out)
  generalize w.heap.size + 1 = p at *
  clear I1 O1 OP
  unfold Dk.ptr
  go_wp2_with fail
  refine OP2.out.mono ?_; rintro e w3 ⟨q, rfl, hl, hb⟩
  have S3 := Lib.hid hl
  have L3 := Lib.hid (L2.out.trans (.here hb hS2))
  clear hl hb OP2 L2 HD
  have A1 := Lib.hid (ls_app_ok (recK 4 1 ⟨#[]⟩) Rc.hd0 w3 S3.out II1.out (recK_in w3.heap.size w3 (by unfold Rc.rng; omega) (by unfold Rc.rng; omega) (by decide)) (Nat.le_refl _) z_right room_1)
  have A1b := Lib.hid (show Calls Tryz.prog 16 #[.pointer (some ⟨q, 0, none⟩), .agg #[.int .i64 4, .int .i64 1, .int .i64 0, .int .i64 0, .string ⟨#[]⟩, .bool false, .string ⟨#[]⟩, .string ⟨#[]⟩, .int .i64 0, .int .i64 0, .slice none 0 0, .slice none 0 0, .slice none 0 0, .slice none 0 0]] w3 fun e w' => e = .returned (.tuple #[.int .i64 1, .int .i64 0]) ∧ LS w.heap.size q p ⟨2, 64, 1, 0, [z32], 0⟩ (Dk.blank 200) w' ∧ Lv w.heap.size w3 w' from A1.out)
  have II2 := Lib.hid (show Inv ⟨2, 64, 1, 0, [z32], 0⟩ (Dk.blank 200) from II1.out.app z_right room_1)
  clear A1 II1
  go_wp2_with fail
  refine A1b.out.mono ?_; rintro e w4 ⟨rfl, hl, hb⟩
  have S4 := Lib.hid hl
  have L4 := Lib.hid (L3.out.trans hb)
  clear hl hb A1b L3 S3
  have A2 := Lib.hid (ls_app_ok (recK 5 1 ⟨#[]⟩) Rc.hd0 w4 S4.out II2.out (recK_in w4.heap.size w4 (by unfold Rc.rng; omega) (by unfold Rc.rng; omega) (by decide)) (Nat.le_refl _) y_right room_2)
  have A2b := Lib.hid (show Calls Tryz.prog 16 #[.pointer (some ⟨q, 0, none⟩), .agg #[.int .i64 5, .int .i64 1, .int .i64 0, .int .i64 0, .string ⟨#[]⟩, .bool false, .string ⟨#[]⟩, .string ⟨#[]⟩, .int .i64 0, .int .i64 0, .slice none 0 0, .slice none 0 0, .slice none 0 0, .slice none 0 0]] w4 fun e w' => e = .returned (.tuple #[.int .i64 2, .int .i64 0]) ∧ LS w.heap.size q p ⟨2, 64, 1, 0, [z32, y32], 0⟩ (Dk.blank 200) w' ∧ Lv w.heap.size w4 w' from A2.out)
  have II3 := Lib.hid (show Inv ⟨2, 64, 1, 0, [z32, y32], 0⟩ (Dk.blank 200) from II2.out.app y_right room_2)
  clear A2 II2
  go_wp2_with fail
  refine A2b.out.mono ?_; rintro e w5 ⟨rfl, hl, hb⟩
  have S5 := Lib.hid hl
  have L5 := Lib.hid (L4.out.trans hb)
  clear hl hb A2b L4 S4
  have LA := Lib.hid (show Calls Tryz.prog 28 #[.pointer (some ⟨q, 0, none⟩)] w5 fun e w' => e = .returned (.int .i64 2) ∧ w5 = w' from ls_last w5 S5.out)
  have DU := Lib.hid (show Calls Tryz.prog 29 #[.pointer (some ⟨q, 0, none⟩)] w5 fun e w' => e = .returned (.int .i64 0) ∧ w5 = w' from ls_dur w5 S5.out)
  obtain ⟨D6, hi6, hr6, hl6, hn6, FL⟩ := ls_flush_ok w5 S5.out II3.out rfl (by decide)
  have hA6 : ({ (⟨2, 64, 1, 0, [z32, y32], 0⟩ : Lg) with dur := [z32, y32].length, fin := 0 + cntB ([z32, y32].drop 0) } : Lg) = ⟨2, 64, 1, 2, [z32, y32], 2⟩ := by rw [cnt_2]; rfl
  have HFL := Lib.hid (show Calls Tryz.prog 19 #[.pointer (some ⟨q, 0, none⟩)] w5 fun e w' => e = .returned (.int .i64 0) ∧ LS w.heap.size q p ⟨2, 64, 1, 2, [z32, y32], 2⟩ D6 w' ∧ Lv w.heap.size w5 w' from by rw [← hA6]; exact FL)
  have II6 := Lib.hid (show Inv ⟨2, 64, 1, 2, [z32, y32], 2⟩ D6 from by rw [← hA6]; exact hi6)
  have HR6 := Lib.hid hr6
  have HN6 := Lib.hid (show D6.last.length = 200 from hn6)
  clear FL hi6 hr6 hl6 hn6 hA6 II3
  go_wp2_with fail
  refine LA.out.mono ?_; rintro e u ⟨rfl, rfl⟩
  go_wp2_with fail
  refine DU.out.mono ?_; rintro e u ⟨rfl, rfl⟩
  go_wp2_with fail
  refine HFL.out.mono ?_; rintro e w6 ⟨rfl, hl, hb⟩
  have S6 := Lib.hid hl
  have L6 := Lib.hid (L5.out.trans hb)
  clear hl hb HFL L5 S5 LA DU
  have DU := Lib.hid (show Calls Tryz.prog 29 #[.pointer (some ⟨q, 0, none⟩)] w6 fun e w' => e = .returned (.int .i64 2) ∧ w6 = w' from ls_dur w6 S6.out)
  obtain ⟨i7, o7, e7⟩ := again_inv (ep := 2) II6.out (by decide) (by decide)
  have OP := Lib.hid (ls_open 2 64 2 w6 S6.out.disk S6.out.base HR6.out II6.out.pe (by omega) II6.out.dl II6.out.d1 (by omega) o7)
  have e8 : opG 2 64 2 (part 2 64 D6.last) = ⟨2, 64, 2, 2, [z32, y32], 2⟩ := e7
  have OP2 := Lib.hid (show Calls Tryz.prog 14 #[.pointer (some ⟨p, 0, none⟩), .int .i64 2, .int .i64 64, .int .i64 2] w6 fun e w' => ∃ q, e = .returned (.tuple #[.pointer (some ⟨q, 0, none⟩), .int .i64 0]) ∧ LS w.heap.size q p ⟨2, 64, 2, 2, [z32, y32], 2⟩ D6 w' ∧ Below w6.heap.size w6 w' from by rw [← e8]; exact OP.out)
  have II7 := Lib.hid (show Inv ⟨2, 64, 2, 2, [z32, y32], 2⟩ D6 from by rw [← e8]; exact i7)
  clear i7 o7 e7 OP e8
  go_wp2_with fail
  refine DU.out.mono ?_; rintro e u ⟨rfl, rfl⟩
  go_wp2_with fail
  refine OP2.out.mono ?_; rintro e w7 ⟨m, rfl, hl, hb⟩
  have S7 := Lib.hid hl
  have S6b := Lib.hid (S6.out.kept hb)
  have L7 := Lib.hid (L6.out.trans (.here hb S6.out.base))
  clear hl hb OP2 L6 S6 DU
  have AT := Lib.hid (ls_at 1 w7 S7.out II7.out (by decide))
  have hrd : Rc.readR (([z32, y32] : List BA).getD 1 []) = recK 5 1 ⟨#[]⟩ := (ok_put y_right).2
  have AT2 := Lib.hid (show Calls Tryz.prog 26 #[.pointer (some ⟨m, 0, none⟩), .int .i64 2] w7 fun e w' => ∃ hd : Rc.Hd, e = .returned (.tuple #[.agg #[.int .i64 5, .int .i64 1, .int .i64 0, .int .i64 0, .string ⟨#[]⟩, .bool false, .string ⟨#[]⟩, .string ⟨#[]⟩, .int .i64 0, .int .i64 0, .slice hd.g.A hd.g.n hd.g.c, .slice hd.p.A hd.p.n hd.p.c, .slice hd.t.A hd.t.n hd.t.c, .slice hd.d.A hd.d.n hd.d.c], .bool true]) ∧ Below w7.heap.size w7 w' from AT.out.mono fun e w' ⟨hd, h1, h2, h3⟩ => ⟨hd, by
      rw [show (⟨2, 64, 2, 2, [z32, y32], 2⟩ : Lg).recs = [z32, y32] from rfl, hrd] at h1
      exact h1, h3⟩)
  clear AT hrd
  go_wp2_with fail
  refine AT2.out.mono ?_; rintro e w8 ⟨hd, rfl, hb⟩
  have HB8 := Lib.hid hb
  have HZ := Lib.hid (Rc.Bx.new w8 #[.int .i64 0, .int .i64 0, .int .i64 0, .int .i64 0, .string ⟨#[]⟩, .bool false, .string ⟨#[]⟩, .string ⟨#[]⟩, .int .i64 0, .int .i64 0, .slice none 0 0, .slice none 0 0, .slice none 0 0, .slice none 0 0] 43)
  have HB9 := Lib.hid (Rc.below_row (ds := #[.int .i64 5, .int .i64 1, .int .i64 0, .int .i64 0, .string ⟨#[]⟩, .bool false, .string ⟨#[]⟩, .string ⟨#[]⟩, .int .i64 0, .int .i64 0, .slice hd.g.A hd.g.n hd.g.c, .slice hd.p.A hd.p.n hd.p.c, .slice hd.t.A hd.t.n hd.t.c, .slice hd.d.A hd.d.n hd.d.c]) ((Below.refl w8.heap.size w8).alloc (Nat.le_refl _) (.cells #[.int .i64 0, .int .i64 0, .int .i64 0, .int .i64 0, .string ⟨#[]⟩, .bool false, .string ⟨#[]⟩, .string ⟨#[]⟩, .int .i64 0, .int .i64 0, .slice none 0 0, .slice none 0 0, .slice none 0 0, .slice none 0 0] 43)) (Nat.le_refl _))
  clear hb AT2
  have hz := HZ.out
  have HY := Lib.hid (hz.row #[.int .i64 5, .int .i64 1, .int .i64 0, .int .i64 0, .string ⟨#[]⟩, .bool false, .string ⟨#[]⟩, .string ⟨#[]⟩, .int .i64 0, .int .i64 0, .slice hd.g.A hd.g.n hd.g.c, .slice hd.p.A hd.p.n hd.p.c, .slice hd.t.A hd.t.n hd.t.c, .slice hd.d.A hd.d.n hd.d.c])
  have c0 : ((w8.alloc (.cells #[.int .i64 0, .int .i64 0, .int .i64 0, .int .i64 0, .string ⟨#[]⟩, .bool false, .string ⟨#[]⟩, .string ⟨#[]⟩, .int .i64 0, .int .i64 0, .slice none 0 0, .slice none 0 0, .slice none 0 0, .slice none 0 0] 43)).setRow w8.heap.size #[.int .i64 5, .int .i64 1, .int .i64 0, .int .i64 0, .string ⟨#[]⟩, .bool false, .string ⟨#[]⟩, .string ⟨#[]⟩, .int .i64 0, .int .i64 0, .slice hd.g.A hd.g.n hd.g.c, .slice hd.p.A hd.p.n hd.p.c, .slice hd.t.A hd.t.n hd.t.c, .slice hd.d.A hd.d.n hd.d.c]).cell? ⟨w8.heap.size, 0, none⟩ = some (.int .i64 5) := HY.out.cell 0
  go_wp2_with (refine wpList_store_row rfl 43 (.tmp 10) (.tmp 84) rfl w8.heap.size #[.int .i64 5, .int .i64 1, .int .i64 0, .int .i64 0, .string ⟨#[]⟩, .bool false, .string ⟨#[]⟩, .string ⟨#[]⟩, .int .i64 0, .int .i64 0, .slice hd.g.A hd.g.n hd.g.c, .slice hd.p.A hd.p.n hd.p.c, .slice hd.t.A hd.t.n hd.t.c, .slice hd.d.A hd.d.n hd.d.c] rfl rfl 43 _ hz (by kernel_rfl) rfl (by simp [Value.oneCell']) ?_; generalize hV : World.setRow _ _ _ = V at *)
  have S7v := Lib.hid ((S7.out.kept HB8.out).kept HB9.out)
  have S6v := Lib.hid ((S6b.out.kept HB8.out).kept HB9.out)
  have L9 := Lib.hid ((L7.out.trans (.here HB8.out S7.out.base)).trans (.here HB9.out (S7.out.kept HB8.out).base))
  have LA := Lib.hid (show Calls Tryz.prog 28 #[.pointer (some ⟨m, 0, none⟩)] V fun e w' => e = .returned (.int .i64 2) ∧ V = w' from ls_last V S7v.out)
  have LF := Lib.hid (ls_left V S7v.out II7.out)
  have LG := Lib.hid (fun u (hb : Below V.heap.size V u) => ls_left u (S6v.out.kept hb) II6.out)
  have LF2 := Lib.hid (show Calls Tryz.prog 30 #[.pointer (some ⟨m, 0, none⟩)] V fun e w' => e = .returned (.int .i64 62) ∧ Below V.heap.size V w' from LF.out)
  have LG2 := Lib.hid (show ∀ u, Below V.heap.size V u → Calls Tryz.prog 30 #[.pointer (some ⟨q, 0, none⟩)] u fun e w' => e = .returned (.int .i64 62) ∧ Below u.heap.size u w' from LG.out)
  clear LF LG
  go_wp2_with fail
  refine LA.out.mono ?_; rintro e u ⟨rfl, rfl⟩
  go_wp2_with fail
  refine LF2.out.mono ?_; rintro e u ⟨rfl, hb1⟩
  have LG3 := Lib.hid (LG2.out u hb1)
  go_wp2_with fail
  refine LG3.out.mono ?_; rintro e u2 ⟨rfl, hb2⟩
  go_wp2_with fail
  go_ret
  exact ⟨rfl, (L9.out.below.trans (hb1.mono (S7v.out.base))).trans (hb2.mono (Nat.le_trans S7v.out.base hb1.size))⟩
end Go.Proofs.YtnjggoeahaglbaaGreat.Wa
