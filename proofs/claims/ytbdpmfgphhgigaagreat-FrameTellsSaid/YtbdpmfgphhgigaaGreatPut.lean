/- The contract of Put. -/
import Derived.Test.YtbdpmfgphhgigaaGreatSmall
import Derived.Deep.RegionHeld3
import Derived.Deep.QuietTactic
import Derived.Deep.RegionLaw
namespace Go.Proofs.YtbdpmfgphhgigaaGreat
open Go.ChangeShapes Go.WideShapes Go.ChangeAt Go.RowKit
set_option linter.unusedVariables false
set_option linter.unusedSimpArgs false
set_option maxRecDepth 100000
theorem okX_place (x : Sx) : okX x = (placeB x.ep x.ix && (decide (1 ≤ x.pl.length) && decide (x.pl.length ≤ 56))) := by
  unfold okX placeB
  rw [← Bool.decide_and, ← Bool.decide_and]
  congr 1
  apply propext
  constructor
  · rintro ⟨a, b, c, d, e, f⟩; exact ⟨⟨a, b, c, d⟩, e, f⟩
  · rintro ⟨⟨a, b, c, d⟩, e, f⟩; exact ⟨a, b, c, d, e, f⟩
theorem putX_no {x : Sx} (h : okX x = false) : str (putX x) = ⟨#[]⟩ := by unfold putX; rw [h]; rfl
theorem putX_yes {x : Sx} (h : okX x = true) : putX x = encX x := by unfold putX; rw [if_pos h]
def PutP (x : Sx) (w : World) (e : Ending) (w' : World) : Prop := e = .returned (.tuple #[.string (str (putX x)), .bool (okX x)]) ∧ Below w.heap.size w w'
theorem PutP.no {x : Sx} {w w' : World} (h : okX x = false) (hb : Below w.heap.size w w') : PutP x w (.returned (.tuple #[.string ⟨#[]⟩, .bool false])) w' := by
  unfold PutP
  rw [putX_no h, h]
  exact ⟨rfl, hb⟩
set_option maxHeartbeats 2000000 in
theorem put_bad (x : Sx) (hr : rng x.ep) (hs : x.pl.length ≤ maxLen) (h : okX x = false) (w : World) : Calls Tryz.prog 6 #[sv x] w fun e w' => PutP x w e w' := by
  have HN := Lib.hid (fun w' (hb : Below w.heap.size w w') => PutP.no h hb)
  have PL := Lib.hid (place_any x.ep x.ix hr)
  rw [okX_place] at h
  unfold sv
  have hsz : (str x.pl).size = x.pl.length := rfl
  unfold maxLen at hs
  generalize PutP x w = PP at *
  generalize str x.pl = s at *
  generalize x.pl.length = n at *
  generalize x.ep = ep at *
  generalize x.ix = ix at *
  generalize x.fr = fr at *
  subst hsz
  have HB := Lib.hid ((Below.refl w.heap.size w).alloc (Nat.le_refl _) (.cells #[.int .i64 ep, .int .i64 ix, .bool fr, .string s] 23))
  cases hp : placeB ep ix with
  | false =>
    rw [hp] at PL
    clear h hp
    go_enter Tryz.func6, Tryz.ntmps6
    go_wp2_with fail
    refine (PL.out _).mono ?_; rintro q w1 ⟨rfl, rfl⟩
    go_wp2_with fail
    exact HN.out _ HB.out
  | true =>
    rw [hp] at PL h
    rw [Bool.true_and] at h
    clear hp
    by_cases h0 : s.size = 0
    · have h0' : (s.size : Int) = 0 := by omega
      clear h h0 hs
      go_enter Tryz.func6, Tryz.ntmps6
      go_wp2_with fail
      refine (PL.out _).mono ?_; rintro q w1 ⟨rfl, rfl⟩
      go_wp2_with fail
      exact HN.out _ HB.out
    · have h1 : 56 < s.size := by
        rw [decide_eq_true (show 1 ≤ s.size by omega), Bool.true_and, decide_eq_false_iff_not] at h
        omega
      have h1' : (56 : Int) < (s.size : Int) := by omega
      have h0' : ((s.size : Int) == 0) = false := by rw [beq_eq_false_iff_ne]; omega
      clear h h0 hs h1
      go_enter Tryz.func6, Tryz.ntmps6
      go_wp2_with fail
      refine (PL.out _).mono ?_; rintro q w1 ⟨rfl, rfl⟩
      go_wp2_with fail
      exact HN.out _ HB.out
theorem u32_in {x : Int} (h0 : 0 ≤ x) (h1 : x ≤ 4294967295) : IntKind.u32.wrap x = x := by
  unfold IntKind.wrap
  simp [IntKind.bits, IntKind.signed]
  omega
theorem u16_in {x : Int} (h0 : 0 ≤ x) (h1 : x ≤ 65535) : IntKind.u16.wrap x = x := by
  unfold IntKind.wrap
  simp [IntKind.bits, IntKind.signed]
  omega
theorem u8_byte {x : Int} (h0 : 0 ≤ x) : IntKind.u8.wrap x = ((byte x).toNat : Int) := by
  rw [byte_toNat x h0]
  unfold IntKind.wrap
  simp [IntKind.bits, IntKind.signed]
theorem below_drewN {C : Nat} {w0 w : World} (h : Below C w0 w) (q : Nat) : Below C w0 (w.drewN q) := h.trans ⟨rfl, rfl, rfl, Nat.le_refl _, fun _ _ => rfl⟩
theorem byte_eq {a b : Int} (ha : 0 ≤ a) (hb : 0 ≤ b) (h : a % 256 = b % 256) : byte a = byte b := by
  apply UInt8.toNat_inj.1
  have := byte_toNat a ha
  have := byte_toNat b hb
  omega
theorem head_cells {x : Sx} (h : okX x = true) : #[Value.int IntKind.u8 ((byte (x.ep / 16777216)).toNat : Int), .int .u8 ((byte (x.ep / 65536)).toNat : Int), .int .u8 ((byte (x.ep / 256)).toNat : Int), .int .u8 ((byte x.ep).toNat : Int), .int .u8 ((byte (x.ix / 256)).toNat : Int), .int .u8 ((byte x.ix).toNat : Int), .int .u8 ((flagX x.fr).toNat : Int), .int .u8 ((byte (x.pl.length : Int)).toNat : Int)].toList = bcs (headX x) := by
  obtain ⟨k1, k2, k3, k4, k5, k6⟩ := okX_iff.1 h
  rw [byte_eq (a := x.ep / 16777216) (b := x.ep / 65536 / 256) (by omega) (by omega) (by omega), byte_eq (a := x.ep / 256) (b := x.ep % 65536 / 256) (by omega) (by omega) (by omega), byte_eq (a := x.ep) (b := x.ep % 65536) (by omega) (by omega) (by omega)]
  rw [show byte (x.pl.length : Int) = lenX x.pl.length by unfold byte lenX; rw [Int.toNat_natCast]]
  rfl
/-- Behind X: all that was there stands. -/
def Held (X w : World) : Prop := Below X.heap.size X w
theorem Held.start (X : World) : Held X X.drew := (Below.refl _ _).drew
theorem Held.step {X w w' : World} (h : Held X w) (hb : Below w.heap.size w w') : Held X w' := Below.trans h (hb.mono (Below.size h))
theorem Held.cell {X w : World} {a : Addr} {v : Value} (h : Held X w) (hc : X.cell? a = some v) : w.cell? a = some v := (Below.cell h (World.block_lt_of_cell? X a hc)).trans hc
theorem lit8 (w : World) (x : Sx) (n : Nat) (cs : Array Value) (hc : cs.toList = bcs (headX x)) (hs : cs.size = 8) (B : Nat) (hB : B = w.heap.size) : (w.alloc (.cells cs 5)).ownsRow 0 5 1 (.slice (some ⟨B, 0, none⟩) 8 8) 8 (bcs (headX x)) := by
  subst hB
  rw [← hc]
  exact World.ownsRow_lit w cs 8 (Nat.zero_le _) (by unfold maxLen; omega) (by omega)
set_option maxHeartbeats 2000000 in
theorem put_ok (x : Sx) (hr : rng x.ep) (h : okX x = true) (w : World) : Calls Tryz.prog 6 #[sv x] w fun e w' => PutP x w e w' := by
  obtain ⟨k1, k2, k3, k4, k5, k6⟩ := okX_iff.1 h
  have HP := Lib.hid (show ∀ w', Below w.heap.size w w' → PutP x w (.returned (.tuple #[.string (str (encX x)), .bool true])) w' from fun w' hb => by
    unfold PutP; rw [h, putX_yes h]; exact ⟨rfl, hb⟩)
  have PL := Lib.hid (place_any x.ep x.ix hr)
  rw [show placeB x.ep x.ix = true from decide_eq_true ⟨k1, k2, k3, k4⟩] at PL
  have MK := Lib.hid (mark_any x.fr)
  have RP := Lib.hid (fun w => repeat_any (56 - x.pl.length) (by omega) w)
  have HE := Lib.hid (show str (headX x) ++ str x.pl ++ str (zs (56 - x.pl.length)) = str (encX x) by
    unfold encX padX
    rw [← str_append, ← str_append, List.append_assoc]
    rfl)
  have e1 := u32_in (x := x.ep) (by omega) k2
  have e2 := u16_in k3 k4
  have a0 := u8_byte (x := x.ep / 16777216) (by omega)
  have a1 := u8_byte (x := x.ep / 65536) (by omega)
  have a2 := u8_byte (x := x.ep / 256) (by omega)
  have a3 := u8_byte (x := x.ep) (by omega)
  have a4 := u8_byte (x := x.ix / 256) (by omega)
  have a5 := u8_byte (x := x.ix) (by omega)
  have a7 := u8_byte (x := (x.pl.length : Int)) (by omega)
  have hlen : ((str x.pl).size : Nat) = x.pl.length := rfl
  unfold sv
  have hn0 : ((x.pl.length : Int) == 0) = false := by rw [beq_eq_false_iff_ne]; omega
  have hn1 : ¬ (56 : Int) < (x.pl.length : Int) := by omega
  have hn2 : (56 : Int) - (x.pl.length : Int) = ((56 - x.pl.length : Nat) : Int) := by omega
  have hn3 : IntKind.i64.wrap ((56 - x.pl.length : Nat) : Int) = ((56 - x.pl.length : Nat) : Int) := IntWalk.i64_in _ (by omega)
  have HB := Lib.hid ((Below.refl w.heap.size w).alloc (Nat.le_refl _) (.cells #[.int .i64 x.ep, .int .i64 x.ix, .bool x.fr, .string (str x.pl)] 23))
  have hbx := Sb.new w x
  obtain ⟨x0, x1, x2, x3⟩ := hbx.cells
  go_enter Tryz.func6, Tryz.ntmps6
  go_wp2_with fail
  refine (PL.out _).mono ?_; rintro q w1 ⟨rfl, rfl⟩
  go_wp2_with fail
  go_quiet (fail)
  go_wp2_with fail
  refine (MK.out _).mono ?_; rintro q w1 ⟨rfl, rfl⟩
  go_wp2_with fail
  have hown := lit8 ((w.alloc (Obj.cells #[Value.int IntKind.i64 x.ep, Value.int IntKind.i64 x.ix, Value.bool x.fr, Value.string (str x.pl)] 23)).drewN nq) x 8 _ (head_cells h) rfl (w.heap.size + 1) (by simp)
  have hsb : Sb (((w.alloc (Obj.cells #[Value.int IntKind.i64 x.ep, Value.int IntKind.i64 x.ix, Value.bool x.fr, Value.string (str x.pl)] 23)).drewN nq).alloc (.cells #[Value.int IntKind.u8 ((byte (x.ep / 16777216)).toNat : Int), .int .u8 ((byte (x.ep / 65536)).toNat : Int), .int .u8 ((byte (x.ep / 256)).toNat : Int), .int .u8 ((byte x.ep).toNat : Int), .int .u8 ((byte (x.ix / 256)).toNat : Int), .int .u8 ((byte x.ix).toNat : Int), .int .u8 ((flagX x.fr).toNat : Int), .int .u8 ((byte (x.pl.length : Int)).toNat : Int)] 5)) w.heap.size x := Bx.alloc (w := (w.alloc (Obj.cells #[Value.int IntKind.i64 x.ep, Value.int IntKind.i64 x.ix, Value.bool x.fr, Value.string (str x.pl)] 23)).drewN nq) hbx _
  have HB2 := Lib.hid (show Below w.heap.size w (((w.alloc (Obj.cells #[Value.int IntKind.i64 x.ep, Value.int IntKind.i64 x.ix, Value.bool x.fr, Value.string (str x.pl)] 23)).drewN nq).alloc (.cells #[Value.int IntKind.u8 ((byte (x.ep / 16777216)).toNat : Int), .int .u8 ((byte (x.ep / 65536)).toNat : Int), .int .u8 ((byte (x.ep / 256)).toNat : Int), .int .u8 ((byte x.ep).toNat : Int), .int .u8 ((byte (x.ix / 256)).toNat : Int), .int .u8 ((byte x.ix).toNat : Int), .int .u8 ((flagX x.fr).toNat : Int), .int .u8 ((byte (x.pl.length : Int)).toNat : Int)] 5)) from (below_drewN HB.out nq).alloc (by simp) _)
  clear hbx x0 x1 x2 x3 HB
  generalize ((w.alloc (Obj.cells #[Value.int IntKind.i64 x.ep, Value.int IntKind.i64 x.ix, Value.bool x.fr, Value.string (str x.pl)] 23)).drewN nq).alloc (.cells #[Value.int IntKind.u8 ((byte (x.ep / 16777216)).toNat : Int), .int .u8 ((byte (x.ep / 65536)).toNat : Int), .int .u8 ((byte (x.ep / 256)).toNat : Int), .int .u8 ((byte x.ep).toNat : Int), .int .u8 ((byte (x.ix / 256)).toNat : Int), .int .u8 ((byte x.ix).toNat : Int), .int .u8 ((flagX x.fr).toNat : Int), .int .u8 ((byte (x.pl.length : Int)).toNat : Int)] 5) = X at *
  have hcv := fun w (hh : Held X w) => own_string (w := w) (owns_kept2 hown (fun g hg => Below.block hh g (hown.lt g hg).2)) (by rw [headX_length])
  have hc3 := fun w (hh : Held X w) => hh.cell hsb.cells.2.2.2
  have hsn : (str (headX x)).size = 8 := rfl
  have hsz : (str (zs (56 - x.pl.length))).size = 56 - x.pl.length := by rw [str_size, zs_length]
  have hh1 : ¬ 9223372036854775807 < (str (headX x)).size + (str x.pl).size := by omega
  have hh2 : ¬ 9223372036854775807 < (str (headX x) ++ str x.pl).size + (str (zs (56 - x.pl.length))).size := by rw [ByteArray.size_append]; omega
  have hh3 : ¬ 9223372036854775807 < (str (headX x)).size + (str x.pl).size + (str (zs (56 - x.pl.length))).size := by omega
  have HES := Lib.hid HE.out
  clear hsn hsz hlen HE
  generalize str (headX x) = sh at *
  generalize str x.pl = sp at *
  generalize str (zs (56 - x.pl.length)) = sz at *
  go_region_held3 (fun w' => Held X w') (first | exact Held.start _ | exact Held.step (by assumption) (by assumption)) (first
    | (go_at_call 23; refine (RP.out _).mono ?_; rintro e w' ⟨rfl, hb⟩))
  have HH := Lib.hid (HB2.out.trans (Below.mono ‹Held X _› (Below.size HB2.out)))
  go_wp2_with fail
  rw [HES.out]
  go_ret2
  exact HP.out _ HH.out
theorem put_any (x : Sx) (hr : rng x.ep) (hs : x.pl.length ≤ maxLen) (w : World) : Calls Tryz.prog 6 #[sv x] w fun e w' => PutP x w e w' := by
  cases h : okX x with
  | true => exact put_ok x hr h w
  | false => exact put_bad x hr hs h w
end Go.Proofs.YtbdpmfgphhgigaaGreat
