/- The contracts of Put, the program's and the document's own. -/
import Derived.Test.YtkopgohmocjbbaaDoorShelf
import Derived.Deep.RegionHeld3
import Derived.Deep.RegionWith
namespace Go.Proofs.YtkopgohmocjbbaaDoor
open Go.ChangeShapes Go.WideShapes Go.ChangeAt Go.RowKit
set_option linter.unusedVariables false
set_option linter.unusedSimpArgs false
theorem okV_of {k d n : Int} {b : ByteArray} (h : okV k d n b = true) : (0 ≤ k ∧ k ≤ 5) ∧ (0 ≤ d ∧ d ≤ 5) ∧ (0 ≤ n ∧ n ≤ 63) ∧ b.size = 240 := of_decide_eq_true h
theorem u8_in {x : Int} (h0 : 0 ≤ x) (h1 : x ≤ 255) : IntKind.u8.wrap x = x := by
  unfold IntKind.wrap
  simp [IntKind.bits, IntKind.signed]
  omega
set_option maxHeartbeats 1000000 in
theorem put_bad (k d n : Int) (b : ByteArray) (h : okV k d n b = false) (w : World) : Calls Tryd.prog 10 #[pv k d n b] w fun e w' => e = .returned (.tuple #[.string ⟨#[]⟩, .bool false]) ∧ Below w.heap.size w w' := by
  have V := Lib.hid (valid_any k d n b)
  rw [h] at V
  unfold pv at *
  clear h
  go_enter Tryd.func10, Tryd.ntmps10
  go_wp2_with fail
  refine (V.out _).mono ?_; rintro e w1 ⟨rfl, hb⟩
  have HB := Lib.hid (((Below.refl w.heap.size w).alloc (Nat.le_refl _) _).trans (hb.mono (by simp)))
  clear hb
  go_wp2_with fail
  go_ret2
  exact ⟨rfl, HB.out⟩
/-- Behind X: all that was there stands. -/
def Held (X w : World) : Prop := Below X.heap.size X w
theorem Held.start (X : World) : Held X X.drew := (Below.refl _ _).drew
theorem Held.step {X w w' : World} (h : Held X w) (hb : Below w.heap.size w w') : Held X w' := Below.trans h (hb.mono (Below.size h))
theorem Held.cell {X w : World} {a : Addr} {v : Value} (h : Held X w) (hc : X.cell? a = some v) : w.cell? a = some v := (Below.cell h (World.block_lt_of_cell? X a hc)).trans hc
theorem strOfNums_bytes (b : BA) : strOfNums (b.map fun c => (c.toNat : Int)) = str b := by
  have h : ∀ c : UInt8, UInt8.ofNat ((c.toNat : Int)).toNat = c := fun c => by simp
  simp [strOfNums, str, List.map_map, Function.comp_def, h]
theorem getD_bytes (b : BA) (j : Nat) : (b.map fun c => (c.toNat : Int)).getD j 0 = ((b.getD j 0).toNat : Int) := by
  rw [List.getD_eq_getElem?_getD, List.getElem?_map, List.getD_eq_getElem?_getD]
  cases b[j]? <;> rfl
/-- Four bytes, as a string. -/
theorem convert4 {X : World} {B : Nat} {a b c d : Int} {l : BA} (hx : X.heap[B]? = some (.cells #[.int .u8 a, .int .u8 b, .int .u8 c, .int .u8 d] 5 (0, 0))) (hl : l.map (fun c => (c.toNat : Int)) = [a, b, c, d]) (w : World) (h : Held X w) :
    (convert 33 9 (.slice (some ⟨B, 0, none⟩) 4 4)).run Tryd.prog w = .ok (.string (str l)) w := by
  rw [← strOfNums_bytes, hl]
  have hw : w.heap[B]? = _ := (Below.block h B (Array.getElem?_eq_some_iff.1 hx).1).trans hx
  refine run_convert_bytes_arg w 33 5 Tryd.underlying33 Tryd.underlying5 B 0 4 4 _ rfl (fun i hi => ?_) 9 Tryd.underlying9
  rw [cell_of_row _ _ _ _ _ _ hw, Nat.zero_add]
  rcases i with _ | _ | _ | _ | i
  · rfl
  · rfl
  · rfl
  · rfl
  · omega
set_option maxHeartbeats 1000000 in
theorem put_ok (k d n : Int) (b : ByteArray) (h : okV k d n b = true) (w : World) : Calls Tryd.prog 10 #[pv k d n b] w fun e w' => e = .returned (.tuple #[.string (str (Pg.bytes ⟨k, d, n, b.data.toList⟩)), .bool true]) ∧ Below w.heap.size w w' := by
  have V := Lib.hid (valid_any k d n b)
  rw [h] at V
  have BL := Lib.hid (fun w => blank_any 10 (by omega) w)
  obtain ⟨⟨a1, a2⟩, ⟨b1, b2⟩, ⟨c1, c2⟩, e1⟩ := okV_of h
  have uk : IntKind.u8.wrap k = k := u8_in a1 (by omega)
  have ud : IntKind.u8.wrap d = d := u8_in b1 (by omega)
  have un : IntKind.u8.wrap n = n := u8_in c1 (by omega)
  unfold pv at *
  clear h
  go_enter Tryd.func10, Tryd.ntmps10
  go_wp2_with fail
  refine (V.out _).mono ?_; rintro e w1 ⟨rfl, hb⟩
  have HB := Lib.hid (((Below.refl w.heap.size w).alloc (Nat.le_refl _) _).trans (hb.mono (by simp)))
  have hx := (Box.new w _ _ _ _).below hb (Nat.le_refl _)
  obtain ⟨x0, x1, x2, x3⟩ := hx.cells
  clear hb
  go_wp2_with fail
  have y3 := (((Below.refl w1.heap.size w1).alloc (Nat.le_refl _) (.cells #[.int .u8 k, .int .u8 d, .int .u8 (n / 256), .int .u8 n] 5)).cell (p := ⟨w.heap.size, 3, none⟩) hx.lt).trans x3
  have hr : (w1.alloc (.cells #[.int .u8 k, .int .u8 d, .int .u8 (n / 256), .int .u8 n] 5)).heap[w1.heap.size]? = _ := heap_alloc_new w1 _
  have HB2 := Lib.hid (HB.out.alloc (B := w.heap.size) (Below.size HB.out) (.cells #[.int .u8 k, .int .u8 d, .int .u8 (n / 256), .int .u8 n] 5))
  clear HB x0 x1 x2 x3 hx
  generalize w1.alloc (.cells #[.int .u8 k, .int .u8 d, .int .u8 (n / 256), .int .u8 n] 5) = X at *
  have hcv := fun w => convert4 (w := w) hr (l := Pg.nums ⟨k, d, n, b.data.toList⟩) (by
    have := u8_toNat a1 (show k ≤ 255 by omega)
    have := u8_toNat b1 (show d ≤ 255 by omega)
    have := u8_toNat c1 (show n ≤ 255 by omega)
    have : n / 256 = 0 := by omega
    simp only [Pg.nums, List.map_cons, List.map_nil, *]; try rfl)
  have hc3 := fun w (h : Held X w) => h.cell y3
  obtain ⟨num, hnum⟩ : ∃ num, num = str (Pg.nums ⟨k, d, n, b.data.toList⟩) := ⟨_, rfl⟩
  rw [← hnum] at hcv
  have hns : num.size = 4 := by rw [hnum, str_size]; rfl
  obtain ⟨z, hz⟩ : ∃ z, z = str (zs 10) := ⟨_, rfl⟩
  rw [← hz] at BL
  have hzs : z.size = 10 := by rw [hz, str_size, zs_length]
  have HE := Lib.hid (show (ByteArray.mk #[80, 71] ++ num ++ z) ++ b = str (Pg.bytes ⟨k, d, n, b.data.toList⟩) by
    rw [hnum, hz, str_append, str_append, ← str_data b, str_append]
    simp only [str_toList, Pg.bytes])
  have HNUM := Lib.hid hnum
  clear hnum hz y3 hr a1 b1 c1 c2 uk ud un V
  go_region_held3 (fun w' => Held X w') (first | exact Held.start _ | exact Held.step (by assumption) (by assumption)) (first
    | (go_at_call 18; refine (BL.out _).mono ?_; rintro e w' ⟨rfl, hb⟩))
  have HH := Lib.hid (HB2.out.trans (Below.mono ‹Held X _› (Below.size HB2.out)))
  go_wp2_with fail
  rw [HE.out]
  go_ret2
  exact ⟨rfl, HH.out⟩
theorem put_any (k d n : Int) (b : ByteArray) (w : World) : Calls Tryd.prog 10 #[pv k d n b] w fun e w' => e = .returned (.tuple #[.string (if okV k d n b then str (Pg.bytes ⟨k, d, n, b.data.toList⟩) else ⟨#[]⟩), .bool (okV k d n b)]) ∧ Below w.heap.size w w' := by
  cases h : okV k d n b with
  | true => exact put_ok k d n b h w
  | false => exact put_bad k d n b h w
end Go.Proofs.YtkopgohmocjbbaaDoor
