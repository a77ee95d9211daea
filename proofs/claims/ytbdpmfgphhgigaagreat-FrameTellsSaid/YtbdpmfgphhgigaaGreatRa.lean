/- The document's own small functions of chapter 13: numbers and texts as bytes; which may be; zero bytes; the number of bytes. -/
import Derived.Test.YtbdpmfgphhgigaaGreatBase
import Derived.Test.YtbdpmfgphhgigaaGreatMake
import Derived.Deep.DeepCutAuto
import Derived.LoopTactic
import Derived.StillTailTactics
namespace Go.Proofs.YtbdpmfgphhgigaaGreat
open Go.ChangeShapes Go.WideShapes Go.ChangeAt Go.RowKit
set_option linter.unusedVariables false
set_option linter.unusedSimpArgs false
set_option maxRecDepth 100000
def two (v : Int) : Bool := decide (0 ≤ v ∧ v ≤ 65535)
def four (v : Int) : Bool := decide (0 ≤ v ∧ v ≤ 4294967295)
theorem i64_mask8 (v : Int) (h0 : -9223372036854775808 ≤ v) (h1 : v ≤ 9223372036854775807) : bits .and .i64 v 255 = v % 256 := by
  have e : ∀ a : Int, (BitVec.ofInt 64 a).toNat = (a % 18446744073709551616).toNat := fun a => by
    rw [BitVec.toNat_ofInt]; rfl
  show IntKind.i64.wrap ((BitVec.ofInt 64 v &&& BitVec.ofInt 64 255).toNat : Int) = _
  rw [BitVec.toNat_and, e, e, show ((255 : Int) % 18446744073709551616).toNat = 2 ^ 8 - 1 from rfl, Nat.and_two_pow_sub_one_eq_mod, IntKind.wrap_i64]
  omega
def bI (v : Int) : UInt8 := UInt8.ofNat (v % 256).toNat
theorem bI_toNat (v : Int) : ((bI v).toNat : Int) = v % 256 := by
  unfold bI; simp; omega
theorem bI_eq (v : Int) (h : 0 ≤ v) : bI v = byte v := by
  apply UInt8.toNat_inj.1
  have h1 := bI_toNat v
  have h2 := byte_toNat v h
  omega
theorem to_string2 (W : World) (v : Int) : (convert 64 9 (.slice (some ⟨W.heap.size, 0, none⟩) 2 2)).run Tryz.prog (W.alloc (.cells #[.int .u8 (v / 256 % 256), .int .u8 (v % 256)] 5)) = .ok (.string (str [bI (v / 256), bI v])) (W.alloc (.cells #[.int .u8 (v / 256 % 256), .int .u8 (v % 256)] 5)) :=
  run_convert_bytes_back (P := Tryz.prog) _ 64 9 5 ⟨W.heap.size, 0, none⟩ 2 [bI (v / 256), bI v] Tryz.underlying64 Tryz.underlying5 Tryz.underlying9 fun j hj => by
    have hh := heap_alloc_new W (.cells #[.int .u8 (v / 256 % 256), .int .u8 (v % 256)] 5)
    match j, hj with
    | 0, _ => exact (cell_of_row _ W.heap.size 0 _ _ _ hh).trans (by simp [bI_toNat])
    | 1, _ => exact (cell_of_row _ W.heap.size 1 _ _ _ hh).trans (by simp [bI_toNat])

set_option maxHeartbeats 1000000 in
theorem big2_in (v : Int) (w : World) (h0 : -9223372036854775808 ≤ v) (h1 : v ≤ 9223372036854775807) (h2 : 0 ≤ v) (h3 : v ≤ 65535) :
    Calls Tryz.prog 80 #[.int .i64 v, .int .i64 2] w fun e w' => e = .returned (.tuple #[.string (str [bI (v / 256), bI v]), .bool true]) ∧ Below w.heap.size w w' := by
  have m0 := i64_mask8 (v) (by omega) (by omega)
  have m1 := i64_mask8 (v / 256) (by omega) (by omega)
  have hz : (v / 256 / 256 == 0) = true := by rw [beq_iff_eq]; omega
  clear h3
  have hcv := to_string2 w v
  have hmk : ∀ w : World, (Instr.makeSlice 64 (.int .i64 2) (.int .i64 2)).run Tryz.prog w = .ok (.slice (some ⟨w.heap.size, 0, none⟩) 2 2) (w.alloc (.cells #[.int .u8 0, .int .u8 0] 5)) := fun _ => by kernel_rfl
  go_enter Tryz.func80, Tryz.ntmps80
  go_wp2_with fail
  refine wp_loop_rounds 3 ?_
  rw [rounds_succ]
  go_wp2_with fail
  rw [rounds_succ]
  go_wp2_with fail
  rw [rounds_succ]
  go_wp2_with fail
  go_ret2
  exact ⟨rfl, (Below.refl _ _).alloc (Nat.le_refl _) _⟩
theorem to_string4 (W : World) (v : Int) : (convert 64 9 (.slice (some ⟨W.heap.size, 0, none⟩) 4 4)).run Tryz.prog (W.alloc (.cells #[.int .u8 (v / 256 / 256 / 256 % 256), .int .u8 (v / 256 / 256 % 256), .int .u8 (v / 256 % 256), .int .u8 (v % 256)] 5)) = .ok (.string (str [bI (v / 256 / 256 / 256), bI (v / 256 / 256), bI (v / 256), bI v])) (W.alloc (.cells #[.int .u8 (v / 256 / 256 / 256 % 256), .int .u8 (v / 256 / 256 % 256), .int .u8 (v / 256 % 256), .int .u8 (v % 256)] 5)) :=
  run_convert_bytes_back (P := Tryz.prog) _ 64 9 5 ⟨W.heap.size, 0, none⟩ 4 [bI (v / 256 / 256 / 256), bI (v / 256 / 256), bI (v / 256), bI v] Tryz.underlying64 Tryz.underlying5 Tryz.underlying9 fun j hj => by
    have hh := heap_alloc_new W (.cells #[.int .u8 (v / 256 / 256 / 256 % 256), .int .u8 (v / 256 / 256 % 256), .int .u8 (v / 256 % 256), .int .u8 (v % 256)] 5)
    match j, hj with
    | 0, _ => exact (cell_of_row _ W.heap.size 0 _ _ _ hh).trans (by simp [bI_toNat])
    | 1, _ => exact (cell_of_row _ W.heap.size 1 _ _ _ hh).trans (by simp [bI_toNat])
    | 2, _ => exact (cell_of_row _ W.heap.size 2 _ _ _ hh).trans (by simp [bI_toNat])
    | 3, _ => exact (cell_of_row _ W.heap.size 3 _ _ _ hh).trans (by simp [bI_toNat])

set_option maxHeartbeats 1000000 in
theorem big4_in (v : Int) (w : World) (h0 : -9223372036854775808 ≤ v) (h1 : v ≤ 9223372036854775807) (h2 : 0 ≤ v) (h3 : v ≤ 4294967295) :
    Calls Tryz.prog 80 #[.int .i64 v, .int .i64 4] w fun e w' => e = .returned (.tuple #[.string (str [bI (v / 256 / 256 / 256), bI (v / 256 / 256), bI (v / 256), bI v]), .bool true]) ∧ Below w.heap.size w w' := by
  have m0 := i64_mask8 (v) (by omega) (by omega)
  have m1 := i64_mask8 (v / 256) (by omega) (by omega)
  have m2 := i64_mask8 (v / 256 / 256) (by omega) (by omega)
  have m3 := i64_mask8 (v / 256 / 256 / 256) (by omega) (by omega)
  have hz : (v / 256 / 256 / 256 / 256 == 0) = true := by rw [beq_iff_eq]; omega
  clear h3
  have hcv := to_string4 w v
  have hmk : ∀ w : World, (Instr.makeSlice 64 (.int .i64 4) (.int .i64 4)).run Tryz.prog w = .ok (.slice (some ⟨w.heap.size, 0, none⟩) 4 4) (w.alloc (.cells #[.int .u8 0, .int .u8 0, .int .u8 0, .int .u8 0] 5)) := fun _ => by kernel_rfl
  go_enter Tryz.func80, Tryz.ntmps80
  go_wp2_with fail
  refine wp_loop_rounds 5 ?_
  rw [rounds_succ]
  go_wp2_with fail
  rw [rounds_succ]
  go_wp2_with fail
  rw [rounds_succ]
  go_wp2_with fail
  rw [rounds_succ]
  go_wp2_with fail
  rw [rounds_succ]
  go_wp2_with fail
  go_ret2
  exact ⟨rfl, (Below.refl _ _).alloc (Nat.le_refl _) _⟩
theorem w2_bI (v : Int) (h : 0 ≤ v) : [bI (v / 256), bI v] = w2 v := by rw [bI_eq _ (by omega), bI_eq v h]; rfl
theorem w4_bI (v : Int) (h : 0 ≤ v) : [bI (v / 256 / 256 / 256), bI (v / 256 / 256), bI (v / 256), bI v] = w4 v := by
  rw [bI_eq _ (by omega), bI_eq _ (by omega), bI_eq _ (by omega), bI_eq v h]
  have e1 : v / 256 / 256 / 256 = v / 65536 / 256 := by omega
  have e2 : v / 256 / 256 = v / 65536 := by omega
  have e3 : byte (v / 256) = byte (v % 65536 / 256) := by
    apply UInt8.toNat_inj.1
    have h1 := byte_toNat (v / 256) (by omega)
    have h2 := byte_toNat (v % 65536 / 256) (by omega)
    omega
  have e4 : byte v = byte (v % 65536) := by
    apply UInt8.toNat_inj.1
    have h1 := byte_toNat v h
    have h2 := byte_toNat (v % 65536) (by omega)
    omega
  rw [e1, e2, e3, e4]; rfl

theorem rnum_is (v : Int) (h : 0 ≤ v ∧ v ≤ 65535) (w : World) : Calls Tryz.prog 27 #[.int .i64 v] w fun e w' => e = .returned (.string (str (w2 v))) ∧ Below w.heap.size w w' := by
  have BB := Lib.hid (fun u => big2_in v u (by omega) (by omega) h.1 h.2)
  rw [w2_bI v h.1] at BB
  clear h
  go_enter Tryz.func27, Tryz.ntmps27
  go_wp2_with fail
  refine (BB.out _).mono ?_; rintro e w1 ⟨rfl, hb⟩
  go_wp2_with fail
  go_ret
  exact ⟨rfl, hb⟩
theorem rlong_is (v : Int) (h : 0 ≤ v ∧ v ≤ 4294967295) (w : World) : Calls Tryz.prog 26 #[.int .i64 v] w fun e w' => e = .returned (.string (str (w4 v))) ∧ Below w.heap.size w w' := by
  have BB := Lib.hid (fun u => big4_in v u (by omega) (by omega) h.1 h.2)
  rw [w4_bI v h.1] at BB
  clear h
  go_enter Tryz.func26, Tryz.ntmps26
  go_wp2_with fail
  refine (BB.out _).mono ?_; rintro e w1 ⟨rfl, hb⟩
  go_wp2_with fail
  go_ret
  exact ⟨rfl, hb⟩
theorem str_app (a b : BA) : str a ++ str b = str (a ++ b) := by
  apply ByteArray.ext
  apply Array.ext'
  simp [str]
theorem rtwo_is (v : Int) (w : World) : Calls Tryz.prog 25 #[.int .i64 v] w fun e w' => e = .returned (.bool (two v)) ∧ w = w' := by
  by_cases h1 : 0 ≤ v
  · by_cases h2 : v ≤ 65535
    · rw [show two v = true from decide_eq_true ⟨h1, h2⟩]
      go_enter Tryz.func25, Tryz.ntmps25
      go_wp2_with fail
      go_ret
      exact ⟨rfl, rfl⟩
    · rw [show two v = false from decide_eq_false (fun h => h2 h.2)]
      go_enter Tryz.func25, Tryz.ntmps25
      go_wp2_with fail
      go_ret
      exact ⟨rfl, rfl⟩
  · rw [show two v = false from decide_eq_false (fun h => h1 h.1)]
    go_enter Tryz.func25, Tryz.ntmps25
    go_wp2_with fail
    go_ret
    exact ⟨rfl, rfl⟩
theorem rfour_is (v : Int) (w : World) : Calls Tryz.prog 24 #[.int .i64 v] w fun e w' => e = .returned (.bool (four v)) ∧ w = w' := by
  by_cases h1 : 0 ≤ v
  · by_cases h2 : v ≤ 4294967295
    · rw [show four v = true from decide_eq_true ⟨h1, h2⟩]
      go_enter Tryz.func24, Tryz.ntmps24
      go_wp2_with fail
      go_ret
      exact ⟨rfl, rfl⟩
    · rw [show four v = false from decide_eq_false (fun h => h2 h.2)]
      go_enter Tryz.func24, Tryz.ntmps24
      go_wp2_with fail
      go_ret
      exact ⟨rfl, rfl⟩
  · rw [show four v = false from decide_eq_false (fun h => h1 h.1)]
    go_enter Tryz.func24, Tryz.ntmps24
    go_wp2_with fail
    go_ret
    exact ⟨rfl, rfl⟩
set_option maxHeartbeats 400000 in
theorem rtext_is (l : BA) (h : l.length ≤ 65535) (w : World) : Calls Tryz.prog 83 #[.string (str l)] w fun e w' => e = .returned (.string (str (recX l))) ∧ Below w.heap.size w w' := by
  have BB := Lib.hid (fun u => rnum_is (l.length : Nat) ⟨by omega, by omega⟩ u)
  have HE := Lib.hid (show str (w2 (l.length : Nat)) ++ str l = str (recX l) from by rw [str_app]; rfl)
  have hz : (str (w2 (l.length : Nat))).size = 2 := rfl
  have hs : (str l).size = l.length := rfl
  generalize str (w2 (l.length : Nat)) = n at *
  generalize str l = s at *
  go_enter Tryz.func83, Tryz.ntmps83
  go_wp2_with fail
  refine (BB.out _).mono ?_; rintro e w1 ⟨rfl, hb⟩
  have H1 := Lib.hid hb
  clear hb
  go_wp2_with fail
  go_ret
  exact ⟨congrArg (fun x => Ending.returned (Value.string x)) HE.out, H1.out⟩
set_option maxHeartbeats 400000 in
theorem rzeros_is (n : Nat) (hn : n ≤ 1000) (w : World) : Calls Tryz.prog 28 #[.int .i64 n] w fun e w' => e = .returned (.string (str (zs n))) ∧ Below w.heap.size w w' := by
  obtain ⟨w2, hmk, hcv, hb⟩ := make_str n hn w
  have HB := Lib.hid hb
  generalize str (zs n) = z at *
  clear hb
  have k0 : (0 : Int) ≤ (n : Int) := by omega
  generalize w.heap.size = g at *
  go_enter Tryz.func28, Tryz.ntmps28
  go_wp2_with fail
  go_ret
  exact ⟨rfl, HB.out⟩
set_option maxHeartbeats 1000000 in
theorem rof_is (m : BA) (hm : m.length ≤ 4) (w : World) : Calls Tryz.prog 31 #[.string (str m)] w fun e w' => e = .returned (.int .i64 (num m : Nat)) ∧ w' = w := by
  have hsz : (str m).size = m.length := rfl
  go_enter Tryz.func31, Tryz.ntmps31
  go_wp2_with fail
  go_loopw [3, 4] (fun v i wr => ∃ k : Nat, k ≤ m.length ∧ i = .int .i64 k ∧ v = .int .i64 (num (m.take k) : Nat) ∧ wr = w) (fun _ i _ => m.length - (intOf i).toNat)
  case atStart => exact ⟨0, Nat.zero_le _, rfl, rfl, rfl⟩
  case round =>
    obtain ⟨k, hk, rfl, rfl, rfl⟩ := hrel
    have b0 : (0 : Int) ≤ (k : Int) := by omega
    by_cases hlt : k < m.length
    · have b1 : (k : Int) < (m.length : Int) := by omega
      have hix := run_ix m k hlt
      have hl := num_lt (m.take k) (by simp; omega)
      have hb3 : num (m.take k) < 16777216 := by
        refine Nat.lt_of_lt_of_le hl ?_
        have h3 : (m.take k).length ≤ 3 := by simp; omega
        exact Nat.pow_le_pow_right (by omega) h3
      have hgd : m.getD k 0 = m[k] := by rw [List.getD_eq_getElem?_getD, List.getElem?_eq_getElem hlt]; rfl
      rw [hgd] at hix
      have hb8 : m[k].toNat < 256 := m[k].toNat_lt
      have Hn := Lib.hid (num_take m k hlt)
      generalize m[k].toNat = b at *
      generalize num (m.take k) = a at *
      have e1 : IntKind.i64.wrap ((a : Int) * 256) = (a : Int) * 256 := IntWalk.i64_in _ (by omega)
      have e2 : IntKind.i64.wrap (b : Int) = (b : Int) := IntWalk.i64_in _ (by omega)
      have e3 : IntKind.i64.wrap ((a : Int) * 256 + (b : Int)) = (a : Int) * 256 + (b : Int) := IntWalk.i64_in _ (by omega)
      have Hx := Lib.hid (show (((num (m.take (k + 1)) : Nat) : Int)) = (a : Int) * 256 + (b : Int) from by rw [Hn.out]; omega)
      clear hl hb3 hb8 hgd Hn
      generalize str m = s at *
      go_wp2_with fail
      go_roundw
      case rel => exact ⟨k + 1, by omega, by go_num, by rw [Hx.out], trivial⟩
      case measure => simp [intOf]; omega
    · have b1 : ¬ (k : Int) < (m.length : Int) := by omega
      have Hn := Lib.hid (show m.take k = m from List.take_of_length_le (by omega))
      rw [Hn.out]
      clear Hn
      go_wp2_with fail
      go_ret
      exact ⟨rfl, rfl⟩
end Go.Proofs.YtbdpmfgphhgigaaGreat
