/- The document's own small functions of chapter 12: numbers and texts as bytes; which may be. -/
import Derived.Test.YtbmnagfjpenemaaGreatDoorSamer
import Derived.Test.YtbmnagfjpenemaaGreatDoorRight
import Derived.Deep.DeepCutAuto
namespace Go.Proofs.YtbmnagfjpenemaaGreatDoor
open Go.ChangeShapes Go.WideShapes Go.ChangeAt Go.RowKit
set_option linter.unusedVariables false
set_option linter.unusedSimpArgs false
set_option maxRecDepth 100000
theorem i64_mask8 (v : Int) (h0 : -9223372036854775808 ≤ v) (h1 : v ≤ 9223372036854775807) : bits .and .i64 v 255 = v % 256 := by
  have e : ∀ a : Int, (BitVec.ofInt 64 a).toNat = (a % 18446744073709551616).toNat := fun a => by
    rw [BitVec.toNat_ofInt]; rfl
  show IntKind.i64.wrap ((BitVec.ofInt 64 v &&& BitVec.ofInt 64 255).toNat : Int) = _
  rw [BitVec.toNat_and, e, e, show ((255 : Int) % 18446744073709551616).toNat = 2 ^ 8 - 1 from rfl, Nat.and_two_pow_sub_one_eq_mod, IntKind.wrap_i64]
  omega
def bI (v : Int) : UInt8 := UInt8.ofNat (v % 256).toNat
theorem bI_toNat (v : Int) : ((bI v).toNat : Int) = v % 256 := by
  unfold bI; simp; omega
theorem bI_eq (v : Int) (h : 0 ≤ v) : bI v = byte v := by
  apply UInt8.toNat_inj.1
  have h1 := bI_toNat v
  have h2 := byte_toNat v h
  omega
theorem to_string2 (W : World) (v : Int) : (convert 63 9 (.slice (some ⟨W.heap.size, 0, none⟩) 2 2)).run Tryz.prog (W.alloc (.cells #[.int .u8 (v / 256 % 256), .int .u8 (v % 256)] 5)) = .ok (.string (str [bI (v / 256), bI v])) (W.alloc (.cells #[.int .u8 (v / 256 % 256), .int .u8 (v % 256)] 5)) :=
  run_convert_bytes_back (P := Tryz.prog) _ 63 9 5 ⟨W.heap.size, 0, none⟩ 2 [bI (v / 256), bI v] Tryz.underlying63 Tryz.underlying5 Tryz.underlying9 fun j hj => by
    have hh := heap_alloc_new W (.cells #[.int .u8 (v / 256 % 256), .int .u8 (v % 256)] 5)
    match j, hj with
    | 0, _ => exact (cell_of_row _ W.heap.size 0 _ _ _ hh).trans (by simp [bI_toNat])
    | 1, _ => exact (cell_of_row _ W.heap.size 1 _ _ _ hh).trans (by simp [bI_toNat])

set_option maxHeartbeats 1000000 in
theorem big2_in (v : Int) (w : World) (h0 : -9223372036854775808 ≤ v) (h1 : v ≤ 9223372036854775807) (h2 : 0 ≤ v) (h3 : v ≤ 65535) :
    Calls Tryz.prog 105 #[.int .i64 v, .int .i64 2] w fun e w' => e = .returned (.tuple #[.string (str [bI (v / 256), bI v]), .bool true]) ∧ Below w.heap.size w w' := by
  have m0 := i64_mask8 (v) (by omega) (by omega)
  have m1 := i64_mask8 (v / 256) (by omega) (by omega)
  have hz : (v / 256 / 256 == 0) = true := by rw [beq_iff_eq]; omega
  clear h3
  have hcv := to_string2 w v
  have hmk : ∀ w : World, (Instr.makeSlice 63 (.int .i64 2) (.int .i64 2)).run Tryz.prog w = .ok (.slice (some ⟨w.heap.size, 0, none⟩) 2 2) (w.alloc (.cells #[.int .u8 0, .int .u8 0] 5)) := fun _ => by kernel_rfl
  go_enter Tryz.func105, Tryz.ntmps105
  go_wp2_with fail
  refine wp_loop_rounds 3 ?_
  rw [rounds_succ]
  go_wp2_with fail
  rw [rounds_succ]
  go_wp2_with fail
  rw [rounds_succ]
  go_wp2_with fail
  go_ret2
  exact ⟨rfl, (Below.refl _ _).alloc (Nat.le_refl _) _⟩
theorem to_string4 (W : World) (v : Int) : (convert 63 9 (.slice (some ⟨W.heap.size, 0, none⟩) 4 4)).run Tryz.prog (W.alloc (.cells #[.int .u8 (v / 256 / 256 / 256 % 256), .int .u8 (v / 256 / 256 % 256), .int .u8 (v / 256 % 256), .int .u8 (v % 256)] 5)) = .ok (.string (str [bI (v / 256 / 256 / 256), bI (v / 256 / 256), bI (v / 256), bI v])) (W.alloc (.cells #[.int .u8 (v / 256 / 256 / 256 % 256), .int .u8 (v / 256 / 256 % 256), .int .u8 (v / 256 % 256), .int .u8 (v % 256)] 5)) :=
  run_convert_bytes_back (P := Tryz.prog) _ 63 9 5 ⟨W.heap.size, 0, none⟩ 4 [bI (v / 256 / 256 / 256), bI (v / 256 / 256), bI (v / 256), bI v] Tryz.underlying63 Tryz.underlying5 Tryz.underlying9 fun j hj => by
    have hh := heap_alloc_new W (.cells #[.int .u8 (v / 256 / 256 / 256 % 256), .int .u8 (v / 256 / 256 % 256), .int .u8 (v / 256 % 256), .int .u8 (v % 256)] 5)
    match j, hj with
    | 0, _ => exact (cell_of_row _ W.heap.size 0 _ _ _ hh).trans (by simp [bI_toNat])
    | 1, _ => exact (cell_of_row _ W.heap.size 1 _ _ _ hh).trans (by simp [bI_toNat])
    | 2, _ => exact (cell_of_row _ W.heap.size 2 _ _ _ hh).trans (by simp [bI_toNat])
    | 3, _ => exact (cell_of_row _ W.heap.size 3 _ _ _ hh).trans (by simp [bI_toNat])

set_option maxHeartbeats 1000000 in
theorem big4_in (v : Int) (w : World) (h0 : -9223372036854775808 ≤ v) (h1 : v ≤ 9223372036854775807) (h2 : 0 ≤ v) (h3 : v ≤ 4294967295) :
    Calls Tryz.prog 105 #[.int .i64 v, .int .i64 4] w fun e w' => e = .returned (.tuple #[.string (str [bI (v / 256 / 256 / 256), bI (v / 256 / 256), bI (v / 256), bI v]), .bool true]) ∧ Below w.heap.size w w' := by
  have m0 := i64_mask8 (v) (by omega) (by omega)
  have m1 := i64_mask8 (v / 256) (by omega) (by omega)
  have m2 := i64_mask8 (v / 256 / 256) (by omega) (by omega)
  have m3 := i64_mask8 (v / 256 / 256 / 256) (by omega) (by omega)
  have hz : (v / 256 / 256 / 256 / 256 == 0) = true := by rw [beq_iff_eq]; omega
  clear h3
  have hcv := to_string4 w v
  have hmk : ∀ w : World, (Instr.makeSlice 63 (.int .i64 4) (.int .i64 4)).run Tryz.prog w = .ok (.slice (some ⟨w.heap.size, 0, none⟩) 4 4) (w.alloc (.cells #[.int .u8 0, .int .u8 0, .int .u8 0, .int .u8 0] 5)) := fun _ => by kernel_rfl
  go_enter Tryz.func105, Tryz.ntmps105
  go_wp2_with fail
  refine wp_loop_rounds 5 ?_
  rw [rounds_succ]
  go_wp2_with fail
  rw [rounds_succ]
  go_wp2_with fail
  rw [rounds_succ]
  go_wp2_with fail
  rw [rounds_succ]
  go_wp2_with fail
  rw [rounds_succ]
  go_wp2_with fail
  go_ret2
  exact ⟨rfl, (Below.refl _ _).alloc (Nat.le_refl _) _⟩
theorem w2_bI (v : Int) (h : 0 ≤ v) : [bI (v / 256), bI v] = w2 v := by rw [bI_eq _ (by omega), bI_eq v h]; rfl
theorem w4_bI (v : Int) (h : 0 ≤ v) : [bI (v / 256 / 256 / 256), bI (v / 256 / 256), bI (v / 256), bI v] = w4 v := by
  rw [bI_eq _ (by omega), bI_eq _ (by omega), bI_eq _ (by omega), bI_eq v h]
  have e1 : v / 256 / 256 / 256 = v / 65536 / 256 := by omega
  have e2 : v / 256 / 256 = v / 65536 := by omega
  have e3 : byte (v / 256) = byte (v % 65536 / 256) := by
    apply UInt8.toNat_inj.1
    have h1 := byte_toNat (v / 256) (by omega)
    have h2 := byte_toNat (v % 65536 / 256) (by omega)
    omega
  have e4 : byte v = byte (v % 65536) := by
    apply UInt8.toNat_inj.1
    have h1 := byte_toNat v h
    have h2 := byte_toNat (v % 65536) (by omega)
    omega
  rw [e1, e2, e3, e4]; rfl

theorem rnum_is (v : Int) (h : 0 ≤ v ∧ v ≤ 65535) (w : World) : Calls Tryz.prog 23 #[.int .i64 v] w fun e w' => e = .returned (.string (str (w2 v))) ∧ Below w.heap.size w w' := by
  have BB := Lib.hid (fun u => big2_in v u (by omega) (by omega) h.1 h.2)
  rw [w2_bI v h.1] at BB
  clear h
  go_enter Tryz.func23, Tryz.ntmps23
  go_wp2_with fail
  refine (BB.out _).mono ?_; rintro e w1 ⟨rfl, hb⟩
  go_wp2_with fail
  go_ret
  exact ⟨rfl, hb⟩
theorem rlong_is (v : Int) (h : 0 ≤ v ∧ v ≤ 4294967295) (w : World) : Calls Tryz.prog 24 #[.int .i64 v] w fun e w' => e = .returned (.string (str (w4 v))) ∧ Below w.heap.size w w' := by
  have BB := Lib.hid (fun u => big4_in v u (by omega) (by omega) h.1 h.2)
  rw [w4_bI v h.1] at BB
  clear h
  go_enter Tryz.func24, Tryz.ntmps24
  go_wp2_with fail
  refine (BB.out _).mono ?_; rintro e w1 ⟨rfl, hb⟩
  go_wp2_with fail
  go_ret
  exact ⟨rfl, hb⟩
theorem str_app (a b : BA) : str a ++ str b = str (a ++ b) := by
  apply ByteArray.ext
  apply Array.ext'
  simp [str]
theorem rtext_is (s : ByteArray) (h : s.size ≤ 65535) (w : World) : Calls Tryz.prog 25 #[.string s] w fun e w' => e = .returned (.string (str (encS s))) ∧ Below w.heap.size w w' := by
  have BB := Lib.hid (fun u => rnum_is s.size ⟨by omega, by omega⟩ u)
  have HE := Lib.hid (show str (w2 s.size) ++ s = str (encS s) from by rw [← str_data s, str_app, str_data]; rfl)
  have hz : (str (w2 s.size)).size = 2 := rfl
  generalize str (w2 s.size) = n at *
  go_enter Tryz.func25, Tryz.ntmps25
  go_wp2_with fail
  refine (BB.out _).mono ?_; rintro e w1 ⟨rfl, hb⟩
  have H1 := Lib.hid hb
  clear hb
  go_wp2_with fail
  go_ret
  exact ⟨congrArg (fun x => Ending.returned (Value.string x)) HE.out, H1.out⟩
theorem rflag_is (b : Bool) (w : World) : Calls Tryz.prog 26 #[.bool b] w fun e w' => e = .returned (.string (str (encF b))) ∧ Below w.heap.size w w' := by
  have B0 := Lib.hid (fun u => rnum_is 0 (by omega) u)
  have B1 := Lib.hid (fun u => rnum_is 1 (by omega) u)
  cases b with
  | true =>
    go_enter Tryz.func26, Tryz.ntmps26
    go_wp2_with fail
    refine (B1.out _).mono ?_; rintro e w1 ⟨rfl, hb⟩
    go_wp2_with fail
    go_ret
    exact ⟨rfl, hb⟩
  | false =>
    go_enter Tryz.func26, Tryz.ntmps26
    go_wp2_with fail
    refine (B0.out _).mono ?_; rintro e w1 ⟨rfl, hb⟩
    go_wp2_with fail
    go_ret
    exact ⟨rfl, hb⟩
theorem encL_take {α : Type} (f : α → BA) (l : List α) (n k : Nat) (d : α) (h : k < l.length) : w2 n ++ (l.take (k + 1)).flatMap f = (w2 n ++ (l.take k).flatMap f) ++ f (l.getD k d) := by
  rw [take_snoc l k d h, List.flatMap_append, List.append_assoc]
  simp
set_option maxHeartbeats 1000000 in
theorem rnums_is {C n c : Nat} {A : Option Addr} {l : List Int} (w : World) (h : IntsM C w A n l) (hC : C ≤ w.heap.size) (hn : n ≤ 64) (hl : ∀ x ∈ l, 0 ≤ x ∧ x ≤ 65535) :
    Calls Tryz.prog 27 #[.slice A n c] w fun e w' => e = .returned (.string (str (encL w2 l))) ∧ Below w.heap.size w w' := by
  have HL := Lib.hid h.1
  have HI := Lib.hid (h.more hC)
  have HV := Lib.hid hl
  have hN : (n : Int) ≤ 64 := by omega
  have BB := Lib.hid (fun u => rnum_is n ⟨by omega, by omega⟩ u)
  have hz : (str (w2 n)).size = 2 := rfl
  have HE0 := Lib.hid (show str (w2 n) = str (w2 n ++ (l.take 0).flatMap w2) from by simp)
  obtain ⟨s0, hs0⟩ : ∃ s0, s0 = str (w2 n) := ⟨_, rfl⟩
  rw [← hs0] at BB hz HE0
  have HEA := Lib.hid (show str (encL w2 l) = str (w2 n ++ l.flatMap w2) from by unfold encL; rw [h.1])
  rw [HEA.out]
  clear h hl hs0 HEA
  go_enter Tryz.func27, Tryz.ntmps27
  go_wp2_with fail
  refine (BB.out _).mono ?_; rintro e w1 ⟨rfl, hb⟩
  have H1 := Lib.hid hb
  clear hb BB
  go_wp2_with fail
  go_loopw [3, 4] (fun v x wr => ∃ k : Nat, k ≤ n ∧ x = .int .i64 k ∧ ∃ S, v = .string S ∧ S.size = 2 + 2 * k ∧ Hid (S = str (w2 n ++ (l.take k).flatMap w2) ∧ Below w.heap.size w wr)) (fun _ x _ => n - (intOf x).toNat)
  case atStart => exact ⟨0, Nat.zero_le _, rfl, s0, rfl, by omega, HE0.out, H1.out⟩
  case round =>
    obtain ⟨k, hk, rfl, S, rfl, hS, hq⟩ := hrel
    have HQ := Lib.hid hq.out
    clear hq
    have b0 : (0 : Int) ≤ (k : Int) := by omega
    by_cases hlt : k < n
    · have b1 : (k : Int) < (n : Int) := by omega
      have hkl : k < l.length := by rw [HL.out]; exact hlt
      obtain ⟨b, off, rfl, hb, hc, hr⟩ := (HI.out.kept HQ.out.2).2.2 k hlt
      have hx := HV.out _ (getD_mem' 0 hkl)
      have HJ := Lib.hid (encL_take w2 l n k 0 hkl)
      generalize l.getD k 0 = x at *
      have BX := Lib.hid (fun u => rnum_is x hx u)
      have hz2 : (str (w2 x)).size = 2 := rfl
      obtain ⟨sx, hsx⟩ : ∃ sx, sx = str (w2 x) := ⟨_, rfl⟩
      rw [← hsx] at BX hz2
      have HSX := Lib.hid hsx
      have hsum : (S ++ sx).size = 2 + 2 * (k + 1) := by rw [ByteArray.size_append]; omega
      clear hkl hr hx hsx hb
      go_wp2_with fail
      refine (BX.out _).mono ?_; rintro e w2' ⟨rfl, hb⟩
      have H2 := Lib.hid (HQ.out.2.trans (hb.mono HQ.out.2.size))
      clear hb
      go_wp2_with fail
      go_roundw
      case rel => exact ⟨k + 1, by omega, by go_num, S ++ sx, rfl, hsum, by rw [HQ.out.1, HSX.out, str_app, HJ.out], H2.out⟩
      case measure => simp [intOf]; omega
    · obtain rfl : k = n := by omega
      have hs := HQ.out.1
      rw [List.take_of_length_le (by rw [HL.out]; exact Nat.le_refl _)] at hs
      have HS := Lib.hid hs
      clear hs
      go_wp2_with fail
      go_ret
      exact ⟨by rw [← HS.out]; rfl, HQ.out.2⟩
theorem rtwo_is (v : Int) (w : World) : Calls Tryz.prog 100 #[.int .i64 v] w fun e w' => e = .returned (.bool (two v)) ∧ w = w' := by
  by_cases h1 : 0 ≤ v
  · by_cases h2 : v ≤ 65535
    · rw [show two v = true from decide_eq_true ⟨h1, h2⟩]
      go_enter Tryz.func100, Tryz.ntmps100
      go_wp2_with fail
      go_ret
      exact ⟨rfl, rfl⟩
    · rw [show two v = false from decide_eq_false (fun h => h2 h.2)]
      go_enter Tryz.func100, Tryz.ntmps100
      go_wp2_with fail
      go_ret
      exact ⟨rfl, rfl⟩
  · rw [show two v = false from decide_eq_false (fun h => h1 h.1)]
    go_enter Tryz.func100, Tryz.ntmps100
    go_wp2_with fail
    go_ret
    exact ⟨rfl, rfl⟩
theorem rfour_is (v : Int) (w : World) : Calls Tryz.prog 101 #[.int .i64 v] w fun e w' => e = .returned (.bool (four v)) ∧ w = w' := by
  by_cases h1 : 0 ≤ v
  · by_cases h2 : v ≤ 4294967295
    · rw [show four v = true from decide_eq_true ⟨h1, h2⟩]
      go_enter Tryz.func101, Tryz.ntmps101
      go_wp2_with fail
      go_ret
      exact ⟨rfl, rfl⟩
    · rw [show four v = false from decide_eq_false (fun h => h2 h.2)]
      go_enter Tryz.func101, Tryz.ntmps101
      go_wp2_with fail
      go_ret
      exact ⟨rfl, rfl⟩
  · rw [show four v = false from decide_eq_false (fun h => h1 h.1)]
    go_enter Tryz.func101, Tryz.ntmps101
    go_wp2_with fail
    go_ret
    exact ⟨rfl, rfl⟩
theorem rkey_is (s : ByteArray) (w : World) : Calls Tryz.prog 145 #[.string s] w fun e w' => e = .returned (.bool (decide (1 ≤ s.size ∧ s.size ≤ 16))) ∧ w = w' := by
  by_cases h1 : 1 ≤ s.size
  · have b1 : (1 : Int) ≤ (s.size : Int) := by omega
    by_cases h2 : s.size ≤ 16
    · have b2 : (s.size : Int) ≤ 16 := by omega
      rw [decide_eq_true (show 1 ≤ s.size ∧ s.size ≤ 16 from ⟨h1, h2⟩)]
      go_enter Tryz.func145, Tryz.ntmps145
      go_wp2_with fail
      go_ret
      exact ⟨rfl, rfl⟩
    · have b2 : ¬ (s.size : Int) ≤ 16 := by omega
      rw [decide_eq_false (show ¬ (1 ≤ s.size ∧ s.size ≤ 16) from fun h => h2 h.2)]
      go_enter Tryz.func145, Tryz.ntmps145
      go_wp2_with fail
      go_ret
      exact ⟨rfl, rfl⟩
  · have b1 : ¬ (1 : Int) ≤ (s.size : Int) := by omega
    rw [decide_eq_false (show ¬ (1 ≤ s.size ∧ s.size ≤ 16) from fun h => h1 h.1)]
    go_enter Tryz.func145, Tryz.ntmps145
    go_wp2_with fail
    go_ret
    exact ⟨rfl, rfl⟩
theorem rpt_is (p : Pt) (hp : PtW p) (w : World) : Calls Tryz.prog 104 #[ptv p] w fun e w' => e = .returned (.bool (rightP p)) ∧ Below w.heap.size w w' := by
  obtain ⟨r1, r2, r3⟩ := hp
  unfold rng at r1 r2
  unfold maxLen at r3
  obtain ⟨pg, ofs, bs⟩ := p
  simp only at r1 r2 r3
  unfold ptv
  have HA := Lib.hid ((Below.refl w.heap.size w).alloc (Nat.le_refl _) (.cells #[.int .i64 pg, .int .i64 ofs, .string bs] 59))
  have HX := Bx.new w #[.int .i64 pg, .int .i64 ofs, .string bs] 59
  have x0 := HX.cell 0
  have x1 := HX.cell 1
  have x2 := HX.cell 2
  clear HX
  simp at x0 x1 x2
  by_cases h1 : 0 ≤ pg
  · by_cases h2 : pg < 64
    · by_cases h3 : 0 ≤ ofs
      · by_cases h4 : ofs < 256
        · by_cases h5 : bs.size = 0
          · have t1 := (empty_iff bs).2 h5
            have t2 : bs.toList.isEmpty = true := by rw [t1]; rfl
            rw [show rightP ⟨pg, ofs, bs⟩ = false from decide_eq_false (fun h => by have := h.2.2.2.1; dsimp only at this; omega)]
            clear r1 r2 r3 h5
            go_enter Tryz.func104, Tryz.ntmps104
            go_wp2_with fail
            go_ret
            exact ⟨rfl, HA.out⟩
          · have t1 : ¬ bs.toList = [] := fun h => h5 ((empty_iff bs).1 h)
            have t2 : bs.toList.isEmpty = false := by rw [List.isEmpty_eq_false_iff]; exact t1
            have e1 : IntKind.i64.wrap (256 - ofs) = 256 - ofs := IntWalk.i64_in _ (by omega)
            by_cases h6 : (bs.size : Int) ≤ 256 - ofs
            · rw [show rightP ⟨pg, ofs, bs⟩ = true from decide_eq_true ⟨h1, h2, h3, by dsimp only; omega, by dsimp only; omega⟩]
              clear r1 r2 r3 h5
              go_enter Tryz.func104, Tryz.ntmps104
              go_wp2_with fail
              go_ret
              exact ⟨rfl, HA.out⟩
            · rw [show rightP ⟨pg, ofs, bs⟩ = false from decide_eq_false (fun h => h6 (by have := h.2.2.2.2; dsimp only at this; omega))]
              clear r1 r2 r3 h5
              go_enter Tryz.func104, Tryz.ntmps104
              go_wp2_with fail
              go_ret
              exact ⟨rfl, HA.out⟩
        · rw [show rightP ⟨pg, ofs, bs⟩ = false from decide_eq_false (fun h => h4 (by have := h.2.2.2; dsimp only at this; omega))]
          clear r1 r2 r3
          go_enter Tryz.func104, Tryz.ntmps104
          go_wp2_with fail
          go_ret
          exact ⟨rfl, HA.out⟩
      · rw [show rightP ⟨pg, ofs, bs⟩ = false from decide_eq_false (fun h => h3 h.2.2.1)]
        clear r1 r2 r3
        go_enter Tryz.func104, Tryz.ntmps104
        go_wp2_with fail
        go_ret
        exact ⟨rfl, HA.out⟩
    · rw [show rightP ⟨pg, ofs, bs⟩ = false from decide_eq_false (fun h => h2 h.2.1)]
      clear r1 r2 r3
      go_enter Tryz.func104, Tryz.ntmps104
      go_wp2_with fail
      go_ret
      exact ⟨rfl, HA.out⟩
  · rw [show rightP ⟨pg, ofs, bs⟩ = false from decide_eq_false (fun h => h1 h.1)]
    clear r1 r2 r3
    go_enter Tryz.func104, Tryz.ntmps104
    go_wp2_with fail
    go_ret
    exact ⟨rfl, HA.out⟩
theorem rcl_is (k v : ByteArray) (b z : Int) (w : World) : Calls Tryz.prog 102 #[.agg #[.string k, .string v, .int .i64 b, .int .i64 z]] w fun e w' => e = .returned (.bool (rightC ⟨k, v, b, z⟩)) ∧ Below w.heap.size w w' := by
  have KY := Lib.hid (fun w => rkey_is k w)
  have HA := Lib.hid ((Below.refl w.heap.size w).alloc (Nat.le_refl _) (.cells #[.string k, .string v, .int .i64 b, .int .i64 z] 23))
  have HX := Bx.new w #[.string k, .string v, .int .i64 b, .int .i64 z] 23
  have x0 := HX.cell 0
  have x1 := HX.cell 1
  have x2 := HX.cell 2
  have x3 := HX.cell 3
  clear HX
  simp at x0 x1 x2 x3
  by_cases h1 : 1 ≤ k.size ∧ k.size ≤ 16
  · rw [decide_eq_true h1] at KY
    by_cases h2 : b = 0
    · subst h2
      by_cases h3 : v.size ≤ 40
      · have b3 : (v.size : Int) ≤ 40 := by omega
        by_cases h4 : z = 0
        · subst h4
          rw [show rightC ⟨k, v, 0, 0⟩ = true from rightC_iff.2 ⟨h1, by simp [h3]⟩]
          clear h1 h3
          go_enter Tryz.func102, Tryz.ntmps102
          go_wp2_with fail
          refine (KY.out _).mono ?_; rintro e w1 ⟨rfl, rfl⟩
          go_wp2_with fail
          go_ret
          exact ⟨rfl, HA.out⟩
        · have hz : (z == 0) = false := by rw [beq_eq_false_iff_ne]; exact h4
          rw [show rightC ⟨k, v, 0, z⟩ = false from rightC_no (fun h => by have := h.2; simp only [if_true] at this; exact h4 this.2)]
          clear h1 h3
          go_enter Tryz.func102, Tryz.ntmps102
          go_wp2_with fail
          refine (KY.out _).mono ?_; rintro e w1 ⟨rfl, rfl⟩
          go_wp2_with fail
          go_ret
          exact ⟨rfl, HA.out⟩
      · have b3 : ¬ (v.size : Int) ≤ 40 := by omega
        rw [show rightC ⟨k, v, 0, z⟩ = false from rightC_no (fun h => by have := h.2; simp only [if_true] at this; exact h3 this.1)]
        clear h1 h3
        go_enter Tryz.func102, Tryz.ntmps102
        go_wp2_with fail
        refine (KY.out _).mono ?_; rintro e w1 ⟨rfl, rfl⟩
        go_wp2_with fail
        go_ret
        exact ⟨rfl, HA.out⟩
    · have hb0 : (b == 0) = false := by rw [beq_eq_false_iff_ne]; exact h2
      by_cases h3 : 2 ≤ b
      · by_cases h4 : b < 64
        · by_cases h5 : v.size = 0
          · have t1 := (empty_iff v).2 h5
            have t2 : v.toList.isEmpty = true := by rw [t1]; rfl
            by_cases h6 : z > 40
            · by_cases h7 : z ≤ 400
              · rw [show rightC ⟨k, v, b, z⟩ = true from rightC_iff.2 ⟨h1, by simp only [h2, if_false]; exact ⟨h3, by omega, h5, by omega, h7⟩⟩]
                clear h1 h5
                go_enter Tryz.func102, Tryz.ntmps102
                go_wp2_with fail
                refine (KY.out _).mono ?_; rintro e w1 ⟨rfl, rfl⟩
                go_wp2_with fail
                go_ret
                exact ⟨rfl, HA.out⟩
              · rw [show rightC ⟨k, v, b, z⟩ = false from rightC_no (fun h => by have := h.2; simp only [h2, if_false] at this; exact h7 this.2.2.2.2)]
                clear h1 h5
                go_enter Tryz.func102, Tryz.ntmps102
                go_wp2_with fail
                refine (KY.out _).mono ?_; rintro e w1 ⟨rfl, rfl⟩
                go_wp2_with fail
                go_ret
                exact ⟨congrArg (fun b => Ending.returned (Value.bool b)) (decide_eq_false (by omega)), HA.out⟩
            · rw [show rightC ⟨k, v, b, z⟩ = false from rightC_no (fun h => by have := h.2; simp only [h2, if_false] at this; exact h6 (by have := this.2.2.2.1; omega))]
              clear h1 h5
              go_enter Tryz.func102, Tryz.ntmps102
              go_wp2_with fail
              refine (KY.out _).mono ?_; rintro e w1 ⟨rfl, rfl⟩
              go_wp2_with fail
              go_ret
              exact ⟨rfl, HA.out⟩
          · have t1 : ¬ v.toList = [] := fun h => h5 ((empty_iff v).1 h)
            have t2 : v.toList.isEmpty = false := by rw [List.isEmpty_eq_false_iff]; exact t1
            rw [show rightC ⟨k, v, b, z⟩ = false from rightC_no (fun h => by have := h.2; simp only [h2, if_false] at this; exact h5 this.2.2.1)]
            clear h1 h5
            go_enter Tryz.func102, Tryz.ntmps102
            go_wp2_with fail
            refine (KY.out _).mono ?_; rintro e w1 ⟨rfl, rfl⟩
            go_wp2_with fail
            go_ret
            exact ⟨rfl, HA.out⟩
        · rw [show rightC ⟨k, v, b, z⟩ = false from rightC_no (fun h => by have := h.2; simp only [h2, if_false] at this; exact h4 (by have := this.2.1; omega))]
          clear h1
          go_enter Tryz.func102, Tryz.ntmps102
          go_wp2_with fail
          refine (KY.out _).mono ?_; rintro e w1 ⟨rfl, rfl⟩
          go_wp2_with fail
          go_ret
          exact ⟨rfl, HA.out⟩
      · rw [show rightC ⟨k, v, b, z⟩ = false from rightC_no (fun h => by have := h.2; simp only [h2, if_false] at this; exact h3 this.1)]
        clear h1
        go_enter Tryz.func102, Tryz.ntmps102
        go_wp2_with fail
        refine (KY.out _).mono ?_; rintro e w1 ⟨rfl, rfl⟩
        go_wp2_with fail
        go_ret
        exact ⟨rfl, HA.out⟩
  · rw [decide_eq_false h1] at KY
    rw [show rightC ⟨k, v, b, z⟩ = false from rightC_no (fun h => h1 h.1)]
    clear h1
    go_enter Tryz.func102, Tryz.ntmps102
    go_wp2_with fail
    refine (KY.out _).mono ?_; rintro e w1 ⟨rfl, rfl⟩
    go_wp2_with fail
    go_ret
    exact ⟨rfl, HA.out⟩
set_option maxHeartbeats 1000000 in
theorem rpages_is {C n c : Nat} {A : Option Addr} {l : List Int} (w : World) (h : IntsM C w A n l) (hC : C ≤ w.heap.size) :
    Calls Tryz.prog 103 #[.slice A n c] w fun e w' => e = .returned (.bool (rightPs l)) ∧ w = w' := by
  have HL := Lib.hid h.1
  have HI := Lib.hid h
  have hn := h.2.1
  unfold maxLen at hn
  have hN : (n : Int) ≤ 9223372036854775807 := by omega
  clear h hn
  go_enter Tryz.func103, Tryz.ntmps103
  go_wp2_with fail
  go_loopw [3] (fun x wr => ∃ k : Nat, k ≤ n ∧ x = .int .i64 k ∧ wr = w ∧ Hid (∀ x ∈ l.take k, two x = true)) (fun x _ => n - (intOf x).toNat)
  case atStart => exact ⟨0, Nat.zero_le _, rfl, rfl, fun x hx => by simp at hx⟩
  case round =>
    obtain ⟨k, hk, rfl, rfl, hq⟩ := hrel
    have HQ := Lib.hid hq.out
    clear hq
    have b0 : (0 : Int) ≤ (k : Int) := by omega
    by_cases hlt : k < n
    · have b1 : (k : Int) < (n : Int) := by omega
      have hkl : k < l.length := by rw [HL.out]; exact hlt
      obtain ⟨b, off, rfl, hb, hc, hr⟩ := HI.out.2.2 k hlt
      have HJ := Lib.hid (take_snoc l k 0 hkl)
      have HM := Lib.hid (getD_mem' 0 hkl)
      generalize l.getD k 0 = x at *
      have BX := Lib.hid (fun u => rtwo_is x u)
      clear hkl hr hb
      cases g : two x with
      | true =>
        rw [g] at BX
        go_wp2_with fail
        refine (BX.out _).mono ?_; rintro e w2' ⟨rfl, rfl⟩
        go_wp2_with fail
        go_roundw
        case rel =>
          refine ⟨k + 1, by omega, by go_num, trivial, fun y hy => ?_⟩
          rw [HJ.out] at hy
          rcases List.mem_append.1 hy with hy | hy
          · exact HQ.out y hy
          · simp at hy; rw [hy]; exact g
        case measure => simp [intOf]; omega
      | false =>
        rw [g] at BX
        have HF := Lib.hid (show rightPs l = false from by
          rw [Bool.eq_false_iff]
          intro hh
          have := (everyB_iff.1 hh).2 x HM.out
          rw [g] at this
          cases this)
        clear g
        go_wp2_with fail
        refine (BX.out _).mono ?_; rintro e w2' ⟨rfl, rfl⟩
        go_wp2_with fail
        go_ret
        rw [HF.out]
        exact ⟨rfl, rfl⟩
    · obtain rfl : k = n := by omega
      have hall := HQ.out
      rw [List.take_of_length_le (by rw [HL.out]; exact Nat.le_refl _)] at hall
      have HALL := Lib.hid hall
      clear hall HQ
      by_cases h64 : k ≤ 64
      · have c64 : (k : Int) ≤ 64 := by omega
        have HT := Lib.hid (show rightPs l = true from everyB_iff.2 ⟨by rw [HL.out]; exact h64, HALL.out⟩)
        go_wp2_with fail
        go_ret
        rw [HT.out]
        exact ⟨rfl, rfl⟩
      · have c64 : ¬ (k : Int) ≤ 64 := by omega
        have HT := Lib.hid (show rightPs l = false from by
          rw [Bool.eq_false_iff]
          intro hh
          have := (everyB_iff.1 hh).1
          rw [HL.out] at this
          exact h64 this)
        go_wp2_with fail
        go_ret
        rw [HT.out]
        exact ⟨rfl, rfl⟩
end Go.Proofs.YtbmnagfjpenemaaGreatDoor
