/- The document's own small functions of chapter 12: numbers and texts as bytes; which may be. -/
import Derived.Test.YtnjggoeahaglbaaGreatRows
import Derived.Test.YtnjggoeahaglbaaGreatRf
import Derived.Deep.DeepCutAuto
import Derived.Deep.CutBlock
import Derived.StillTailTactics
import Derived.BigQuiet
namespace Go.Proofs.YtnjggoeahaglbaaGreat.Rc
open Go.ChangeShapes Go.WideShapes Go.ChangeAt Go.RowKit
set_option linter.unusedVariables false
set_option linter.unusedSimpArgs false
set_option maxRecDepth 100000
theorem i64_mask8 (v : Int) (h0 : -9223372036854775808 ≤ v) (h1 : v ≤ 9223372036854775807) : bits .and .i64 v 255 = v % 256 := by
  have e : ∀ a : Int, (BitVec.ofInt 64 a).toNat = (a % 18446744073709551616).toNat := fun a => by
    rw [BitVec.toNat_ofInt]; rfl
  show IntKind.i64.wrap ((BitVec.ofInt 64 v &&& BitVec.ofInt 64 255).toNat : Int) = _
  rw [BitVec.toNat_and, e, e, show ((255 : Int) % 18446744073709551616).toNat = 2 ^ 8 - 1 from rfl, Nat.and_two_pow_sub_one_eq_mod, IntKind.wrap_i64]
  omega
def bI (v : Int) : UInt8 := UInt8.ofNat (v % 256).toNat
theorem bI_toNat (v : Int) : ((bI v).toNat : Int) = v % 256 := by
  unfold bI; simp; omega
theorem bI_eq (v : Int) (h : 0 ≤ v) : bI v = byte v := by
  apply UInt8.toNat_inj.1
  have h1 := bI_toNat v
  have h2 := byte_toNat v h
  omega
theorem to_string2 (W : World) (v : Int) : (convert 70 9 (.slice (some ⟨W.heap.size, 0, none⟩) 2 2)).run Tryz.prog (W.alloc (.cells #[.int .u8 (v / 256 % 256), .int .u8 (v % 256)] 5)) = .ok (.string (str [bI (v / 256), bI v])) (W.alloc (.cells #[.int .u8 (v / 256 % 256), .int .u8 (v % 256)] 5)) :=
  run_convert_bytes_back (P := Tryz.prog) _ 70 9 5 ⟨W.heap.size, 0, none⟩ 2 [bI (v / 256), bI v] Tryz.underlying70 Tryz.underlying5 Tryz.underlying9 fun j hj => by
    have hh := heap_alloc_new W (.cells #[.int .u8 (v / 256 % 256), .int .u8 (v % 256)] 5)
    match j, hj with
    | 0, _ => exact (cell_of_row _ W.heap.size 0 _ _ _ hh).trans (by simp [bI_toNat])
    | 1, _ => exact (cell_of_row _ W.heap.size 1 _ _ _ hh).trans (by simp [bI_toNat])

set_option maxHeartbeats 1000000 in
theorem big2_in (v : Int) (w : World) (h0 : -9223372036854775808 ≤ v) (h1 : v ≤ 9223372036854775807) (h2 : 0 ≤ v) (h3 : v ≤ 65535) :
    Calls Tryz.prog 87 #[.int .i64 v, .int .i64 2] w fun e w' => e = .returned (.tuple #[.string (str [bI (v / 256), bI v]), .bool true]) ∧ Below w.heap.size w w' := by
  have m0 := i64_mask8 (v) (by omega) (by omega)
  have m1 := i64_mask8 (v / 256) (by omega) (by omega)
  have hz : (v / 256 / 256 == 0) = true := by rw [beq_iff_eq]; omega
  clear h3
  have hcv := to_string2 w v
  have hmk : ∀ w : World, (Instr.makeSlice 70 (.int .i64 2) (.int .i64 2)).run Tryz.prog w = .ok (.slice (some ⟨w.heap.size, 0, none⟩) 2 2) (w.alloc (.cells #[.int .u8 0, .int .u8 0] 5)) := fun _ => by kernel_rfl
  go_enter Tryz.func87, Tryz.ntmps87
  go_wp2_with fail
  refine wp_loop_rounds 3 ?_
  rw [rounds_succ]
  go_wp2_with fail
  rw [rounds_succ]
  go_wp2_with fail
  rw [rounds_succ]
  go_wp2_with fail
  go_ret2
  exact ⟨rfl, (Below.refl _ _).alloc (Nat.le_refl _) _⟩
theorem to_string4 (W : World) (v : Int) : (convert 70 9 (.slice (some ⟨W.heap.size, 0, none⟩) 4 4)).run Tryz.prog (W.alloc (.cells #[.int .u8 (v / 256 / 256 / 256 % 256), .int .u8 (v / 256 / 256 % 256), .int .u8 (v / 256 % 256), .int .u8 (v % 256)] 5)) = .ok (.string (str [bI (v / 256 / 256 / 256), bI (v / 256 / 256), bI (v / 256), bI v])) (W.alloc (.cells #[.int .u8 (v / 256 / 256 / 256 % 256), .int .u8 (v / 256 / 256 % 256), .int .u8 (v / 256 % 256), .int .u8 (v % 256)] 5)) :=
  run_convert_bytes_back (P := Tryz.prog) _ 70 9 5 ⟨W.heap.size, 0, none⟩ 4 [bI (v / 256 / 256 / 256), bI (v / 256 / 256), bI (v / 256), bI v] Tryz.underlying70 Tryz.underlying5 Tryz.underlying9 fun j hj => by
    have hh := heap_alloc_new W (.cells #[.int .u8 (v / 256 / 256 / 256 % 256), .int .u8 (v / 256 / 256 % 256), .int .u8 (v / 256 % 256), .int .u8 (v % 256)] 5)
    match j, hj with
    | 0, _ => exact (cell_of_row _ W.heap.size 0 _ _ _ hh).trans (by simp [bI_toNat])
    | 1, _ => exact (cell_of_row _ W.heap.size 1 _ _ _ hh).trans (by simp [bI_toNat])
    | 2, _ => exact (cell_of_row _ W.heap.size 2 _ _ _ hh).trans (by simp [bI_toNat])
    | 3, _ => exact (cell_of_row _ W.heap.size 3 _ _ _ hh).trans (by simp [bI_toNat])

set_option maxHeartbeats 1000000 in
theorem big4_in (v : Int) (w : World) (h0 : -9223372036854775808 ≤ v) (h1 : v ≤ 9223372036854775807) (h2 : 0 ≤ v) (h3 : v ≤ 4294967295) :
    Calls Tryz.prog 87 #[.int .i64 v, .int .i64 4] w fun e w' => e = .returned (.tuple #[.string (str [bI (v / 256 / 256 / 256), bI (v / 256 / 256), bI (v / 256), bI v]), .bool true]) ∧ Below w.heap.size w w' := by
  have m0 := i64_mask8 (v) (by omega) (by omega)
  have m1 := i64_mask8 (v / 256) (by omega) (by omega)
  have m2 := i64_mask8 (v / 256 / 256) (by omega) (by omega)
  have m3 := i64_mask8 (v / 256 / 256 / 256) (by omega) (by omega)
  have hz : (v / 256 / 256 / 256 / 256 == 0) = true := by rw [beq_iff_eq]; omega
  clear h3
  have hcv := to_string4 w v
  have hmk : ∀ w : World, (Instr.makeSlice 70 (.int .i64 4) (.int .i64 4)).run Tryz.prog w = .ok (.slice (some ⟨w.heap.size, 0, none⟩) 4 4) (w.alloc (.cells #[.int .u8 0, .int .u8 0, .int .u8 0, .int .u8 0] 5)) := fun _ => by kernel_rfl
  go_enter Tryz.func87, Tryz.ntmps87
  go_wp2_with fail
  refine wp_loop_rounds 5 ?_
  rw [rounds_succ]
  go_wp2_with fail
  rw [rounds_succ]
  go_wp2_with fail
  rw [rounds_succ]
  go_wp2_with fail
  rw [rounds_succ]
  go_wp2_with fail
  rw [rounds_succ]
  go_wp2_with fail
  go_ret2
  exact ⟨rfl, (Below.refl _ _).alloc (Nat.le_refl _) _⟩
theorem w2_bI (v : Int) (h : 0 ≤ v) : [bI (v / 256), bI v] = w2 v := by rw [bI_eq _ (by omega), bI_eq v h]; rfl
theorem w4_bI (v : Int) (h : 0 ≤ v) : [bI (v / 256 / 256 / 256), bI (v / 256 / 256), bI (v / 256), bI v] = w4 v := by
  rw [bI_eq _ (by omega), bI_eq _ (by omega), bI_eq _ (by omega), bI_eq v h]
  have e1 : v / 256 / 256 / 256 = v / 65536 / 256 := by omega
  have e2 : v / 256 / 256 = v / 65536 := by omega
  have e3 : byte (v / 256) = byte (v % 65536 / 256) := by
    apply UInt8.toNat_inj.1
    have h1 := byte_toNat (v / 256) (by omega)
    have h2 := byte_toNat (v % 65536 / 256) (by omega)
    omega
  have e4 : byte v = byte (v % 65536) := by
    apply UInt8.toNat_inj.1
    have h1 := byte_toNat v h
    have h2 := byte_toNat (v % 65536) (by omega)
    omega
  rw [e1, e2, e3, e4]; rfl

theorem rnum_is (v : Int) (h : 0 ≤ v ∧ v ≤ 65535) (w : World) : Calls Tryz.prog 57 #[.int .i64 v] w fun e w' => e = .returned (.string (str (w2 v))) ∧ Below w.heap.size w w' := by
  have BB := Lib.hid (fun u => big2_in v u (by omega) (by omega) h.1 h.2)
  rw [w2_bI v h.1] at BB
  clear h
  go_enter Tryz.func57, Tryz.ntmps57
  go_wp2_with fail
  refine (BB.out _).mono ?_; rintro e w1 ⟨rfl, hb⟩
  go_wp2_with fail
  go_ret
  exact ⟨rfl, hb⟩
theorem rlong_is (v : Int) (h : 0 ≤ v ∧ v ≤ 4294967295) (w : World) : Calls Tryz.prog 58 #[.int .i64 v] w fun e w' => e = .returned (.string (str (w4 v))) ∧ Below w.heap.size w w' := by
  have BB := Lib.hid (fun u => big4_in v u (by omega) (by omega) h.1 h.2)
  rw [w4_bI v h.1] at BB
  clear h
  go_enter Tryz.func58, Tryz.ntmps58
  go_wp2_with fail
  refine (BB.out _).mono ?_; rintro e w1 ⟨rfl, hb⟩
  go_wp2_with fail
  go_ret
  exact ⟨rfl, hb⟩
theorem str_app (a b : BA) : str a ++ str b = str (a ++ b) := by
  apply ByteArray.ext
  apply Array.ext'
  simp [str]
theorem rtext_is (s : ByteArray) (h : s.size ≤ 65535) (w : World) : Calls Tryz.prog 59 #[.string s] w fun e w' => e = .returned (.string (str (encS s))) ∧ Below w.heap.size w w' := by
  have BB := Lib.hid (fun u => rnum_is s.size ⟨by omega, by omega⟩ u)
  have HE := Lib.hid (show str (w2 s.size) ++ s = str (encS s) from by rw [← str_data s, str_app, str_data]; rfl)
  have hz : (str (w2 s.size)).size = 2 := rfl
  generalize str (w2 s.size) = n at *
  go_enter Tryz.func59, Tryz.ntmps59
  go_wp2_with fail
  refine (BB.out _).mono ?_; rintro e w1 ⟨rfl, hb⟩
  have H1 := Lib.hid hb
  clear hb
  go_wp2_with fail
  go_ret
  exact ⟨congrArg (fun x => Ending.returned (Value.string x)) HE.out, H1.out⟩
theorem rflag_is (b : Bool) (w : World) : Calls Tryz.prog 60 #[.bool b] w fun e w' => e = .returned (.string (str (encF b))) ∧ Below w.heap.size w w' := by
  have B0 := Lib.hid (fun u => rnum_is 0 (by omega) u)
  have B1 := Lib.hid (fun u => rnum_is 1 (by omega) u)
  cases b with
  | true =>
    go_enter Tryz.func60, Tryz.ntmps60
    go_wp2_with fail
    refine (B1.out _).mono ?_; rintro e w1 ⟨rfl, hb⟩
    go_wp2_with fail
    go_ret
    exact ⟨rfl, hb⟩
  | false =>
    go_enter Tryz.func60, Tryz.ntmps60
    go_wp2_with fail
    refine (B0.out _).mono ?_; rintro e w1 ⟨rfl, hb⟩
    go_wp2_with fail
    go_ret
    exact ⟨rfl, hb⟩
theorem encL_take {α : Type} (f : α → BA) (l : List α) (n k : Nat) (d : α) (h : k < l.length) : w2 n ++ (l.take (k + 1)).flatMap f = (w2 n ++ (l.take k).flatMap f) ++ f (l.getD k d) := by
  rw [take_snoc l k d h, List.flatMap_append, List.append_assoc]
  simp
set_option maxHeartbeats 1000000 in
theorem rnums_is {C n c : Nat} {A : Option Addr} {l : List Int} (w : World) (h : IntsM C w A n l) (hC : C ≤ w.heap.size) (hn : n ≤ 64) (hl : ∀ x ∈ l, 0 ≤ x ∧ x ≤ 65535) :
    Calls Tryz.prog 61 #[.slice A n c] w fun e w' => e = .returned (.string (str (encL w2 l))) ∧ Below w.heap.size w w' := by
  have HL := Lib.hid h.1
  have HI := Lib.hid (h.more hC)
  have HV := Lib.hid hl
  have hN : (n : Int) ≤ 64 := by omega
  have BB := Lib.hid (fun u => rnum_is n ⟨by omega, by omega⟩ u)
  have hz : (str (w2 n)).size = 2 := rfl
  have HE0 := Lib.hid (show str (w2 n) = str (w2 n ++ (l.take 0).flatMap w2) from by simp)
  obtain ⟨s0, hs0⟩ : ∃ s0, s0 = str (w2 n) := ⟨_, rfl⟩
  rw [← hs0] at BB hz HE0
  have HEA := Lib.hid (show str (encL w2 l) = str (w2 n ++ l.flatMap w2) from by unfold encL; rw [h.1])
  rw [HEA.out]
  clear h hl hs0 HEA
  go_enter Tryz.func61, Tryz.ntmps61
  go_wp2_with fail
  refine (BB.out _).mono ?_; rintro e w1 ⟨rfl, hb⟩
  have H1 := Lib.hid hb
  clear hb BB
  go_wp2_with fail
  go_loopw [3, 4] (fun v x wr => ∃ k : Nat, k ≤ n ∧ x = .int .i64 k ∧ ∃ S, v = .string S ∧ S.size = 2 + 2 * k ∧ Hid (S = str (w2 n ++ (l.take k).flatMap w2) ∧ Below w.heap.size w wr)) (fun _ x _ => n - (intOf x).toNat)
  case atStart => exact ⟨0, Nat.zero_le _, rfl, s0, rfl, by omega, HE0.out, H1.out⟩
  case round =>
    obtain ⟨k, hk, rfl, S, rfl, hS, hq⟩ := hrel
    have HQ := Lib.hid hq.out
    clear hq
    have b0 : (0 : Int) ≤ (k : Int) := by omega
    by_cases hlt : k < n
    · have b1 : (k : Int) < (n : Int) := by omega
      have hkl : k < l.length := by rw [HL.out]; exact hlt
      obtain ⟨b, off, rfl, hb, hc, hr⟩ := (HI.out.kept HQ.out.2).2.2 k hlt
      have hx := HV.out _ (getD_mem' 0 hkl)
      have HJ := Lib.hid (encL_take w2 l n k 0 hkl)
      generalize l.getD k 0 = x at *
      have BX := Lib.hid (fun u => rnum_is x hx u)
      have hz2 : (str (w2 x)).size = 2 := rfl
      obtain ⟨sx, hsx⟩ : ∃ sx, sx = str (w2 x) := ⟨_, rfl⟩
      rw [← hsx] at BX hz2
      have HSX := Lib.hid hsx
      have hsum : (S ++ sx).size = 2 + 2 * (k + 1) := by rw [ByteArray.size_append]; omega
      clear hkl hr hx hsx hb
      go_wp2_with fail
      refine (BX.out _).mono ?_; rintro e w2' ⟨rfl, hb⟩
      have H2 := Lib.hid (HQ.out.2.trans (hb.mono HQ.out.2.size))
      clear hb
      go_wp2_with fail
      go_roundw
      case rel => exact ⟨k + 1, by omega, by go_num, S ++ sx, rfl, hsum, by rw [HQ.out.1, HSX.out, str_app, HJ.out], H2.out⟩
      case measure => simp [intOf]; omega
    · obtain rfl : k = n := by omega
      have hs := HQ.out.1
      rw [List.take_of_length_le (by rw [HL.out]; exact Nat.le_refl _)] at hs
      have HS := Lib.hid hs
      clear hs
      go_wp2_with fail
      go_ret
      exact ⟨by rw [← HS.out]; rfl, HQ.out.2⟩
theorem rtwo_is (v : Int) (w : World) : Calls Tryz.prog 67 #[.int .i64 v] w fun e w' => e = .returned (.bool (two v)) ∧ w = w' := by
  by_cases h1 : 0 ≤ v
  · by_cases h2 : v ≤ 65535
    · rw [show two v = true from decide_eq_true ⟨h1, h2⟩]
      go_enter Tryz.func67, Tryz.ntmps67
      go_wp2_with fail
      go_ret
      exact ⟨rfl, rfl⟩
    · rw [show two v = false from decide_eq_false (fun h => h2 h.2)]
      go_enter Tryz.func67, Tryz.ntmps67
      go_wp2_with fail
      go_ret
      exact ⟨rfl, rfl⟩
  · rw [show two v = false from decide_eq_false (fun h => h1 h.1)]
    go_enter Tryz.func67, Tryz.ntmps67
    go_wp2_with fail
    go_ret
    exact ⟨rfl, rfl⟩
theorem rfour_is (v : Int) (w : World) : Calls Tryz.prog 68 #[.int .i64 v] w fun e w' => e = .returned (.bool (four v)) ∧ w = w' := by
  by_cases h1 : 0 ≤ v
  · by_cases h2 : v ≤ 4294967295
    · rw [show four v = true from decide_eq_true ⟨h1, h2⟩]
      go_enter Tryz.func68, Tryz.ntmps68
      go_wp2_with fail
      go_ret
      exact ⟨rfl, rfl⟩
    · rw [show four v = false from decide_eq_false (fun h => h2 h.2)]
      go_enter Tryz.func68, Tryz.ntmps68
      go_wp2_with fail
      go_ret
      exact ⟨rfl, rfl⟩
  · rw [show four v = false from decide_eq_false (fun h => h1 h.1)]
    go_enter Tryz.func68, Tryz.ntmps68
    go_wp2_with fail
    go_ret
    exact ⟨rfl, rfl⟩
theorem rkey_is (s : ByteArray) (w : World) : Calls Tryz.prog 91 #[.string s] w fun e w' => e = .returned (.bool (decide (1 ≤ s.size ∧ s.size ≤ 16))) ∧ w = w' := by
  by_cases h1 : 1 ≤ s.size
  · have b1 : (1 : Int) ≤ (s.size : Int) := by omega
    by_cases h2 : s.size ≤ 16
    · have b2 : (s.size : Int) ≤ 16 := by omega
      rw [decide_eq_true (show 1 ≤ s.size ∧ s.size ≤ 16 from ⟨h1, h2⟩)]
      go_enter Tryz.func91, Tryz.ntmps91
      go_wp2_with fail
      go_ret
      exact ⟨rfl, rfl⟩
    · have b2 : ¬ (s.size : Int) ≤ 16 := by omega
      rw [decide_eq_false (show ¬ (1 ≤ s.size ∧ s.size ≤ 16) from fun h => h2 h.2)]
      go_enter Tryz.func91, Tryz.ntmps91
      go_wp2_with fail
      go_ret
      exact ⟨rfl, rfl⟩
  · have b1 : ¬ (1 : Int) ≤ (s.size : Int) := by omega
    rw [decide_eq_false (show ¬ (1 ≤ s.size ∧ s.size ≤ 16) from fun h => h1 h.1)]
    go_enter Tryz.func91, Tryz.ntmps91
    go_wp2_with fail
    go_ret
    exact ⟨rfl, rfl⟩
theorem rpt_is (p : Pt) (hp : PtW p) (w : World) : Calls Tryz.prog 71 #[ptv p] w fun e w' => e = .returned (.bool (rightP p)) ∧ Below w.heap.size w w' := by
  obtain ⟨r1, r2, r3⟩ := hp
  unfold rng at r1 r2
  unfold maxLen at r3
  obtain ⟨pg, ofs, bs⟩ := p
  simp only at r1 r2 r3
  unfold ptv
  have HA := Lib.hid ((Below.refl w.heap.size w).alloc (Nat.le_refl _) (.cells #[.int .i64 pg, .int .i64 ofs, .string bs] 110))
  have HX := Bx.new w #[.int .i64 pg, .int .i64 ofs, .string bs] 110
  have x0 := HX.cell 0
  have x1 := HX.cell 1
  have x2 := HX.cell 2
  clear HX
  simp at x0 x1 x2
  by_cases h1 : 0 ≤ pg
  · by_cases h2 : pg < 64
    · by_cases h3 : 0 ≤ ofs
      · by_cases h4 : ofs < 256
        · by_cases h5 : bs.size = 0
          · have t1 := (empty_iff bs).2 h5
            have t2 : bs.toList.isEmpty = true := by rw [t1]; rfl
            rw [show rightP ⟨pg, ofs, bs⟩ = false from decide_eq_false (fun h => by have := h.2.2.2.1; dsimp only at this; omega)]
            clear r1 r2 r3 h5
            go_enter Tryz.func71, Tryz.ntmps71
            go_wp2_with fail
            go_ret
            exact ⟨rfl, HA.out⟩
          · have t1 : ¬ bs.toList = [] := fun h => h5 ((empty_iff bs).1 h)
            have t2 : bs.toList.isEmpty = false := by rw [List.isEmpty_eq_false_iff]; exact t1
            have e1 : IntKind.i64.wrap (256 - ofs) = 256 - ofs := IntWalk.i64_in _ (by omega)
            by_cases h6 : (bs.size : Int) ≤ 256 - ofs
            · rw [show rightP ⟨pg, ofs, bs⟩ = true from decide_eq_true ⟨h1, h2, h3, by dsimp only; omega, by dsimp only; omega⟩]
              clear r1 r2 r3 h5
              go_enter Tryz.func71, Tryz.ntmps71
              go_wp2_with fail
              go_ret
              exact ⟨rfl, HA.out⟩
            · rw [show rightP ⟨pg, ofs, bs⟩ = false from decide_eq_false (fun h => h6 (by have := h.2.2.2.2; dsimp only at this; omega))]
              clear r1 r2 r3 h5
              go_enter Tryz.func71, Tryz.ntmps71
              go_wp2_with fail
              go_ret
              exact ⟨rfl, HA.out⟩
        · rw [show rightP ⟨pg, ofs, bs⟩ = false from decide_eq_false (fun h => h4 (by have := h.2.2.2; dsimp only at this; omega))]
          clear r1 r2 r3
          go_enter Tryz.func71, Tryz.ntmps71
          go_wp2_with fail
          go_ret
          exact ⟨rfl, HA.out⟩
      · rw [show rightP ⟨pg, ofs, bs⟩ = false from decide_eq_false (fun h => h3 h.2.2.1)]
        clear r1 r2 r3
        go_enter Tryz.func71, Tryz.ntmps71
        go_wp2_with fail
        go_ret
        exact ⟨rfl, HA.out⟩
    · rw [show rightP ⟨pg, ofs, bs⟩ = false from decide_eq_false (fun h => h2 h.2.1)]
      clear r1 r2 r3
      go_enter Tryz.func71, Tryz.ntmps71
      go_wp2_with fail
      go_ret
      exact ⟨rfl, HA.out⟩
  · rw [show rightP ⟨pg, ofs, bs⟩ = false from decide_eq_false (fun h => h1 h.1)]
    clear r1 r2 r3
    go_enter Tryz.func71, Tryz.ntmps71
    go_wp2_with fail
    go_ret
    exact ⟨rfl, HA.out⟩
theorem rcl_is (k v : ByteArray) (b z : Int) (w : World) : Calls Tryz.prog 69 #[.agg #[.string k, .string v, .int .i64 b, .int .i64 z]] w fun e w' => e = .returned (.bool (rightC ⟨k, v, b, z⟩)) ∧ Below w.heap.size w w' := by
  have KY := Lib.hid (fun w => rkey_is k w)
  have HA := Lib.hid ((Below.refl w.heap.size w).alloc (Nat.le_refl _) (.cells #[.string k, .string v, .int .i64 b, .int .i64 z] 37))
  have HX := Bx.new w #[.string k, .string v, .int .i64 b, .int .i64 z] 37
  have x0 := HX.cell 0
  have x1 := HX.cell 1
  have x2 := HX.cell 2
  have x3 := HX.cell 3
  clear HX
  simp at x0 x1 x2 x3
  by_cases h1 : 1 ≤ k.size ∧ k.size ≤ 16
  · rw [decide_eq_true h1] at KY
    by_cases h2 : b = 0
    · subst h2
      by_cases h3 : v.size ≤ 40
      · have b3 : (v.size : Int) ≤ 40 := by omega
        by_cases h4 : z = 0
        · subst h4
          rw [show rightC ⟨k, v, 0, 0⟩ = true from rightC_iff.2 ⟨h1, by simp [h3]⟩]
          clear h1 h3
          go_enter Tryz.func69, Tryz.ntmps69
          go_wp2_with fail
          refine (KY.out _).mono ?_; rintro e w1 ⟨rfl, rfl⟩
          go_wp2_with fail
          go_ret
          exact ⟨rfl, HA.out⟩
        · have hz : (z == 0) = false := by rw [beq_eq_false_iff_ne]; exact h4
          rw [show rightC ⟨k, v, 0, z⟩ = false from rightC_no (fun h => by have := h.2; simp only [if_true] at this; exact h4 this.2)]
          clear h1 h3
          go_enter Tryz.func69, Tryz.ntmps69
          go_wp2_with fail
          refine (KY.out _).mono ?_; rintro e w1 ⟨rfl, rfl⟩
          go_wp2_with fail
          go_ret
          exact ⟨rfl, HA.out⟩
      · have b3 : ¬ (v.size : Int) ≤ 40 := by omega
        rw [show rightC ⟨k, v, 0, z⟩ = false from rightC_no (fun h => by have := h.2; simp only [if_true] at this; exact h3 this.1)]
        clear h1 h3
        go_enter Tryz.func69, Tryz.ntmps69
        go_wp2_with fail
        refine (KY.out _).mono ?_; rintro e w1 ⟨rfl, rfl⟩
        go_wp2_with fail
        go_ret
        exact ⟨rfl, HA.out⟩
    · have hb0 : (b == 0) = false := by rw [beq_eq_false_iff_ne]; exact h2
      by_cases h3 : 2 ≤ b
      · by_cases h4 : b < 64
        · by_cases h5 : v.size = 0
          · have t1 := (empty_iff v).2 h5
            have t2 : v.toList.isEmpty = true := by rw [t1]; rfl
            by_cases h6 : z > 40
            · by_cases h7 : z ≤ 400
              · rw [show rightC ⟨k, v, b, z⟩ = true from rightC_iff.2 ⟨h1, by simp only [h2, if_false]; exact ⟨h3, by omega, h5, by omega, h7⟩⟩]
                clear h1 h5
                go_enter Tryz.func69, Tryz.ntmps69
                go_wp2_with fail
                refine (KY.out _).mono ?_; rintro e w1 ⟨rfl, rfl⟩
                go_wp2_with fail
                go_ret
                exact ⟨rfl, HA.out⟩
              · rw [show rightC ⟨k, v, b, z⟩ = false from rightC_no (fun h => by have := h.2; simp only [h2, if_false] at this; exact h7 this.2.2.2.2)]
                clear h1 h5
                go_enter Tryz.func69, Tryz.ntmps69
                go_wp2_with fail
                refine (KY.out _).mono ?_; rintro e w1 ⟨rfl, rfl⟩
                go_wp2_with fail
                go_ret
                exact ⟨congrArg (fun b => Ending.returned (Value.bool b)) (decide_eq_false (by omega)), HA.out⟩
            · rw [show rightC ⟨k, v, b, z⟩ = false from rightC_no (fun h => by have := h.2; simp only [h2, if_false] at this; exact h6 (by have := this.2.2.2.1; omega))]
              clear h1 h5
              go_enter Tryz.func69, Tryz.ntmps69
              go_wp2_with fail
              refine (KY.out _).mono ?_; rintro e w1 ⟨rfl, rfl⟩
              go_wp2_with fail
              go_ret
              exact ⟨rfl, HA.out⟩
          · have t1 : ¬ v.toList = [] := fun h => h5 ((empty_iff v).1 h)
            have t2 : v.toList.isEmpty = false := by rw [List.isEmpty_eq_false_iff]; exact t1
            rw [show rightC ⟨k, v, b, z⟩ = false from rightC_no (fun h => by have := h.2; simp only [h2, if_false] at this; exact h5 this.2.2.1)]
            clear h1 h5
            go_enter Tryz.func69, Tryz.ntmps69
            go_wp2_with fail
            refine (KY.out _).mono ?_; rintro e w1 ⟨rfl, rfl⟩
            go_wp2_with fail
            go_ret
            exact ⟨rfl, HA.out⟩
        · rw [show rightC ⟨k, v, b, z⟩ = false from rightC_no (fun h => by have := h.2; simp only [h2, if_false] at this; exact h4 (by have := this.2.1; omega))]
          clear h1
          go_enter Tryz.func69, Tryz.ntmps69
          go_wp2_with fail
          refine (KY.out _).mono ?_; rintro e w1 ⟨rfl, rfl⟩
          go_wp2_with fail
          go_ret
          exact ⟨rfl, HA.out⟩
      · rw [show rightC ⟨k, v, b, z⟩ = false from rightC_no (fun h => by have := h.2; simp only [h2, if_false] at this; exact h3 this.1)]
        clear h1
        go_enter Tryz.func69, Tryz.ntmps69
        go_wp2_with fail
        refine (KY.out _).mono ?_; rintro e w1 ⟨rfl, rfl⟩
        go_wp2_with fail
        go_ret
        exact ⟨rfl, HA.out⟩
  · rw [decide_eq_false h1] at KY
    rw [show rightC ⟨k, v, b, z⟩ = false from rightC_no (fun h => h1 h.1)]
    clear h1
    go_enter Tryz.func69, Tryz.ntmps69
    go_wp2_with fail
    refine (KY.out _).mono ?_; rintro e w1 ⟨rfl, rfl⟩
    go_wp2_with fail
    go_ret
    exact ⟨rfl, HA.out⟩
set_option maxHeartbeats 1000000 in
theorem rpages_is {C n c : Nat} {A : Option Addr} {l : List Int} (w : World) (h : IntsM C w A n l) (hC : C ≤ w.heap.size) :
    Calls Tryz.prog 70 #[.slice A n c] w fun e w' => e = .returned (.bool (rightPs l)) ∧ w = w' := by
  have HL := Lib.hid h.1
  have HI := Lib.hid h
  have hn := h.2.1
  unfold maxLen at hn
  have hN : (n : Int) ≤ 9223372036854775807 := by omega
  clear h hn
  go_enter Tryz.func70, Tryz.ntmps70
  go_wp2_with fail
  go_loopw [3] (fun x wr => ∃ k : Nat, k ≤ n ∧ x = .int .i64 k ∧ wr = w ∧ Hid (∀ x ∈ l.take k, two x = true)) (fun x _ => n - (intOf x).toNat)
  case atStart => exact ⟨0, Nat.zero_le _, rfl, rfl, fun x hx => by simp at hx⟩
  case round =>
    obtain ⟨k, hk, rfl, rfl, hq⟩ := hrel
    have HQ := Lib.hid hq.out
    clear hq
    have b0 : (0 : Int) ≤ (k : Int) := by omega
    by_cases hlt : k < n
    · have b1 : (k : Int) < (n : Int) := by omega
      have hkl : k < l.length := by rw [HL.out]; exact hlt
      obtain ⟨b, off, rfl, hb, hc, hr⟩ := HI.out.2.2 k hlt
      have HJ := Lib.hid (take_snoc l k 0 hkl)
      have HM := Lib.hid (getD_mem' 0 hkl)
      generalize l.getD k 0 = x at *
      have BX := Lib.hid (fun u => rtwo_is x u)
      clear hkl hr hb
      cases g : two x with
      | true =>
        rw [g] at BX
        go_wp2_with fail
        refine (BX.out _).mono ?_; rintro e w2' ⟨rfl, rfl⟩
        go_wp2_with fail
        go_roundw
        case rel =>
          refine ⟨k + 1, by omega, by go_num, trivial, fun y hy => ?_⟩
          rw [HJ.out] at hy
          rcases List.mem_append.1 hy with hy | hy
          · exact HQ.out y hy
          · simp at hy; rw [hy]; exact g
        case measure => simp [intOf]; omega
      | false =>
        rw [g] at BX
        have HF := Lib.hid (show rightPs l = false from by
          rw [Bool.eq_false_iff]
          intro hh
          have := (everyB_iff.1 hh).2 x HM.out
          rw [g] at this
          cases this)
        clear g
        go_wp2_with fail
        refine (BX.out _).mono ?_; rintro e w2' ⟨rfl, rfl⟩
        go_wp2_with fail
        go_ret
        rw [HF.out]
        exact ⟨rfl, rfl⟩
    · obtain rfl : k = n := by omega
      have hall := HQ.out
      rw [List.take_of_length_le (by rw [HL.out]; exact Nat.le_refl _)] at hall
      have HALL := Lib.hid hall
      clear hall HQ
      by_cases h64 : k ≤ 64
      · have c64 : (k : Int) ≤ 64 := by omega
        have HT := Lib.hid (show rightPs l = true from everyB_iff.2 ⟨by rw [HL.out]; exact h64, HALL.out⟩)
        go_wp2_with fail
        go_ret
        rw [HT.out]
        exact ⟨rfl, rfl⟩
      · have c64 : ¬ (k : Int) ≤ 64 := by omega
        have HT := Lib.hid (show rightPs l = false from by
          rw [Bool.eq_false_iff]
          intro hh
          have := (everyB_iff.1 hh).1
          rw [HL.out] at this
          exact h64 this)
        go_wp2_with fail
        go_ret
        rw [HT.out]
        exact ⟨rfl, rfl⟩
end Go.Proofs.YtnjggoeahaglbaaGreat.Rc

/- The document's RecordRight. -/
namespace Go.Proofs.YtnjggoeahaglbaaGreat.Rc
open Go.ChangeShapes Go.WideShapes Go.ChangeAt Go.RowKit
set_option linter.unusedVariables false
set_option linter.unusedSimpArgs false
set_option maxRecDepth 100000
theorem be_iff (s : ByteArray) : s = ByteArray.empty ↔ s.size = 0 := by
  constructor
  · rintro rfl; rfl
  · intro h
    apply ByteArray.ext
    exact Array.eq_empty_of_size_eq_zero h
theorem neq_nilc (a0 a1 : ByteArray) (a2 a3 : Int) (w : World) : (binOp .neq 37 (.agg #[.string a0, .string a1, .int .i64 a2, .int .i64 a3]) (.agg #[.string ⟨#[]⟩, .string ⟨#[]⟩, .int .i64 0, .int .i64 0])).run Tryz.prog w = .ok (.bool (!zeroC ⟨a0, a1, a2, a3⟩)) w := by
  have u3 := Tryz.underlying3
  have a3' := Tryz.isAgg3
  have z3' := Tryz.sizeOf3
  have u9 := Tryz.underlying9
  have a9 := Tryz.isAgg9
  have z9 := Tryz.sizeOf9
  have hS : Tryz.prog.underlying 37 = some (.struct (Tryz.prog.fieldsOf 37)) := by kernel_rfl
  have hp : Tryz.prog.stoodInHeld 37 = false := by kernel_rfl
  rw [run_neq_struct, show (10000 : Nat) = 9999 + 1 from rfl, run_equalIn_agg w 9999 37 _ _ hS hp]
  simp only [Program.fieldsOf, Tryz.underlying37]
  unfold zeroC
  dsimp only
  go_simp
  by_cases g0 : a0.size = 0 <;> by_cases g1 : a1.size = 0 <;> by_cases g2 : a2 = 0 <;> by_cases g3 : a3 = 0 <;> simp [g0, g1, g2, g3, empty_iff, be_iff]
/-- What the first test leaves. -/
def RCut (V : World) (d : Bool) (z : Value) (wx : World) : Prop := ∃ t, z = .bool t ∧ Hid (d = !t) ∧ Below V.heap.size V wx
theorem RCut.mk {V wx : World} {d t : Bool} (h : Below V.heap.size V wx) (hd : d = !t) : RCut V d (.bool t) wx := ⟨t, rfl, hd, h⟩
set_option maxHeartbeats 8000000 in
theorem rright_is {C : Nat} (r : Rc) (h : Hd) (w : World) (hr : RcM C w r h) (hC : C ≤ w.heap.size) : Calls Tryz.prog 34 #[rcv r h] w fun e w' => e = .returned (.bool (rightR r)) ∧ Below w.heap.size w w' := by
  obtain ⟨kind, tx, prev, next, key, had, ⟨ok, ov, ob, oz⟩, pages, pts, txs, dys⟩ := r
  obtain ⟨⟨A1, n1, c1⟩, ⟨A2, n2, c2⟩, ⟨A3, n3, c3⟩, ⟨A4, n4, c4⟩⟩ := h
  obtain ⟨r1, r2, r3, r4, r5, r6, m1, m2, m3, m4⟩ := hr
  simp only at r1 r2 r3 r4 r5 r6 m1 m2 m3 m4
  have hL2 := m2.1
  have hL3 := m3.1
  have hL4 := m4.1
  have hm2 := m2.2.1
  have hm3 := m3.2.1
  have hm4 := m4.2.1
  unfold maxLen at r5 hm2 hm3 hm4
  have HZ := Lib.hid (show rightR ⟨kind, tx, prev, next, key, had, ⟨ok, ov, ob, oz⟩, pages, pts, txs, dys⟩ = (rightK kind && (two tx && (four prev && (four next && (decide (key.size ≤ 255) && (rightO ⟨ok, ov, ob, oz⟩ && (rightPs pages && (everyB pts 40 rightP && (everyB txs 8 rightT && everyB dys 64 rightD))))))))) from rfl)
  unfold rcv
  dsimp only
  generalize rightR ⟨kind, tx, prev, next, key, had, ⟨ok, ov, ob, oz⟩, pages, pts, txs, dys⟩ = z at *
  have HZD := Lib.hid (show z = ((rightK kind && (two tx && (four prev && (four next && (decide (key.size ≤ 255) && (rightO ⟨ok, ov, ob, oz⟩ && (rightPs pages && (decide (n2 ≤ 40) && (decide (n3 ≤ 8) && decide (n4 ≤ 64)))))))))) && (pts.all rightP && (txs.all rightT && dys.all rightD))) from by
    rw [HZ.out]
    unfold everyB
    rw [hL2, hL3, hL4]
    generalize rightK kind = q1
    generalize two tx = q2
    generalize four prev = q3
    generalize four next = q4
    generalize decide (key.size ≤ 255) = q5
    generalize rightO ⟨ok, ov, ob, oz⟩ = q6
    generalize rightPs pages = q7
    generalize decide (n2 ≤ 40) = q8
    generalize decide (n3 ≤ 8) = q9
    generalize decide (n4 ≤ 64) = q10
    generalize pts.all rightP = q11
    generalize txs.all rightT = q12
    generalize dys.all rightD = q13
    cases q1 <;> cases q2 <;> cases q3 <;> cases q4 <;> cases q5 <;> cases q6 <;> cases q7 <;> cases q8 <;> simp [Bool.and_assoc, Bool.and_left_comm, Bool.and_comm])
  obtain ⟨d, hd⟩ : ∃ d, d = (rightK kind && (two tx && (four prev && (four next && (decide (key.size ≤ 255) && (rightO ⟨ok, ov, ob, oz⟩ && (rightPs pages && (decide (n2 ≤ 40) && (decide (n3 ≤ 8) && decide (n4 ≤ 64)))))))))) := ⟨_, rfl⟩
  rw [← hd] at HZD
  have HD := Lib.hid hd
  have HL2 := Lib.hid hL2
  have HL3 := Lib.hid hL3
  have HL4 := Lib.hid hL4
  have H40 := Lib.hid (fun (e : d = true) => (show n2 ≤ 40 ∧ n3 ≤ 8 ∧ n4 ≤ 64 from by
    rw [hd] at e
    simp only [Bool.and_eq_true, decide_eq_true_eq] at e
    exact e.2.2.2.2.2.2.2))
  have HA := Lib.hid ((Below.refl w.heap.size w).alloc (Nat.le_refl _) (.cells #[.int .i64 kind, .int .i64 tx, .int .i64 prev, .int .i64 next, .string key, .bool had, .string ok, .string ov, .int .i64 ob, .int .i64 oz, .slice A1 n1 c1, .slice A2 n2 c2, .slice A3 n3 c3, .slice A4 n4 c4] 43))
  have HX := Lib.hid (Bx.new w #[.int .i64 kind, .int .i64 tx, .int .i64 prev, .int .i64 next, .string key, .bool had, .string ok, .string ov, .int .i64 ob, .int .i64 oz, .slice A1 n1 c1, .slice A2 n2 c2, .slice A3 n3 c3, .slice A4 n4 c4] 43)
  have F2 := Lib.hid (fun w => rtwo_is tx w)
  have F3 := Lib.hid (fun w => rfour_is prev w)
  have F4 := Lib.hid (fun w => rfour_is next w)
  have F6 := Lib.hid (fun w => rcl_is ok ov ob oz w)
  have NE := neq_nilc ok ov ob oz
  have F7 := Lib.hid (fun w' (hb : Below w.heap.size w w') => rpages_is (c := c1) w' (m1.kept (hb.mono hC)) (Nat.le_trans hC hb.size))
  have MP := Lib.hid (fun w' (hb : Below w.heap.size w w') => m2.kept (hb.mono hC))
  have MT := Lib.hid (fun w' (hb : Below w.heap.size w w') => m3.kept (hb.mono hC))
  have MD := Lib.hid (fun w' (hb : Below w.heap.size w w') => m4.kept (hb.mono hC))
  have HCC := Lib.hid hC
  have h2N : (n2 : Int) ≤ 9223372036854775807 := by omega
  have h3N : (n3 : Int) ≤ 9223372036854775807 := by omega
  have h4N : (n4 : Int) ≤ 9223372036854775807 := by omega
  obtain ⟨z6, hz6⟩ : ∃ q, q = zeroC ⟨ok, ov, ob, oz⟩ := ⟨_, rfl⟩
  rw [← hz6] at NE
  have HO := Lib.hid (show rightO ⟨ok, ov, ob, oz⟩ = (z6 || rightC ⟨ok, ov, ob, oz⟩) from by rw [hz6]; rfl)
  clear r1 r2 r3 r4 r5 r6 m1 m2 m3 m4 hL2 hL3 hL4 hm2 hm3 hm4 hd hC HZ hz6
  rw [HO.out] at HD
  clear HO
  have HK1 := Lib.hid (show rightK kind = decide (1 ≤ kind ∧ kind ≤ 7) from rfl)
  generalize rightK kind = z1 at *
  generalize two tx = z2 at *
  generalize four prev = z3 at *
  generalize four next = z4 at *
  generalize rightC ⟨ok, ov, ob, oz⟩ = zc at *
  generalize rightPs pages = z7 at *
  go_enter Tryz.func34, Tryz.ntmps34
  go_upto_region 1 with fail
  simp only [List.append_eq, List.cons_append, List.nil_append]
  generalize hV : w.alloc (.cells #[.int .i64 kind, .int .i64 tx, .int .i64 prev, .int .i64 next, .string key, .bool had, .string ok, .string ov, .int .i64 ob, .int .i64 oz, .slice A1 n1 c1, .slice A2 n2 c2, .slice A3 n3 c3, .slice A4 n4 c4] 43) = V at *
  have hbx : w.heap.size < V.heap.size := by rw [← hV]; simp
  have HBX := Lib.hid hbx
  clear hV hbx
  go_cut [73] (fun z wx => RCut V d z wx)
  case first =>
    have x0 := HX.out.cell 0
    have x1 := HX.out.cell 1
    have x2 := HX.out.cell 2
    have x3 := HX.out.cell 3
    have x4 := HX.out.cell 4
    have x5 := HX.out.cell 5
    have x6 := HX.out.cell 6
    have x7 := HX.out.cell 7
    have x8 := HX.out.cell 8
    have x9 := HX.out.cell 9
    have x10 := HX.out.cell 10
    have x11 := HX.out.cell 11
    have x12 := HX.out.cell 12
    have x13 := HX.out.cell 13
    simp only [List.getElem?_toArray, List.getElem?_cons_zero, List.getElem?_cons_succ] at x0 x1 x2 x3 x4 x5 x6 x7 x8 x9 x10 x11 x12 x13
    clear HX
    by_cases k1 : kind < 1
    · have hd : d = false := by rw [HD.out, HK1.out, decide_eq_false (by omega)]; rfl
      have HDF := Lib.hid hd
      clear hd
      go_wp2_with fail
      go_meet
      exact RCut.mk (Below.refl _ _) (show d = !true from HDF.out)
    · by_cases k2 : kind > 7
      · have hd : d = false := by rw [HD.out, HK1.out, decide_eq_false (by omega)]; rfl
        have HDF := Lib.hid hd
        clear hd
        go_wp2_with fail
        go_meet
        exact RCut.mk (Below.refl _ _) (show d = !true from HDF.out)
      · obtain rfl : z1 = true := by rw [HK1.out]; exact decide_eq_true (by omega)
        clear HK1
        go_wp2_with fail
        refine (F2.out _).mono ?_; rintro e u ⟨rfl, rfl⟩
        cases z2 with
        | false =>
          go_wp2_with fail
          go_meet
          exact RCut.mk (Below.refl _ _) (show d = !true from by rw [HD.out]; rfl)
        | true =>
          go_wp2_with fail
          refine (F3.out _).mono ?_; rintro e u ⟨rfl, rfl⟩
          cases z3 with
          | false =>
            go_wp2_with fail
            go_meet
            exact RCut.mk (Below.refl _ _) (show d = !true from by rw [HD.out]; rfl)
          | true =>
            go_wp2_with fail
            refine (F4.out _).mono ?_; rintro e u ⟨rfl, rfl⟩
            cases z4 with
            | false =>
              go_wp2_with fail
              go_meet
              exact RCut.mk (Below.refl _ _) (show d = !true from by rw [HD.out]; rfl)
            | true =>
              by_cases hk : (key.size : Int) > 255
              · have hd : d = false := by rw [HD.out, decide_eq_false (show ¬ key.size ≤ 255 by omega)]; rfl
                have HDF := Lib.hid hd
                clear hd
                go_wp2_with fail
                go_meet
                exact RCut.mk (Below.refl _ _) (show d = !true from HDF.out)
              · have HD2 := HD.out
                rw [decide_eq_true (show key.size ≤ 255 by omega)] at HD2
                replace HD := Lib.hid HD2
                clear HD2
                cases z6 with
                | true =>
                  simp only [Bool.not_true] at NE
                  go_wp2_with fail
                  refine (F7.out _ HA.out).mono ?_; rintro e u2 ⟨rfl, rfl⟩
                  cases z7 with
                  | false =>
                    go_wp2_with fail
                    go_meet
                    exact RCut.mk (Below.refl _ _) (show d = !true from by rw [HD.out]; rfl)
                  | true =>
                    have HE := Lib.hid (show d = (decide (n2 ≤ 40) && (decide (n3 ≤ 8) && decide (n4 ≤ 64))) from HD.out)
                    by_cases g0 : (n2 : Int) > 40
                    · have hd : d = false := by rw [HE.out]; rw [decide_eq_false (show ¬ n2 ≤ 40 by omega)]; rfl
                      have HDF := Lib.hid hd
                      clear hd
                      go_wp2_with fail
                      go_meet
                      exact RCut.mk (Below.refl _ _) (show d = !true from HDF.out)
                    · skip
                      by_cases g1 : (n3 : Int) > 8
                      · have hd : d = false := by rw [HE.out]; rw [decide_eq_true (show n2 ≤ 40 by omega)]; rw [decide_eq_false (show ¬ n3 ≤ 8 by omega)]; rfl
                        have HDF := Lib.hid hd
                        clear hd
                        go_wp2_with fail
                        go_meet
                        exact RCut.mk (Below.refl _ _) (show d = !true from HDF.out)
                      · skip
                        by_cases g2 : (n4 : Int) > 64
                        · have hd : d = false := by rw [HE.out]; rw [decide_eq_true (show n2 ≤ 40 by omega), decide_eq_true (show n3 ≤ 8 by omega)]; rw [decide_eq_false (show ¬ n4 ≤ 64 by omega)]; rfl
                          have HDF := Lib.hid hd
                          clear hd
                          go_wp2_with fail
                          go_meet
                          exact RCut.mk (Below.refl _ _) (show d = !true from HDF.out)
                        · skip
                          have hd : d = true := by rw [HE.out, decide_eq_true (show n2 ≤ 40 by omega), decide_eq_true (show n3 ≤ 8 by omega), decide_eq_true (show n4 ≤ 64 by omega)]; rfl
                          have HDF := Lib.hid hd
                          clear hd
                          go_wp2_with fail
                          go_meet
                          exact RCut.mk (Below.refl _ _) (by rw [HDF.out, decide_eq_false (show ¬ (255 : Int) < key.size by omega), decide_eq_false (show ¬ (40 : Int) < n2 by omega), decide_eq_false (show ¬ (8 : Int) < n3 by omega), decide_eq_false (show ¬ (64 : Int) < n4 by omega)]; rfl)
                | false =>
                  simp only [Bool.not_false] at NE
                  go_wp2_with fail
                  refine (F6.out _).mono ?_; rintro e u1 ⟨rfl, hb⟩
                  have HU := Lib.hid hb
                  replace x0 := (hb.cell HBX.out).trans x0
                  replace x1 := (hb.cell HBX.out).trans x1
                  replace x2 := (hb.cell HBX.out).trans x2
                  replace x3 := (hb.cell HBX.out).trans x3
                  replace x4 := (hb.cell HBX.out).trans x4
                  replace x5 := (hb.cell HBX.out).trans x5
                  replace x6 := (hb.cell HBX.out).trans x6
                  replace x7 := (hb.cell HBX.out).trans x7
                  replace x8 := (hb.cell HBX.out).trans x8
                  replace x9 := (hb.cell HBX.out).trans x9
                  replace x10 := (hb.cell HBX.out).trans x10
                  replace x11 := (hb.cell HBX.out).trans x11
                  replace x12 := (hb.cell HBX.out).trans x12
                  replace x13 := (hb.cell HBX.out).trans x13
                  clear hb
                  cases zc with
                  | false =>
                    go_wp2_with fail
                    go_meet
                    exact RCut.mk HU.out (show d = !true from by rw [HD.out]; rfl)
                  | true =>
                    go_wp2_with fail
                    refine (F7.out _ (HA.out.trans (HU.out.mono HA.out.size))).mono ?_; rintro e u2 ⟨rfl, rfl⟩
                    cases z7 with
                    | false =>
                      go_wp2_with fail
                      go_meet
                      exact RCut.mk HU.out (show d = !true from by rw [HD.out]; rfl)
                    | true =>
                      have HE := Lib.hid (show d = (decide (n2 ≤ 40) && (decide (n3 ≤ 8) && decide (n4 ≤ 64))) from HD.out)
                      by_cases g0 : (n2 : Int) > 40
                      · have hd : d = false := by rw [HE.out]; rw [decide_eq_false (show ¬ n2 ≤ 40 by omega)]; rfl
                        have HDF := Lib.hid hd
                        clear hd
                        go_wp2_with fail
                        go_meet
                        exact RCut.mk HU.out (show d = !true from HDF.out)
                      · skip
                        by_cases g1 : (n3 : Int) > 8
                        · have hd : d = false := by rw [HE.out]; rw [decide_eq_true (show n2 ≤ 40 by omega)]; rw [decide_eq_false (show ¬ n3 ≤ 8 by omega)]; rfl
                          have HDF := Lib.hid hd
                          clear hd
                          go_wp2_with fail
                          go_meet
                          exact RCut.mk HU.out (show d = !true from HDF.out)
                        · skip
                          by_cases g2 : (n4 : Int) > 64
                          · have hd : d = false := by rw [HE.out]; rw [decide_eq_true (show n2 ≤ 40 by omega), decide_eq_true (show n3 ≤ 8 by omega)]; rw [decide_eq_false (show ¬ n4 ≤ 64 by omega)]; rfl
                            have HDF := Lib.hid hd
                            clear hd
                            go_wp2_with fail
                            go_meet
                            exact RCut.mk HU.out (show d = !true from HDF.out)
                          · skip
                            have hd : d = true := by rw [HE.out, decide_eq_true (show n2 ≤ 40 by omega), decide_eq_true (show n3 ≤ 8 by omega), decide_eq_true (show n4 ≤ 64 by omega)]; rfl
                            have HDF := Lib.hid hd
                            clear hd
                            go_wp2_with fail
                            go_meet
                            exact RCut.mk HU.out (by rw [HDF.out, decide_eq_false (show ¬ (255 : Int) < key.size by omega), decide_eq_false (show ¬ (40 : Int) < n2 by omega), decide_eq_false (show ¬ (8 : Int) < n3 by omega), decide_eq_false (show ¬ (64 : Int) < n4 by omega)]; rfl)
  case rest =>
    obtain ⟨t, rfl, hdt, hb⟩ := hcut
    have HB := Lib.hid hb
    have HDT := Lib.hid hdt.out
    clear hb NE F2 F3 F4 F6 F7 HD hdt
    cases t with
    | true =>
      have hz : z = false := by rw [HZD.out, HDT.out]; rfl
      subst hz
      as_aux_lemma =>
        go_wp2_with fail
        go_ret
        exact ⟨rfl, HA.out.trans (HB.out.mono HA.out.size)⟩
    | false =>
      obtain ⟨q2, q3, q4⟩ := H40.out HDT.out
      have HZ2 := Lib.hid (show z = (pts.all rightP && (txs.all rightT && dys.all rightD)) from by rw [HZD.out, HDT.out]; rfl)
      clear HZD H40
      have N2 : (n2 : Int) ≤ 40 := by omega
      have N3 : (n3 : Int) ≤ 8 := by omega
      have N4 : (n4 : Int) ≤ 64 := by omega
      clear q2 q3 q4 h2N h3N h4N
      go_wp2_with fail
      skip
      go_loopw [3] (fun x wr => ∃ k : Nat, k ≤ n2 ∧ x = .int .i64 k ∧ Hid (Below V.heap.size V wr ∧ ∀ x ∈ pts.take k, rightP x = true)) (fun x _ => n2 - (intOf x).toNat)
      case atStart => exact ⟨0, Nat.zero_le _, rfl, HB.out, fun x hx => by simp at hx⟩
      case round =>
        obtain ⟨k, hk, rfl, hq⟩ := hrel
        have HQ := Lib.hid hq.out
        clear hq
        have x11 := (HX.out.held HQ.out.1).cell 11
        simp only [List.getElem?_toArray, List.getElem?_cons_zero, List.getElem?_cons_succ] at x11
        have b0 : (0 : Int) ≤ (k : Int) := by omega
        by_cases hlt : k < n2
        · have b1 : (k : Int) < (n2 : Int) := by omega
          have hkl : k < pts.length := by rw [HL2.out]; exact hlt
          have HBW := Lib.hid (HA.out.trans (HQ.out.1.mono HA.out.size))
          have HJ := Lib.hid (take_snoc pts k nilP hkl)
          have HM := Lib.hid (getD_mem' nilP hkl)
          have HFZ := Lib.hid (fun (hx : rightP (pts.getD k nilP) = false) => (show z = false from by
            rw [HZ2.out, show pts.all rightP = false from by
              rw [Bool.eq_false_iff]
              intro hh
              have := List.all_eq_true.1 hh _ HM.out
              rw [hx] at this
              cases this]
            all_goals (first | rfl | simp)))
          have HON := Lib.hid (fun (hx : rightP (pts.getD k nilP) = true) => (show ∀ x ∈ pts.take (k + 1), rightP x = true from fun y hy => by
            rw [HJ.out] at hy
            rcases List.mem_append.1 hy with hy | hy
            · exact HQ.out.2 y hy
            · simp at hy; rw [hy]; exact hx))
          obtain ⟨b, off, rfl, hb, hp, hw⟩ := (MP.out wr HBW.out).2.2 k hlt
          obtain ⟨p0, p1, p2⟩ := hp
          generalize pts.getD k nilP = x at *
          have BX := Lib.hid (fun u => rpt_is x hw u)
          cases g : rightP x with
          | true =>
            rw [g] at BX
            have HON2 := Lib.hid (HON.out g)
            clear hb hw hkl g
            go_wp2_with fail
            refine (BX.out _).mono ?_; rintro e w2 ⟨rfl, hb⟩
            have HB2 := Lib.hid (HQ.out.1.trans (hb.mono HQ.out.1.size))
            clear hb
            go_wp2_with fail
            go_roundw
            case rel => exact ⟨k + 1, by omega, by go_num, HB2.out, HON2.out⟩
            case measure => simp [intOf] <;> omega
          | false =>
            rw [g] at BX
            have HFZ2 := Lib.hid (HFZ.out g)
            clear hb hw hkl g
            as_aux_lemma =>
              go_wp2_with fail
              refine (BX.out _).mono ?_; rintro e w2 ⟨rfl, hb⟩
              have HB2 := Lib.hid (HBW.out.trans (hb.mono HBW.out.size))
              clear hb
              obtain rfl : z = false := HFZ2.out
              go_wp2_with fail
              go_ret
              exact ⟨rfl, HB2.out⟩
        · obtain rfl : k = n2 := by omega
          have hall := HQ.out.2
          rw [List.take_of_length_le (by rw [HL2.out]; exact Nat.le_refl _)] at hall
          replace HZ2 := Lib.hid (show z = (txs.all rightT && dys.all rightD) from by rw [HZ2.out, List.all_eq_true.2 hall] <;> rfl)
          replace HB := Lib.hid HQ.out.1
          clear hall HQ
          go_wp2_with fail
          clear x11 hk hlt
          go_loopw [4] (fun x wr => ∃ k : Nat, k ≤ n3 ∧ x = .int .i64 k ∧ Hid (Below V.heap.size V wr ∧ ∀ x ∈ txs.take k, rightT x = true)) (fun x _ => n3 - (intOf x).toNat)
          case atStart => exact ⟨0, Nat.zero_le _, rfl, HB.out, fun x hx => by simp at hx⟩
          case round =>
            obtain ⟨k, hk, rfl, hq⟩ := hrel
            have HQ := Lib.hid hq.out
            clear hq
            have x12 := (HX.out.held HQ.out.1).cell 12
            simp only [List.getElem?_toArray, List.getElem?_cons_zero, List.getElem?_cons_succ] at x12
            have b0 : (0 : Int) ≤ (k : Int) := by omega
            by_cases hlt : k < n3
            · have b1 : (k : Int) < (n3 : Int) := by omega
              have hkl : k < txs.length := by rw [HL3.out]; exact hlt
              have HBW := Lib.hid (HA.out.trans (HQ.out.1.mono HA.out.size))
              have HJ := Lib.hid (take_snoc txs k nilT hkl)
              have HM := Lib.hid (getD_mem' nilT hkl)
              have HFZ := Lib.hid (fun (hx : rightT (txs.getD k nilT) = false) => (show z = false from by
                rw [HZ2.out, show txs.all rightT = false from by
                  rw [Bool.eq_false_iff]
                  intro hh
                  have := List.all_eq_true.1 hh _ HM.out
                  rw [hx] at this
                  cases this]
                all_goals (first | rfl | simp)))
              have HON := Lib.hid (fun (hx : rightT (txs.getD k nilT) = true) => (show ∀ x ∈ txs.take (k + 1), rightT x = true from fun y hy => by
                rw [HJ.out] at hy
                rcases List.mem_append.1 hy with hy | hy
                · exact HQ.out.2 y hy
                · simp at hy; rw [hy]; exact hx))
              obtain ⟨b, off, rfl, hb, hp, hw⟩ := (MT.out wr HBW.out).2.2 k hlt
              obtain ⟨p0, p1, p2, A5, n5, c5, p3, hpg⟩ := hp
              have HRT := Lib.hid (show rightT (txs.getD k nilT) = (two (txs.getD k nilT).id && (four (txs.getD k nilT).last && rightPs (txs.getD k nilT).pages)) from rfl)
              generalize txs.getD k nilT = x at *
              have B1 := Lib.hid (fun u => rtwo_is x.id u)
              have B2 := Lib.hid (fun u => rfour_is x.last u)
              have B3 := Lib.hid (rpages_is (c := c5) wr hpg (Nat.le_trans HCC.out HBW.out.size))
              generalize rightT x = rt at *
              obtain ⟨xi, xl, xc, xp⟩ := x
              simp only at p0 p1 p2 p3 B1 B2 B3 HRT
              generalize two xi = y1 at *
              generalize four xl = y2 at *
              generalize rightPs xp = y3 at *
              clear hb hw hkl hpg
              go_wp2_with fail
              refine (B1.out _).mono ?_; rintro e u ⟨rfl, rfl⟩
              cases y1 with
              | false =>
                have HFZ2 := Lib.hid (HFZ.out HRT.out)
                as_aux_lemma =>
                  obtain rfl : z = false := HFZ2.out
                  go_wp2_with fail
                  go_ret
                  exact ⟨rfl, HBW.out⟩
              | true =>
                go_wp2_with fail
                refine (B2.out _).mono ?_; rintro e u ⟨rfl, rfl⟩
                cases y2 with
                | false =>
                  have HFZ2 := Lib.hid (HFZ.out HRT.out)
                  as_aux_lemma =>
                    obtain rfl : z = false := HFZ2.out
                    go_wp2_with fail
                    go_ret
                    exact ⟨rfl, HBW.out⟩
                | true =>
                  go_wp2_with fail
                  refine B3.out.mono ?_; rintro e u ⟨rfl, rfl⟩
                  cases y3 with
                  | false =>
                    have HFZ2 := Lib.hid (HFZ.out HRT.out)
                    as_aux_lemma =>
                      obtain rfl : z = false := HFZ2.out
                      go_wp2_with fail
                      go_ret
                      exact ⟨rfl, HBW.out⟩
                  | true =>
                    have HON2 := Lib.hid (HON.out HRT.out)
                    go_wp2_with fail
                    go_roundw
                    case rel => exact ⟨k + 1, by omega, by go_num, HQ.out.1, HON2.out⟩
                    case measure => simp [intOf] <;> omega
            · obtain rfl : k = n3 := by omega
              have hall := HQ.out.2
              rw [List.take_of_length_le (by rw [HL3.out]; exact Nat.le_refl _)] at hall
              replace HZ2 := Lib.hid (show z = dys.all rightD from by rw [HZ2.out, List.all_eq_true.2 hall] <;> rfl)
              replace HB := Lib.hid HQ.out.1
              clear hall HQ
              go_wp2_with fail
              clear x12 hk hlt
              go_loopw [5] (fun x wr => ∃ k : Nat, k ≤ n4 ∧ x = .int .i64 k ∧ Hid (Below V.heap.size V wr ∧ ∀ x ∈ dys.take k, rightD x = true)) (fun x _ => n4 - (intOf x).toNat)
              case atStart => exact ⟨0, Nat.zero_le _, rfl, HB.out, fun x hx => by simp at hx⟩
              case round =>
                obtain ⟨k, hk, rfl, hq⟩ := hrel
                have HQ := Lib.hid hq.out
                clear hq
                have x13 := (HX.out.held HQ.out.1).cell 13
                simp only [List.getElem?_toArray, List.getElem?_cons_zero, List.getElem?_cons_succ] at x13
                have b0 : (0 : Int) ≤ (k : Int) := by omega
                by_cases hlt : k < n4
                · have b1 : (k : Int) < (n4 : Int) := by omega
                  have hkl : k < dys.length := by rw [HL4.out]; exact hlt
                  have HBW := Lib.hid (HA.out.trans (HQ.out.1.mono HA.out.size))
                  have HJ := Lib.hid (take_snoc dys k nilD hkl)
                  have HM := Lib.hid (getD_mem' nilD hkl)
                  have HFZ := Lib.hid (fun (hx : rightD (dys.getD k nilD) = false) => (show z = false from by
                    rw [HZ2.out, show dys.all rightD = false from by
                      rw [Bool.eq_false_iff]
                      intro hh
                      have := List.all_eq_true.1 hh _ HM.out
                      rw [hx] at this
                      cases this]
                    all_goals (first | rfl | simp)))
                  have HON := Lib.hid (fun (hx : rightD (dys.getD k nilD) = true) => (show ∀ x ∈ dys.take (k + 1), rightD x = true from fun y hy => by
                    rw [HJ.out] at hy
                    rcases List.mem_append.1 hy with hy | hy
                    · exact HQ.out.2 y hy
                    · simp at hy; rw [hy]; exact hx))
                  obtain ⟨b, off, rfl, hb, hp, hw⟩ := (MD.out wr HBW.out).2.2 k hlt
                  obtain ⟨p0, p1⟩ := hp
                  have HRT := Lib.hid (show rightD (dys.getD k nilD) = (two (dys.getD k nilD).page && four (dys.getD k nilD).lsn) from rfl)
                  generalize dys.getD k nilD = x at *
                  have B1 := Lib.hid (fun u => rtwo_is x.page u)
                  have B2 := Lib.hid (fun u => rfour_is x.lsn u)
                  generalize rightD x = rt at *
                  obtain ⟨xi, xl⟩ := x
                  simp only at p0 p1 B1 B2 HRT
                  generalize two xi = y1 at *
                  generalize four xl = y2 at *
                  clear hb hw hkl
                  go_wp2_with fail
                  refine (B1.out _).mono ?_; rintro e u ⟨rfl, rfl⟩
                  cases y1 with
                  | false =>
                    have HFZ2 := Lib.hid (HFZ.out HRT.out)
                    as_aux_lemma =>
                      obtain rfl : z = false := HFZ2.out
                      go_wp2_with fail
                      go_ret
                      exact ⟨rfl, HBW.out⟩
                  | true =>
                    go_wp2_with fail
                    refine (B2.out _).mono ?_; rintro e u ⟨rfl, rfl⟩
                    cases y2 with
                    | false =>
                      have HFZ2 := Lib.hid (HFZ.out HRT.out)
                      as_aux_lemma =>
                        obtain rfl : z = false := HFZ2.out
                        go_wp2_with fail
                        go_ret
                        exact ⟨rfl, HBW.out⟩
                    | true =>
                      have HON2 := Lib.hid (HON.out HRT.out)
                      go_wp2_with fail
                      go_roundw
                      case rel => exact ⟨k + 1, by omega, by go_num, HQ.out.1, HON2.out⟩
                      case measure => simp [intOf] <;> omega
                · obtain rfl : k = n4 := by omega
                  have hall := HQ.out.2
                  rw [List.take_of_length_le (by rw [HL4.out]; exact Nat.le_refl _)] at hall
                  replace HZ2 := Lib.hid (show z = true from by rw [HZ2.out, List.all_eq_true.2 hall] <;> rfl)
                  replace HB := Lib.hid HQ.out.1
                  clear hall HQ
                  obtain rfl : z = true := HZ2.out
                  go_wp2_with fail
                  go_ret
                  exact ⟨rfl, HA.out.trans (HB.out.mono HA.out.size)⟩
end Go.Proofs.YtnjggoeahaglbaaGreat.Rc
