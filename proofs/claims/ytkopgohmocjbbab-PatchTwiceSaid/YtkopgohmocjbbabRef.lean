/- The document's own Apply and All; a page that begins with bytes; the laws' first call. -/
import Derived.Test.YtkopgohmocjbbabDiff
import Derived.Deep.RegionHeld3
namespace Go.Proofs.Ytkopgohmocjbbab
open Go.ChangeShapes Go.WideShapes Go.ChangeAt Go.RowKit
set_option linter.unusedVariables false
set_option linter.unusedSimpArgs false
theorem strOfNums_bytes (b : BA) : strOfNums (b.map fun c => (c.toNat : Int)) = str b := by
  have h : ∀ c : UInt8, UInt8.ofNat ((c.toNat : Int)).toNat = c := fun c => by simp
  simp [strOfNums, str, List.map_map, Function.comp_def, h]
theorem getD_bytes (b : BA) (j : Nat) : (b.map fun c => (c.toNat : Int)).getD j 0 = ((b.getD j 0).toNat : Int) := by
  rw [List.getD_eq_getElem?_getD, List.getElem?_map, List.getD_eq_getElem?_getD]
  cases b[j]? <;> rfl
/-! Zeros. -/
abbrev zRow (n : Nat) : Obj := .cells (madeCells #[.int .u8 0] n) 5
theorem info_u8 : (Try.prog.info? 5).map (fun i => (i.zero, i.size, i.bytes)) = some (some (.int .u8 0), 1, 1) := by kernel_rfl
theorem zrow_get (n j : Nat) (h : j < n) : (madeCells #[Value.int .u8 0] n)[j]? = some (.int .u8 0) := by
  simp only [madeCells, Array.getElem?_map]
  rw [Array.getElem?_eq_getElem (by simpa using h)]
  simp [Nat.mod_one]
theorem convert_zeros (w : World) (n : Nat) : (convert 36 9 (.slice (some ⟨w.heap.size, 0, none⟩) n n)).run Try.prog (w.alloc (zRow n)) = .ok (.string (str (zs n))) (w.alloc (zRow n)) := by
  rw [← strOfNums_bytes]
  refine run_convert_bytes_arg (w.alloc (zRow n)) 36 5 Try.underlying36 Try.underlying5 w.heap.size 0 n n _ (by simp [zs]) (fun i hi => ?_) 9 Try.underlying9
  rw [getD_bytes, cell_of_row _ _ _ _ _ _ (heap_alloc_new w _), Nat.zero_add, zrow_get n i hi, zs, List.getD_eq_getElem?_getD, List.getElem?_replicate, if_pos hi]
  rfl
set_option maxHeartbeats 400000 in
theorem zeros_at (n : Nat) (hn : n ≤ 1000) (w : World) : Calls Try.prog 9 #[.int .i64 n] w fun e w' => e = .returned (.string (str (zs n))) ∧ w.alloc (zRow n) = w' := by
  obtain ⟨i0, hi, hz0, hz1, hz2⟩ := info_parts info_u8
  have hmk := fun w : World => run_make (P := Try.prog) w 36 5 i0 _ Try.underlying36 hi hz0 .i64 .i64 (n : Int) (n : Int) (by omega) (Int.le_refl _) (by rw [hz2]; omega) (by omega)
  rw [hz1] at hmk
  simp only [Int.toNat_natCast, Value.cells, Nat.mul_one] at hmk
  have hcv := convert_zeros w n
  unfold zRow at hcv ⊢
  obtain ⟨row, hrow⟩ : ∃ row, row = madeCells #[Value.int .u8 0] n := ⟨_, rfl⟩
  rw [← hrow] at hmk hcv ⊢
  obtain ⟨z, hz⟩ : ∃ z, z = str (zs n) := ⟨_, rfl⟩
  rw [← hz] at hcv ⊢
  clear hi hz0 hz1 hz2 hrow hz
  have k0 : (0 : Int) ≤ (n : Int) := by omega
  go_enter Try.func9, Try.ntmps9
  go_wp2_with fail
  go_ret
  exact ⟨rfl, rfl⟩
theorem zeros_ok (n : Nat) (hn : n ≤ 1000) (w : World) : Calls Try.prog 9 #[.int .i64 n] w fun e w' => e = .returned (.string (str (zs n))) ∧ Below w.heap.size w w' :=
  (zeros_at n hn w).mono fun e w' ⟨he, hw⟩ => ⟨he, hw ▸ (Below.refl _ _).alloc (Nat.le_refl _) _⟩

/-! A page that begins with bytes. -/
set_option maxHeartbeats 1000000 in
theorem page_any (s : ByteArray) (hs : s.size ≤ maxLen) (w : World) : Calls Try.prog 5 #[.string s] w fun e w' => e = .returned (.string (str (pageOf s.data.toList))) ∧ Below w.heap.size w w' := by
  unfold maxLen at hs
  by_cases h : 256 < s.size
  · have h' : (256 : Int) < (s.size : Int) := by omega
    have SL : ∀ w : World, (Instr.slice 9 (.string s) none (some (.int .i64 256)) none).run Try.prog w = .ok (.string (str (pageOf s.data.toList))) w := fun w => by
      have := run_slice_string_h (P := Try.prog) w 9 s Try.underlying9 .i64 256 (by omega) (by omega)
      rw [this, extract_str, pageOf_long (by rw [size_data]; exact h)]
      simp
    generalize str (pageOf s.data.toList) = r at *
    go_enter Try.func5, Try.ntmps5
    go_wp2_with fail
    go_ret
    exact ⟨rfl, Below.refl _ _⟩
  · have h' : ¬ (256 : Int) < (s.size : Int) := by omega
    obtain ⟨n, hn⟩ : ∃ n : Nat, n = 256 - s.size := ⟨_, rfl⟩
    have hn2 : (256 : Int) - (s.size : Int) = (n : Int) := by omega
    have e1 : IntKind.i64.wrap (256 - (s.size : Int)) = (n : Int) := by rw [hn2]; exact IntWalk.i64_in _ (by omega)
    have ZR := Lib.hid (fun w => zeros_ok n (by omega) w)
    have HE := Lib.hid (show s ++ str (zs n) = str (pageOf s.data.toList) by rw [str_append, pageOf_short (by rw [size_data]; omega), size_data, hn])
    have hz : (str (zs n)).size = n := by rw [str_size, zs_length]
    generalize str (pageOf s.data.toList) = r at *
    generalize str (zs n) = z at *
    have hnn : s.size + n = 256 := by omega
    clear hn hn2
    go_enter Try.func5, Try.ntmps5
    go_wp2_with fail
    refine (ZR.out _).mono ?_; rintro e w1 ⟨rfl, hb⟩
    have HB := Lib.hid hb
    clear hb
    go_wp2_with fail
    go_ret
    exact ⟨by rw [← HE.out]; rfl, HB.out⟩
end Go.Proofs.Ytkopgohmocjbbab
