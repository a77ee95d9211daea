/- The contract of New; the marks of a new map. -/
import Derived.Test.YtkbbpdpalfpchaaDoorUsed
import Derived.Deep.RegionWith
namespace Go.Proofs.YtkbbpdpalfpchaaDoor
open Go.ChangeShapes Go.WideShapes Go.ChangeAt Go.RowKit
set_option linter.unusedVariables false
set_option linter.unusedSimpArgs false
set_option maxRecDepth 100000
/-- The marks of a new map. -/
def newS (n : Nat) : BA := [1, 1] ++ List.replicate (n - 2) 2
theorem newS_length {n : Nat} (h : 2 ≤ n) : (newS n).length = n := by unfold newS; simp; omega
theorem newS_good {n : Nat} (h1 : 8 ≤ n) (h2 : n ≤ 64) : Good (newS n) := by
  refine ⟨by rw [newS_length (by omega)]; omega, ⟨rfl, rfl⟩, ?_⟩
  intro i x hi
  match i with
  | 0 => left; simpa [newS] using hi.symm
  | 1 => left; simpa [newS] using hi.symm
  | j + 2 =>
    right
    have : (List.replicate (n - 2) (2 : UInt8))[j]? = some x := by simpa [newS] using hi
    rw [List.getElem?_replicate] at this
    split at this
    · cases this; rfl
    · cases this
def resNew (n : Int) : Value := if 8 ≤ n ∧ n ≤ 64 then .tuple #[pv 2 0 0 (mk (newS n.toNat)), .bool true] else .tuple #[pv 0 0 0 [], .bool false]
set_option maxHeartbeats 1000000 in
theorem new_yes (n : Nat) (h1 : 8 ≤ n) (h2 : n ≤ 64) (w : World) : Calls Tryd.prog 10 #[.int .i64 n] w fun e w' => e = .returned (.tuple #[pv 2 0 0 (mk (newS n)), .bool true]) ∧ Below w.heap.size w w' := by
  have CO := Lib.hid (countable_any (n : Int))
  rw [decide_eq_true (show (8 : Int) ≤ n ∧ (n : Int) ≤ 64 by omega)] at CO
  have EM := Lib.hid (fun w => empty_any 2 0 w)
  have e1 : IntKind.i64.wrap ((n : Int) - 2) = (n : Int) - 2 := IntWalk.i64_in _ (by omega)
  have RE := Lib.hid (fun w => repeat_any 2 (n - 2) (by omega) w)
  rw [show ((n - 2 : Nat) : Int) = (n : Int) - 2 by omega] at RE
  have hs : ((str (zs 240)).size : Int) = 240 := by rw [str_size, zs_length]; rfl
  have SL : ∀ w : World, (Instr.slice 9 (.string (str (zs 240))) (some (.int .i64 (n : Int))) none none).run Tryd.prog w = .ok (.string (str (zs (240 - n)))) w := fun w => by
    rw [run_slice_string_l (P := Tryd.prog) w 9 (str (zs 240)) Tryd.underlying9 .i64 (n : Int) (by omega) (by omega), extract_str, str_toList, Int.toNat_natCast, zs_drop, List.take_of_length_le (by rw [zs_length, str_size, zs_length]; omega)]
  have HE := Lib.hid (show (⟨#[1, 1]⟩ ++ str (List.replicate (n - 2) 2)) ++ str (zs (240 - n)) = str (mk (newS n)) by
    rw [show (ByteArray.mk #[1, 1]) = str [1, 1] from rfl, str_join, str_join]
    unfold mk
    rw [newS_length (by omega)]
    rfl)
  have s1 : (str (List.replicate (n - 2) (2 : UInt8))).size = n - 2 := by rw [str_size, List.length_replicate]
  have s2 : (⟨#[1, 1]⟩ ++ str (List.replicate (n - 2) (2 : UInt8)) : ByteArray).size = n := by rw [ByteArray.size_append, s1]; show 2 + (n - 2) = n; omega
  have s3 : (str (zs (240 - n))).size = 240 - n := by rw [str_size, zs_length]
  unfold pv at *
  generalize str (zs 240) = b at *
  generalize str (mk (newS n)) = b2 at *
  generalize str (List.replicate (n - 2) (2 : UInt8)) = r at *
  generalize str (zs (240 - n)) = z at *
  have k0 : (0 : Int) ≤ (n : Int) := by omega
  have HX := Lib.hid (PBox.new w 0 0 0 ⟨#[]⟩)
  have HB := Lib.hid ((Below.refl w.heap.size w).alloc (Nat.le_refl _) ZB)
  obtain ⟨W, hW⟩ : ∃ W, W = w.alloc ZB := ⟨_, rfl⟩
  rw [show w.alloc (.cells #[.int .i64 0, .int .i64 0, .int .i64 0, .string ⟨#[]⟩] 23) = W from hW.symm] at HX
  rw [← hW] at HB
  have HW := Lib.hid (show w.alloc (.cells #[.int .i64 0, .int .i64 0, .int .i64 0, .string ⟨#[]⟩] 23) = W from hW.symm)
  clear hW
  obtain ⟨B, hB⟩ : ∃ B, B = w.heap.size := ⟨_, rfl⟩
  have HBE := Lib.hid (show w.heap.size ≤ B by omega)
  rw [← hB] at HX
  have HBq := Lib.hid hB.symm
  clear hB
  go_enter Tryd.func10, Tryd.ntmps10
  go_wp2_with fail
  rw [HW.out, HBq.out]
  refine (CO.out _).mono ?_; rintro e w1 ⟨rfl, rfl⟩
  go_wp2_with fail
  refine (EM.out _).mono ?_; rintro e w1 ⟨rfl, hb⟩
  have HX1 := Lib.hid (HX.out.kept hb)
  have HB1 := Lib.hid (HB.out.trans (hb.mono HB.out.size))
  clear hb HX HB
  go_upto_region 4 with fail
  have HP := Lib.hid (PBox.new w1 2 0 0 b)
  have hal := (Below.refl w1.heap.size w1).alloc (Nat.le_refl _) (.cells #[.int .i64 2, .int .i64 0, .int .i64 0, .string b] 23)
  have HX2 := Lib.hid (HX1.out.kept hal)
  have HB2 := Lib.hid (HB1.out.trans (hal.mono HB1.out.size))
  obtain ⟨P, hP⟩ : ∃ P, P = w1.heap.size := ⟨_, rfl⟩
  have HLE := Lib.hid (show B < P ∧ w.heap.size ≤ P from ⟨hP ▸ HX1.out.lt, hP ▸ HB1.out.size⟩)
  rw [← hP] at HP ⊢
  clear hP hal HX1 HB1
  generalize w1.alloc (.cells #[.int .i64 2, .int .i64 0, .int .i64 0, .string b] 23) = V at *
  have HK := Lib.hid (fun w' (h : Below V.heap.size V w') => (show PBox w' P 2 0 0 b ∧ PBox w' B 0 0 0 ⟨#[]⟩ ∧ Below w.heap.size w w' from ⟨HP.out.kept h, HX2.out.kept h, HB2.out.trans (h.mono HB2.out.size)⟩))
  obtain ⟨⟨x0, x1, x2, x3⟩, f0, f1, f2, f3⟩ := And.intro HP.out.cells HP.out.free
  go_region_with (go_at_call 20; refine (RE.out _).mono ?_; rintro e w2 ⟨rfl, hb⟩; obtain ⟨hp, hx, hbb⟩ := HK.out _ ((Below.refl _ _).drew.trans hb); have HP2 := Lib.hid hp; have HX3 := Lib.hid hx; have HB3 := Lib.hid hbb; clear hp hx hbb hb x0 x1 x2 x3 f0 f1 f2 f3; obtain ⟨⟨x0, x1, x2, x3⟩, f0, f1, f2, f3⟩ := And.intro HP2.out.cells HP2.out.free)
  all_goals (
    have HP3 := Lib.hid (HP2.out.set1 (⟨#[1, 1]⟩ ++ r ++ z))
    have HX4 := Lib.hid (HX3.out.heap (Below.heap_setCell w2 ⟨P, 3, none⟩ (.string (⟨#[1, 1]⟩ ++ r ++ z)) B (show B ≠ P from Nat.ne_of_lt HLE.out.1)))
    have HB4 := Lib.hid (below_set1 (i := 3) (u := .string (⟨#[1, 1]⟩ ++ r ++ z)) HB3.out HLE.out.2)
    rw [HE.out] at HP3 HX4 HB4 ⊢
    generalize w2.setCell ⟨P, 3, none⟩ (.string b2) = V2 at *
    clear x0 x1 x2 x3 f0 f1 f2 f3 HP2 HX3 HB3
    obtain ⟨⟨x0, x1, x2, x3⟩, f0, f1, f2, f3⟩ := And.intro HP3.out.cells HP3.out.free
    obtain ⟨⟨y0, y1, y2, y3⟩, g0, g1, g2, g3⟩ := And.intro HX4.out.cells HX4.out.free
    go_wp2_with fail
    have HX5 := Lib.hid (HX4.out.set4 2 0 0 b2)
    obtain ⟨z0, z1, z2, z3⟩ := HX5.out.cells
    refine bodyPost_ret (v := .tuple #[.agg #[.int .i64 2, .int .i64 0, .int .i64 0, .string b2], .bool true]) (by simp [results, Tryd.results10, go_sem, z0, z1, z2, z3]) rfl ⟨rfl, ?_⟩
    exact below_set4 HB4.out HBE.out)
theorem new_no (n : Int) (hn : ¬ (8 ≤ n ∧ n ≤ 64)) (w : World) : Calls Tryd.prog 10 #[.int .i64 n] w fun e w' => e = .returned (.tuple #[pv 0 0 0 [], .bool false]) ∧ Below w.heap.size w w' := by
  have CO := Lib.hid (countable_any n)
  rw [decide_eq_false hn] at CO
  have Y0 := Lib.hid (PBox.new w 0 0 0 ⟨#[]⟩)
  have HB0 := Lib.hid ((Below.refl w.heap.size w).alloc (Nat.le_refl _) (.cells #[.int .i64 0, .int .i64 0, .int .i64 0, .string ⟨#[]⟩] 23))
  rw [show pv 0 0 0 [] = .agg #[.int .i64 0, .int .i64 0, .int .i64 0, .string ⟨#[]⟩] from rfl]
  obtain ⟨W0, hW⟩ : ∃ W0, W0 = w.alloc (.cells #[.int .i64 0, .int .i64 0, .int .i64 0, .string ⟨#[]⟩] 23) := ⟨_, rfl⟩
  rw [← hW] at Y0 HB0
  go_enter Tryd.func10, Tryd.ntmps10
  go_wp2_with fail
  rw [← hW]
  clear hW
  refine (CO.out _).mono ?_; rintro e w1 ⟨rfl, rfl⟩
  obtain ⟨⟨y0, y1, y2, y3⟩, g0, g1, g2, g3⟩ := And.intro Y0.out.cells Y0.out.free
  go_wp2_with fail
  have Z := Lib.hid (Y0.out.set4 0 0 0 ⟨#[]⟩)
  obtain ⟨z0, z1, z2, z3⟩ := Z.out.cells
  refine bodyPost_ret (v := .tuple #[.agg #[.int .i64 0, .int .i64 0, .int .i64 0, .string ⟨#[]⟩], .bool false]) (by simp [results, Tryd.results10, go_sem, z0, z1, z2, z3]) rfl ⟨rfl, ?_⟩
  exact below_set4 HB0.out (Nat.le_refl _)
theorem new_any (n : Int) (w : World) : Calls Tryd.prog 10 #[.int .i64 n] w fun e w' => e = .returned (resNew n) ∧ Below w.heap.size w w' := by
  unfold resNew
  by_cases h : 8 ≤ n ∧ n ≤ 64
  · rw [if_pos h]
    obtain ⟨i, rfl⟩ : ∃ i : Nat, n = (i : Int) := ⟨n.toNat, by omega⟩
    exact new_yes i (by omega) (by omega) w
  · rw [if_neg h]
    exact new_no n h w
end Go.Proofs.YtkbbpdpalfpchaaDoor
