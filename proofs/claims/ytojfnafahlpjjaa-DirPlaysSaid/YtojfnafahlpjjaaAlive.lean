/- Pages compared; the contract of the law's first call 'alive'. -/
import Derived.Test.YtojfnafahlpjjaaCalls
import Derived.Laws.StructEq
namespace Go.Proofs.Ytojfnafahlpjjaa
open Go.ChangeShapes Go.WideShapes Go.ChangeAt Go.RowKit
set_option linter.unusedVariables false
set_option linter.unusedSimpArgs false
set_option maxRecDepth 100000
theorem data_inj {a b : ByteArray} (h : a.data.toList = b.data.toList) : a = b := by
  rw [← str_data a, ← str_data b, h]
def eqP4 (k d x : Int) (b : ByteArray) (k' d' x' : Int) (b' : ByteArray) : Bool := (k == k') && ((d == d') && ((x == x') && (b.toList == b'.toList)))
theorem eqP4_iff {k d x : Int} {b : ByteArray} {k' d' x' : Int} {b' : ByteArray} : eqP4 k d x b k' d' x' b' = true ↔ k = k' ∧ d = d' ∧ x = x' ∧ b = b' := by
  unfold eqP4
  simp only [Bool.and_eq_true, beq_iff_eq, ByteArray.toList_eq]
  exact ⟨fun ⟨h1, h2, h3, h4⟩ => ⟨h1, h2, h3, data_inj h4⟩, fun ⟨h1, h2, h3, h4⟩ => ⟨h1, h2, h3, by rw [h4]⟩⟩
theorem eq_pages (a0 a1 a2 : Int) (a3 : ByteArray) (b0 b1 b2 : Int) (b3 : ByteArray) (w : World) : (binOp .eql 23 (.agg #[.int .i64 a0, .int .i64 a1, .int .i64 a2, .string a3]) (.agg #[.int .i64 b0, .int .i64 b1, .int .i64 b2, .string b3])).run Try.prog w = .ok (.bool (eqP4 a0 a1 a2 a3 b0 b1 b2 b3)) w := by
  have u3 := Try.underlying3
  have a3' := Try.isAgg3
  have z3' := Try.sizeOf3
  have u9 := Try.underlying9
  have a9 := Try.isAgg9
  have z9 := Try.sizeOf9
  have hS : Try.prog.underlying 23 = some (.struct (Try.prog.fieldsOf 23)) := by kernel_rfl
  have hp : Try.prog.stoodInHeld 23 = false := by kernel_rfl
  rw [run_eql_struct, show (10000 : Nat) = 9999 + 1 from rfl, run_equalIn_agg w 9999 23 _ _ hS hp]
  simp only [Program.fieldsOf, Try.underlying23]
  unfold eqP4
  go_simp
  by_cases g0 : a0 = b0 <;> by_cases g1 : a1 = b1 <;> by_cases g2 : a2 = b2 <;> by_cases g3 : a3.toList = b3.toList <;> simp [g0, g1, g2, g3]
theorem eq_same (a0 a1 a2 : Int) (a3 : ByteArray) (w : World) : (binOp .eql 23 (.agg #[.int .i64 a0, .int .i64 a1, .int .i64 a2, .string a3]) (.agg #[.int .i64 a0, .int .i64 a1, .int .i64 a2, .string a3])).run Try.prog w = .ok (.bool true) w := by
  rw [eq_pages, eqP4_iff.2 ⟨rfl, rfl, rfl, rfl⟩]
theorem good2 : GoodD [2] 0 := good_one ⟨by decide, by decide⟩
theorem good22 : GoodD [2, 2] 1 := good2.double (by omega)
theorem good25 : GoodD [2, 5] 1 := ⟨by omega, rfl, fun x hx => by simp at hx; omega⟩
theorem set25 : setS [2, 2] 1 1 5 = [2, 5] := by decide
theorem run_25 (w : World) : (Instr.buildSlice 29 2 #[(0, .int .i64 2), (1, .int .i64 5)]).run Try.prog w = .ok (.slice (some ⟨w.heap.size, 0, none⟩) 2 2) (w.alloc (.cells #[.int .i64 2, .int .i64 5] 3)) := by kernel_rfl
set_option maxHeartbeats 2000000 in
theorem alive_yes (w : World) : Calls Try.prog 8 #[] w fun e w' => e = .returned (.bool true) ∧ Below w.heap.size w w' := by
  have NE := Lib.hid (fun w => (show Calls Try.prog 9 #[.int .i64 2] w fun q w' => q = .returned (.tuple #[pv 1 0 0 (mkD [2]), .bool true]) ∧ Below w.heap.size w w' from new_ok 2 ⟨by decide, by decide⟩ w))
  have DO := Lib.hid (fun w => (show Calls Try.prog 12 #[pv 1 0 0 (mkD [2])] w fun q w' => q = .returned (.tuple #[pv 1 1 0 (mkD [2, 2]), .int .i64 0]) ∧ Below w.heap.size w w' from double_ok 0 [2] 0 good2 (by omega) w))
  have hset := set_ok 0 [2, 2] 1 good22 1 1 5 (by omega) (by decide) ⟨by decide, by decide⟩
  rw [set25] at hset
  have SE := Lib.hid (fun w => (show Calls Try.prog 15 #[pv 1 1 0 (mkD [2, 2]), .int .i64 1, .int .i64 1, .int .i64 5] w fun q w' => q = .returned (.tuple #[pv 1 1 0 (mkD [2, 5]), .int .i64 0]) ∧ Below w.heap.size w w' from hset w))
  have AT := Lib.hid (fun w => (show Calls Try.prog 18 #[pv 1 1 0 (mkD [2, 5]), .int .i64 1] w fun q w' => q = .returned (.tuple #[.int .i64 5, .bool true]) ∧ Below w.heap.size w w' from at_in 0 [2, 5] 1 good25 1 (by simp) w))
  have HA := Lib.hid (fun w => (show Calls Try.prog 13 #[pv 1 1 0 (mkD [2, 5])] w fun q w' => q = .returned (.tuple #[pv 0 0 0 [], .int .i64 11]) ∧ Below w.heap.size w w' from halve_err 0 [2, 5] 0 good25 (by decide) w))
  have AL := Lib.hid (fun w => (show Calls Try.prog 16 #[pv 1 1 0 (mkD [2, 5])] w fun q w' => ∃ g, q = .returned (.slice (some ⟨g, 0, none⟩) 2 2) ∧ w.heap.size ≤ g ∧ Tbl w' g [2, 5] ∧ Below w.heap.size w w' from all_some 0 [2, 5] 1 good25 w))
  have DE := Lib.hid (fun w => (show Calls Try.prog 19 #[pv 1 1 0 (mkD [2, 5])] w fun q w' => q = .returned (.int .i64 1) ∧ Below w.heap.size w w' from depth_some 0 [2, 5] 1 good25 w))
  have SI := Lib.hid (fun (g h : Nat) (w : World) (h1 : Tbl w g [2, 5]) (h2 : Tbl w h [2, 5]) => same_walk w.heap.size (some ⟨g, 0, none⟩) (some ⟨h, 0, none⟩) 2 2 2 [2, 5] w (by omega) (h1.nums (by unfold maxLen; simp)) (h2.nums (by unfold maxLen; simp)))
  clear hset
  unfold pv at *
  rw [show str [] = ByteArray.mk #[] from rfl] at HA
  generalize str (mkD [2]) = X0 at *
  generalize str (mkD [2, 2]) = X1 at *
  generalize str (mkD [2, 5]) = X2 at *
  have HB0 := Lib.hid (Below.refl w.heap.size w)
  go_enter Try.func8, Try.ntmps8
  go_wp2_with fail
  refine (NE.out _).mono ?_; rintro e w1 ⟨rfl, hb⟩
  have HB1 := Lib.hid (HB0.out.trans (hb.mono (Below.size HB0.out)))
  clear hb HB0 
  have hal := (Below.refl (w1).heap.size (w1)).alloc (Nat.le_refl _) (.cells #[.int .i64 1, .int .i64 0, .int .i64 0, .string X0] 23)
  have P1 := Lib.hid (PBox.new (w1) (1) (0) (0) (X0))
  replace HB1 := Lib.hid (HB1.out.trans (hal.mono (Below.size HB1.out)))
  clear hal
  go_wp2_with fail
  obtain ⟨bP, hbP⟩ : ∃ bP, bP = (w1).heap.size := ⟨_, rfl⟩
  rw [← hbP] at P1 ⊢
  have HLP := Lib.hid hbP
  clear hbP
  generalize (w1).alloc (.cells #[.int .i64 1, .int .i64 0, .int .i64 0, .string X0] 23) = v1 at *
  refine (DO.out _).mono ?_; rintro e w2 ⟨rfl, hb⟩
  have P2 := Lib.hid (P1.out.kept hb)
  have HB2 := Lib.hid (HB1.out.trans (hb.mono (Below.size HB1.out)))
  clear hb HB1 P1
  have hal := (Below.refl (w2).heap.size (w2)).alloc (Nat.le_refl _) (.cells #[.int .i64 1, .int .i64 1, .int .i64 0, .string X1] 23)
  replace P2 := Lib.hid (P2.out.kept hal)
  have Q2 := Lib.hid (PBox.new (w2) (1) (1) (0) (X1))
  replace HB2 := Lib.hid (HB2.out.trans (hal.mono (Below.size HB2.out)))
  clear hal
  go_wp2_with fail
  obtain ⟨bQ, hbQ⟩ : ∃ bQ, bQ = (w2).heap.size := ⟨_, rfl⟩
  rw [← hbQ] at Q2 ⊢
  have HLQ := Lib.hid hbQ
  clear hbQ
  generalize (w2).alloc (.cells #[.int .i64 1, .int .i64 1, .int .i64 0, .string X1] 23) = v2 at *
  clear P2
  refine (SE.out _).mono ?_; rintro e w3 ⟨rfl, hb⟩
  have Q3 := Lib.hid (Q2.out.kept hb)
  have HB3 := Lib.hid (HB2.out.trans (hb.mono (Below.size HB2.out)))
  clear hb HB2 Q2
  have hal := (Below.refl (w3).heap.size (w3)).alloc (Nat.le_refl _) (.cells #[.int .i64 1, .int .i64 1, .int .i64 0, .string X2] 23)
  replace Q3 := Lib.hid (Q3.out.kept hal)
  have R3 := Lib.hid (PBox.new (w3) (1) (1) (0) (X2))
  replace HB3 := Lib.hid (HB3.out.trans (hal.mono (Below.size HB3.out)))
  clear hal
  go_wp2_with fail
  obtain ⟨bR, hbR⟩ : ∃ bR, bR = (w3).heap.size := ⟨_, rfl⟩
  rw [← hbR] at R3 ⊢
  have HLR := Lib.hid hbR
  clear hbR
  generalize (w3).alloc (.cells #[.int .i64 1, .int .i64 1, .int .i64 0, .string X2] 23) = v3 at *
  clear Q3
  refine (AT.out _).mono ?_; rintro e w4 ⟨rfl, hb⟩
  have R4 := Lib.hid (R3.out.kept hb)
  have HB4 := Lib.hid (HB3.out.trans (hb.mono (Below.size HB3.out)))
  clear hb HB3 R3
  obtain ⟨oR0, oR1, oR2, oR3⟩ := R4.out.cells
  go_wp2_with fail
  clear oR0 oR1 oR2 oR3
  refine (HA.out _).mono ?_; rintro e w5 ⟨rfl, hb⟩
  have R5 := Lib.hid (R4.out.kept hb)
  have HB5 := Lib.hid (HB4.out.trans (hb.mono (Below.size HB4.out)))
  clear hb HB4 R4
  have hal := (Below.refl (w5).heap.size (w5)).alloc (Nat.le_refl _) (.cells #[.int .i64 0, .int .i64 0, .int .i64 0, .string ⟨#[]⟩] 23)
  replace R5 := Lib.hid (R5.out.kept hal)
  have H5 := Lib.hid (PBox.new (w5) (0) (0) (0) (⟨#[]⟩))
  replace HB5 := Lib.hid (HB5.out.trans (hal.mono (Below.size HB5.out)))
  clear hal
  obtain ⟨oR0, oR1, oR2, oR3⟩ := R5.out.cells
  go_wp2_with fail
  clear oR0 oR1 oR2 oR3
  obtain ⟨bH, hbH⟩ : ∃ bH, bH = (w5).heap.size := ⟨_, rfl⟩
  rw [← hbH] at H5 ⊢
  have HLH := Lib.hid hbH
  clear hbH
  generalize (w5).alloc (.cells #[.int .i64 0, .int .i64 0, .int .i64 0, .string ⟨#[]⟩] 23) = v5 at *
  clear H5
  refine (AL.out _).mono ?_; rintro e w9 ⟨g, rfl, -, hg, hb⟩
  have R9 := Lib.hid (R5.out.kept hb)
  have HB9 := Lib.hid (HB5.out.trans (hb.mono (Below.size HB5.out)))
  clear hb R5 HB5
  obtain ⟨V, hV⟩ : ∃ V, V = w9.alloc (.cells #[.int .i64 2, .int .i64 5] 3) := ⟨_, rfl⟩
  have HT := Lib.hid (show Tbl V w9.heap.size [2, 5] from by rw [hV]; exact heap_alloc_new w9 _)
  have hal : Below w9.heap.size w9 V := by rw [hV]; exact (Below.refl _ _).alloc (Nat.le_refl _) _
  have HG := Lib.hid (hg.kept hal)
  have R10 := Lib.hid (R9.out.kept hal)
  have HB10 := Lib.hid (HB9.out.trans (hal.mono (Below.size HB9.out)))
  have HV := Lib.hid hV.symm
  clear hV hal hg R9 HB9
  go_wp2_with fail
  rw [HV.out]
  refine (SI.out g w9.heap.size V HG.out HT.out).mono ?_; rintro e w11 ⟨rfl, q, rfl⟩
  have R11 := Lib.hid (show PBox (V.drewN q) _ 1 1 0 X2 from R10.out)
  have HB11 := Lib.hid (below_drewN HB10.out q)
  clear R10 HB10 HG HT
  obtain ⟨oR0, oR1, oR2, oR3⟩ := R11.out.cells
  go_wp2_with fail
  clear oR0 oR1 oR2 oR3
  refine (DE.out _).mono ?_; rintro e w12 ⟨rfl, hb⟩
  have R12 := Lib.hid (R11.out.kept hb)
  have HB12 := Lib.hid (HB11.out.trans (hb.mono (Below.size HB11.out)))
  clear hb HB11 R11
  go_wp2_with fail
  go_ret
  exact ⟨rfl, HB12.out⟩
end Go.Proofs.Ytojfnafahlpjjaa
