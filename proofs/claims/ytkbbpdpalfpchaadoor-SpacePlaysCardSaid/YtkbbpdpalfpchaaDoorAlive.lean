/- Pages compared; the contract of the law's first call 'alive'. -/
import Derived.Test.YtkbbpdpalfpchaaDoorTake
import Derived.Laws.StructEq
namespace Go.Proofs.YtkbbpdpalfpchaaDoor
open Go.ChangeShapes Go.WideShapes Go.ChangeAt Go.RowKit
set_option linter.unusedVariables false
set_option linter.unusedSimpArgs false
set_option maxRecDepth 100000
theorem data_inj {a b : ByteArray} (h : a.data.toList = b.data.toList) : a = b := by
  rw [← str_data a, ← str_data b, h]
def eqP4 (k d x : Int) (b : ByteArray) (k' d' x' : Int) (b' : ByteArray) : Bool := (k == k') && ((d == d') && ((x == x') && (b.toList == b'.toList)))
theorem eqP4_iff {k d x : Int} {b : ByteArray} {k' d' x' : Int} {b' : ByteArray} : eqP4 k d x b k' d' x' b' = true ↔ k = k' ∧ d = d' ∧ x = x' ∧ b = b' := by
  unfold eqP4
  simp only [Bool.and_eq_true, beq_iff_eq, ByteArray.toList_eq]
  exact ⟨fun ⟨h1, h2, h3, h4⟩ => ⟨h1, h2, h3, data_inj h4⟩, fun ⟨h1, h2, h3, h4⟩ => ⟨h1, h2, h3, by rw [h4]⟩⟩
theorem eq_pages (a0 a1 a2 : Int) (a3 : ByteArray) (b0 b1 b2 : Int) (b3 : ByteArray) (w : World) : (binOp .eql 23 (.agg #[.int .i64 a0, .int .i64 a1, .int .i64 a2, .string a3]) (.agg #[.int .i64 b0, .int .i64 b1, .int .i64 b2, .string b3])).run Tryd.prog w = .ok (.bool (eqP4 a0 a1 a2 a3 b0 b1 b2 b3)) w := by
  have u3 := Tryd.underlying3
  have a3' := Tryd.isAgg3
  have z3' := Tryd.sizeOf3
  have u9 := Tryd.underlying9
  have a9 := Tryd.isAgg9
  have z9 := Tryd.sizeOf9
  have hS : Tryd.prog.underlying 23 = some (.struct (Tryd.prog.fieldsOf 23)) := by kernel_rfl
  have hp : Tryd.prog.stoodInHeld 23 = false := by kernel_rfl
  rw [run_eql_struct, show (10000 : Nat) = 9999 + 1 from rfl, run_equalIn_agg w 9999 23 _ _ hS hp]
  simp only [Program.fieldsOf, Tryd.underlying23]
  unfold eqP4
  go_simp
  by_cases g0 : a0 = b0 <;> by_cases g1 : a1 = b1 <;> by_cases g2 : a2 = b2 <;> by_cases g3 : a3.toList = b3.toList <;> simp [g0, g1, g2, g3]
theorem eq_same (a0 a1 a2 : Int) (a3 : ByteArray) (w : World) : (binOp .eql 23 (.agg #[.int .i64 a0, .int .i64 a1, .int .i64 a2, .string a3]) (.agg #[.int .i64 a0, .int .i64 a1, .int .i64 a2, .string a3])).run Tryd.prog w = .ok (.bool true) w := by
  rw [eq_pages, eqP4_iff.2 ⟨rfl, rfl, rfl, rfl⟩]
theorem new8 : Good (newS 8) ∧ fst (newS 8) = 2 ∧ (newS 8).count 2 = 6 ∧ ((newS 8).set 2 1).count 2 = 5 ∧ usedS ((newS 8).set 2 1) 2 = true ∧ usedS (newS 8) 2 = false ∧ ((newS 8).set 2 1).length = 8 ∧ Good ((newS 8).set 2 1) :=
  ⟨newS_good (by omega) (by omega), by decide, by decide, by decide, by decide, by decide, by decide, (newS_good (by omega) (by omega)).set (by omega) (.inl rfl)⟩
set_option maxHeartbeats 2000000 in
theorem alive_yes (w : World) : Calls Tryd.prog 9 #[] w fun e w' => e = .returned (.bool true) ∧ Below w.heap.size w w' := by
  obtain ⟨g0, q1, q2, q3, q4, q5, q6, g1⟩ := new8
  have NE := Lib.hid (new_yes 8 (by omega) (by omega))
  have TA := Lib.hid (take_some 0 0 (newS 8) g0 (by rw [q1, newS_length (by omega)]; omega))
  rw [q1] at TA
  have FP := Lib.hid (free_any 2 0 0 (mk (newS 8)) (by rw [g0.len]; omega))
  rw [marksS_mk g0, q2] at FP
  have FQ := Lib.hid (free_any 2 0 0 (mk ((newS 8).set 2 1)) (by rw [g1.len]; omega))
  rw [marksS_mk g1, q3] at FQ
  have UQ := Lib.hid (used_any 2 0 0 2 (mk ((newS 8).set 2 1)) (by rw [g1.len]; omega) (by omega))
  rw [marksS_mk g1, q4] at UQ
  have UP := Lib.hid (used_any 2 0 0 2 (mk (newS 8)) (by rw [g0.len]; omega) (by omega))
  rw [marksS_mk g0, q5] at UP
  have PQ := Lib.hid (pages_any 2 0 0 (mk ((newS 8).set 2 1)) (by rw [g1.len]; omega))
  rw [marksS_mk g1, q6] at PQ
  rw [show ((8 : Nat) : Int) = 8 from rfl] at NE PQ
  rw [show ((2 : Nat) : Int) = 2 from rfl] at TA
  rw [show ((6 : Nat) : Int) = 6 from rfl] at FP
  rw [show ((5 : Nat) : Int) = 5 from rfl] at FQ
  unfold pv at *
  generalize str (mk (newS 8)) = X0 at *
  generalize str (mk ((newS 8).set 2 1)) = X1 at *
  clear g0 q1 q2 q3 q4 q5 q6 g1
  have HB0 := Lib.hid (Below.refl w.heap.size w)
  go_enter Tryd.func9, Tryd.ntmps9
  go_wp2_with fail
  refine (NE.out _).mono ?_; rintro e w1 ⟨rfl, hb⟩
  have HB1 := Lib.hid (HB0.out.trans (hb.mono (Below.size HB0.out)))
  clear hb HB0 
  have hal := (Below.refl (w1).heap.size (w1)).alloc (Nat.le_refl _) (.cells #[.int .i64 2, .int .i64 0, .int .i64 0, .string X0] 23)
  have P1 := Lib.hid (PBox.new (w1) (2) (0) (0) (X0))
  replace HB1 := Lib.hid (HB1.out.trans (hal.mono (Below.size HB1.out)))
  clear hal
  go_wp2_with fail
  obtain ⟨bP, hbP⟩ : ∃ bP, bP = (w1).heap.size := ⟨_, rfl⟩
  rw [← hbP] at P1 ⊢
  have HLP := Lib.hid hbP
  clear hbP
  generalize (w1).alloc (.cells #[.int .i64 2, .int .i64 0, .int .i64 0, .string X0] 23) = v1 at *
  refine (TA.out _).mono ?_; rintro e w2 ⟨rfl, hb⟩
  have P2 := Lib.hid (P1.out.kept hb)
  have HB2 := Lib.hid (HB1.out.trans (hb.mono (Below.size HB1.out)))
  clear hb HB1 P1
  have hal := (Below.refl (w2).heap.size (w2)).alloc (Nat.le_refl _) (.cells #[.int .i64 2, .int .i64 0, .int .i64 0, .string X1] 23)
  replace P2 := Lib.hid (P2.out.kept hal)
  have Q2 := Lib.hid (PBox.new (w2) (2) (0) (0) (X1))
  replace HB2 := Lib.hid (HB2.out.trans (hal.mono (Below.size HB2.out)))
  clear hal
  obtain ⟨oP0, oP1, oP2, oP3⟩ := P2.out.cells
  go_wp2_with fail
  clear oP0 oP1 oP2 oP3
  obtain ⟨bQ, hbQ⟩ : ∃ bQ, bQ = (w2).heap.size := ⟨_, rfl⟩
  rw [← hbQ] at Q2 ⊢
  have HLQ := Lib.hid hbQ
  clear hbQ
  generalize (w2).alloc (.cells #[.int .i64 2, .int .i64 0, .int .i64 0, .string X1] 23) = v2 at *
  refine (FP.out _).mono ?_; rintro e w3 ⟨rfl, hb⟩
  have P3 := Lib.hid (P2.out.kept hb)
  have Q3 := Lib.hid (Q2.out.kept hb)
  have HB3 := Lib.hid (HB2.out.trans (hb.mono (Below.size HB2.out)))
  clear hb HB2 P2 Q2
  obtain ⟨oQ0, oQ1, oQ2, oQ3⟩ := Q3.out.cells
  go_wp2_with fail
  clear oQ0 oQ1 oQ2 oQ3
  refine (FQ.out _).mono ?_; rintro e w4 ⟨rfl, hb⟩
  have P4 := Lib.hid (P3.out.kept hb)
  have Q4 := Lib.hid (Q3.out.kept hb)
  have HB4 := Lib.hid (HB3.out.trans (hb.mono (Below.size HB3.out)))
  clear hb HB3 P3 Q3
  obtain ⟨oQ0, oQ1, oQ2, oQ3⟩ := Q4.out.cells
  go_wp2_with fail
  clear oQ0 oQ1 oQ2 oQ3
  refine (UQ.out _).mono ?_; rintro e w5 ⟨rfl, hb⟩
  have P5 := Lib.hid (P4.out.kept hb)
  have Q5 := Lib.hid (Q4.out.kept hb)
  have HB5 := Lib.hid (HB4.out.trans (hb.mono (Below.size HB4.out)))
  clear hb HB4 P4 Q4
  obtain ⟨oP0, oP1, oP2, oP3⟩ := P5.out.cells
  go_wp2_with fail
  clear oP0 oP1 oP2 oP3
  refine (UP.out _).mono ?_; rintro e w6 ⟨rfl, hb⟩
  have P6 := Lib.hid (P5.out.kept hb)
  have Q6 := Lib.hid (Q5.out.kept hb)
  have HB6 := Lib.hid (HB5.out.trans (hb.mono (Below.size HB5.out)))
  clear hb HB5 P5 Q5
  obtain ⟨oQ0, oQ1, oQ2, oQ3⟩ := Q6.out.cells
  go_wp2_with fail
  clear oQ0 oQ1 oQ2 oQ3
  refine (PQ.out _).mono ?_; rintro e w7 ⟨rfl, hb⟩
  have P7 := Lib.hid (P6.out.kept hb)
  have Q7 := Lib.hid (Q6.out.kept hb)
  have HB7 := Lib.hid (HB6.out.trans (hb.mono (Below.size HB6.out)))
  clear hb HB6 P6 Q6
  go_wp2_with fail
  go_ret
  exact ⟨rfl, HB7.out⟩
end Go.Proofs.YtkbbpdpalfpchaaDoor
