/- Which pages a directory may lead to: those from 2 to 63; what New, Halve, At, Set, Depth and All then answer. -/
import Derived.Test.YtojfnafahlpjjaaRows
import Derived.Test.YtojfnafahlpjjaaBase
import Derived.LoopTactic
import Derived.StillTailTactics
import Derived.BigQuiet
import Derived.Deep.DeepCutAuto
import Derived.Deep.RegionLaw
import Derived.Deep.CutBlock
import Derived.Lib.Hide
import Derived.WalkKit
import Derived.ProofKit
import Derived.OpenShut
import Derived.ChangeOld
import Derived.Below
import Derived.Carry
namespace Go.Proofs.Ytojfnafahlpjjaa.dirEdges
open Go.ChangeShapes Go.WideShapes Go.ChangeAt Go.RowKit
set_option linter.unusedVariables false

theorem own : ownKnob Try.prog.godebug = none := by kernel_rfl
theorem laidOut : laidOutB Try.prog = true := by kernel_rfl


set_option maxRecDepth 100000 in
set_option maxHeartbeats 100000000 in
theorem walk (a0 : Int) (w : World) (w0 : (Lit.int .i64 a0).wf = true) :
    Calls Try.prog 7 #[.int .i64 a0] w fun e w' => e = .returned (.bool true) ∧ Below w.heap.size w w' := by
  have AL := Lib.hid alive_yes
  have HB0 := Lib.hid (Below.refl w.heap.size w)
  by_cases hn : 2 ≤ a0 ∧ a0 < 64
  · as_aux_lemma =>
      have hg := good_one hn
      have NE := Lib.hid (new_ok a0 hn)
      have HA := Lib.hid (fun w => (show Calls Try.prog 13 #[pv 1 0 0 (mkD [a0])] w fun q w' => q = .returned (.tuple #[pv 0 0 0 [], .int .i64 11]) ∧ Below w.heap.size w w' from halve_zero 0 [a0] 0 hg rfl w))
      have A0 := Lib.hid (fun w => (show Calls Try.prog 18 #[pv 1 0 0 (mkD [a0]), .int .i64 0] w fun q w' => q = .returned (.tuple #[.int .i64 a0, .bool true]) ∧ Below w.heap.size w w' from at_in 0 [a0] 0 hg 0 (by simp) w))
      have A1 := Lib.hid (fun w => (show Calls Try.prog 18 #[pv 1 0 0 (mkD [a0]), .int .i64 1] w fun q w' => q = .returned (.tuple #[.int .i64 0, .bool false]) ∧ Below w.heap.size w w' from at_out 0 [a0] 0 hg 1 (by simp) w))
      have S0 := Lib.hid (fun w => (show Calls Try.prog 15 #[pv 1 0 0 (mkD [a0]), .int .i64 0, .int .i64 0, .int .i64 1] w fun q w' => q = .returned (.tuple #[pv 0 0 0 [], .int .i64 1]) ∧ Below w.heap.size w w' from set_page 0 [a0] 0 hg 0 0 1 (by omega) (by decide) (by omega) w))
      have S1 := Lib.hid (fun w => (show Calls Try.prog 15 #[pv 1 0 0 (mkD [a0]), .int .i64 0, .int .i64 1, .int .i64 5] w fun q w' => q = .returned (.tuple #[pv 0 0 0 [], .int .i64 1]) ∧ Below w.heap.size w w' from set_depth 0 [a0] 0 hg 0 1 5 (by omega) w))
      have DE := Lib.hid (fun w => (show Calls Try.prog 19 #[pv 1 0 0 (mkD [a0])] w fun q w' => q = .returned (.int .i64 0) ∧ Below w.heap.size w w' from depth_some 0 [a0] 0 hg w))
      have q1 : a0 ≥ 2 := hn.1
      have q2 : a0 < 64 := hn.2
      have d1 : decide (a0 ≥ 2) = true := decide_eq_true q1
      have d1b : decide (2 ≤ a0) = true := decide_eq_true q1
      have d2 : decide (a0 < 64) = true := decide_eq_true q2
      unfold pv at *
      rw [show str [] = ByteArray.mk #[] from rfl] at HA S0 S1
      generalize str (mkD [a0]) = s at *
      clear hg hn
      go_enter Try.func7, Try.ntmps7
      go_wp2_with fail
      refine (AL.out _).mono ?_; rintro e w1 ⟨rfl, hb⟩
      have HB1 := Lib.hid (HB0.out.trans (hb.mono (Below.size HB0.out)))
      clear hb HB0 
      go_wp2_with fail
      refine (NE.out _).mono ?_; rintro e w2 ⟨rfl, hb⟩
      have HB2 := Lib.hid (HB1.out.trans (hb.mono (Below.size HB1.out)))
      clear hb HB1 
      have hal := (Below.refl (w2).heap.size (w2)).alloc (Nat.le_refl _) (.cells #[.int .i64 1, .int .i64 0, .int .i64 0, .string s] 23)
      have P2 := Lib.hid (PBox.new (w2) (1) (0) (0) (s))
      replace HB2 := Lib.hid (HB2.out.trans (hal.mono (Below.size HB2.out)))
      clear hal
      go_wp2_with fail
      obtain ⟨bP, hbP⟩ : ∃ bP, bP = (w2).heap.size := ⟨_, rfl⟩
      rw [← hbP] at P2 ⊢
      have HLP := Lib.hid hbP
      clear hbP
      generalize (w2).alloc (.cells #[.int .i64 1, .int .i64 0, .int .i64 0, .string s] 23) = v2 at *
      refine (HA.out _).mono ?_; rintro e w3 ⟨rfl, hb⟩
      have P3 := Lib.hid (P2.out.kept hb)
      have HB3 := Lib.hid (HB2.out.trans (hb.mono (Below.size HB2.out)))
      clear hb HB2 P2
      have hal := (Below.refl (w3).heap.size (w3)).alloc (Nat.le_refl _) (.cells #[.int .i64 0, .int .i64 0, .int .i64 0, .string ⟨#[]⟩] 23)
      replace P3 := Lib.hid (P3.out.kept hal)
      have H3 := Lib.hid (PBox.new (w3) (0) (0) (0) (⟨#[]⟩))
      replace HB3 := Lib.hid (HB3.out.trans (hal.mono (Below.size HB3.out)))
      clear hal
      obtain ⟨oP0, oP1, oP2, oP3⟩ := P3.out.cells
      go_wp2_with fail
      clear oP0 oP1 oP2 oP3
      obtain ⟨bH, hbH⟩ : ∃ bH, bH = (w3).heap.size := ⟨_, rfl⟩
      rw [← hbH] at H3 ⊢
      have HLH := Lib.hid hbH
      clear hbH
      generalize (w3).alloc (.cells #[.int .i64 0, .int .i64 0, .int .i64 0, .string ⟨#[]⟩] 23) = v3 at *
      clear H3
      refine (A0.out _).mono ?_; rintro e w4 ⟨rfl, hb⟩
      have P4 := Lib.hid (P3.out.kept hb)
      have HB4 := Lib.hid (HB3.out.trans (hb.mono (Below.size HB3.out)))
      clear hb HB3 P3
      obtain ⟨oP0, oP1, oP2, oP3⟩ := P4.out.cells
      go_wp2_with fail
      clear oP0 oP1 oP2 oP3
      refine (A1.out _).mono ?_; rintro e w5 ⟨rfl, hb⟩
      have P5 := Lib.hid (P4.out.kept hb)
      have HB5 := Lib.hid (HB4.out.trans (hb.mono (Below.size HB4.out)))
      clear hb HB4 P4
      obtain ⟨oP0, oP1, oP2, oP3⟩ := P5.out.cells
      go_wp2_with fail
      clear oP0 oP1 oP2 oP3
      refine (S0.out _).mono ?_; rintro e w6 ⟨rfl, hb⟩
      have P6 := Lib.hid (P5.out.kept hb)
      have HB6 := Lib.hid (HB5.out.trans (hb.mono (Below.size HB5.out)))
      clear hb HB5 P5
      have hal := (Below.refl (w6).heap.size (w6)).alloc (Nat.le_refl _) (.cells #[.int .i64 0, .int .i64 0, .int .i64 0, .string ⟨#[]⟩] 23)
      replace P6 := Lib.hid (P6.out.kept hal)
      have S6 := Lib.hid (PBox.new (w6) (0) (0) (0) (⟨#[]⟩))
      replace HB6 := Lib.hid (HB6.out.trans (hal.mono (Below.size HB6.out)))
      clear hal
      obtain ⟨oP0, oP1, oP2, oP3⟩ := P6.out.cells
      go_wp2_with fail
      clear oP0 oP1 oP2 oP3
      obtain ⟨bS, hbS⟩ : ∃ bS, bS = (w6).heap.size := ⟨_, rfl⟩
      rw [← hbS] at S6 ⊢
      have HLS := Lib.hid hbS
      clear hbS
      generalize (w6).alloc (.cells #[.int .i64 0, .int .i64 0, .int .i64 0, .string ⟨#[]⟩] 23) = v6 at *
      clear S6
      refine (S1.out _).mono ?_; rintro e w7 ⟨rfl, hb⟩
      have P7 := Lib.hid (P6.out.kept hb)
      have HB7 := Lib.hid (HB6.out.trans (hb.mono (Below.size HB6.out)))
      clear hb HB6 P6
      have hal := (Below.refl (w7).heap.size (w7)).alloc (Nat.le_refl _) (.cells #[.int .i64 0, .int .i64 0, .int .i64 0, .string ⟨#[]⟩] 23)
      replace P7 := Lib.hid (P7.out.kept hal)
      have T7 := Lib.hid (PBox.new (w7) (0) (0) (0) (⟨#[]⟩))
      replace HB7 := Lib.hid (HB7.out.trans (hal.mono (Below.size HB7.out)))
      clear hal
      obtain ⟨oP0, oP1, oP2, oP3⟩ := P7.out.cells
      go_wp2_with fail
      clear oP0 oP1 oP2 oP3
      obtain ⟨bT, hbT⟩ : ∃ bT, bT = (w7).heap.size := ⟨_, rfl⟩
      rw [← hbT] at T7 ⊢
      have HLT := Lib.hid hbT
      clear hbT
      generalize (w7).alloc (.cells #[.int .i64 0, .int .i64 0, .int .i64 0, .string ⟨#[]⟩] 23) = v7 at *
      clear T7
      refine (DE.out _).mono ?_; rintro e w8 ⟨rfl, hb⟩
      have P8 := Lib.hid (P7.out.kept hb)
      have HB8 := Lib.hid (HB7.out.trans (hb.mono (Below.size HB7.out)))
      clear hb HB7 P7
      go_wp2_with fail
      go_ret
      exact ⟨rfl, HB8.out⟩
  · by_cases h8 : a0 ≥ 2
    · as_aux_lemma =>
        have NE := Lib.hid (new_no a0 hn)
        have HA := Lib.hid (fun w => (show Calls Try.prog 13 #[pv 0 0 0 []] w fun q w' => q = .returned (.tuple #[pv 0 0 0 [], .int .i64 2]) ∧ Below w.heap.size w w' from halve_none 0 0 0 [] dirS_zero w))
        have A0 := Lib.hid (fun w => (show Calls Try.prog 18 #[pv 0 0 0 [], .int .i64 0] w fun q w' => q = .returned (.tuple #[.int .i64 0, .bool false]) ∧ Below w.heap.size w w' from at_none 0 0 0 [] dirS_zero 0 w))
        have A1 := Lib.hid (fun w => (show Calls Try.prog 18 #[pv 0 0 0 [], .int .i64 1] w fun q w' => q = .returned (.tuple #[.int .i64 0, .bool false]) ∧ Below w.heap.size w w' from at_none 0 0 0 [] dirS_zero 1 w))
        have DE := Lib.hid (fun w => (show Calls Try.prog 19 #[pv 0 0 0 []] w fun q w' => q = .returned (.int .i64 (-1)) ∧ Below w.heap.size w w' from depth_none 0 0 0 [] dirS_zero w))
        have AA := Lib.hid (fun w => (show Calls Try.prog 16 #[pv 0 0 0 []] w fun q w' => q = .returned (.slice none 0 0) ∧ Below w.heap.size w w' from all_none 0 0 0 [] dirS_zero w))
        unfold pv at *
        rw [show str [] = ByteArray.mk #[] from rfl] at NE HA A0 A1 DE AA
        have h64 : ¬ a0 < 64 := fun h => hn ⟨h8, h⟩
        have d1 : decide (a0 ≥ 2) = true := decide_eq_true h8
        have d1b : decide (2 ≤ a0) = true := decide_eq_true h8
        have d2 : decide (a0 < 64) = false := decide_eq_false h64
        clear hn
        go_enter Try.func7, Try.ntmps7
        go_wp2_with fail
        refine (AL.out _).mono ?_; rintro e w1 ⟨rfl, hb⟩
        have HB1 := Lib.hid (HB0.out.trans (hb.mono (Below.size HB0.out)))
        clear hb HB0 
        go_wp2_with fail
        refine (NE.out _).mono ?_; rintro e w2 ⟨rfl, hb⟩
        have HB2 := Lib.hid (HB1.out.trans (hb.mono (Below.size HB1.out)))
        clear hb HB1 
        have hal := (Below.refl (w2).heap.size (w2)).alloc (Nat.le_refl _) (.cells #[.int .i64 0, .int .i64 0, .int .i64 0, .string ⟨#[]⟩] 23)
        have P2 := Lib.hid (PBox.new (w2) (0) (0) (0) (⟨#[]⟩))
        replace HB2 := Lib.hid (HB2.out.trans (hal.mono (Below.size HB2.out)))
        clear hal
        go_wp2_with fail
        obtain ⟨bP, hbP⟩ : ∃ bP, bP = (w2).heap.size := ⟨_, rfl⟩
        rw [← hbP] at P2 ⊢
        have HLP := Lib.hid hbP
        clear hbP
        generalize (w2).alloc (.cells #[.int .i64 0, .int .i64 0, .int .i64 0, .string ⟨#[]⟩] 23) = v2 at *
        refine (HA.out _).mono ?_; rintro e w3 ⟨rfl, hb⟩
        have P3 := Lib.hid (P2.out.kept hb)
        have HB3 := Lib.hid (HB2.out.trans (hb.mono (Below.size HB2.out)))
        clear hb HB2 P2
        have hal := (Below.refl (w3).heap.size (w3)).alloc (Nat.le_refl _) (.cells #[.int .i64 0, .int .i64 0, .int .i64 0, .string ⟨#[]⟩] 23)
        replace P3 := Lib.hid (P3.out.kept hal)
        have H3 := Lib.hid (PBox.new (w3) (0) (0) (0) (⟨#[]⟩))
        replace HB3 := Lib.hid (HB3.out.trans (hal.mono (Below.size HB3.out)))
        clear hal
        obtain ⟨oP0, oP1, oP2, oP3⟩ := P3.out.cells
        go_wp2_with fail
        clear oP0 oP1 oP2 oP3
        obtain ⟨bH, hbH⟩ : ∃ bH, bH = (w3).heap.size := ⟨_, rfl⟩
        rw [← hbH] at H3 ⊢
        have HLH := Lib.hid hbH
        clear hbH
        generalize (w3).alloc (.cells #[.int .i64 0, .int .i64 0, .int .i64 0, .string ⟨#[]⟩] 23) = v3 at *
        clear H3
        refine (A0.out _).mono ?_; rintro e w4 ⟨rfl, hb⟩
        have P4 := Lib.hid (P3.out.kept hb)
        have HB4 := Lib.hid (HB3.out.trans (hb.mono (Below.size HB3.out)))
        clear hb HB3 P3
        obtain ⟨oP0, oP1, oP2, oP3⟩ := P4.out.cells
        go_wp2_with fail
        clear oP0 oP1 oP2 oP3
        refine (A1.out _).mono ?_; rintro e w5 ⟨rfl, hb⟩
        have P5 := Lib.hid (P4.out.kept hb)
        have HB5 := Lib.hid (HB4.out.trans (hb.mono (Below.size HB4.out)))
        clear hb HB4 P4
        obtain ⟨oP0, oP1, oP2, oP3⟩ := P5.out.cells
        go_wp2_with fail
        clear oP0 oP1 oP2 oP3
        refine (DE.out _).mono ?_; rintro e w6 ⟨rfl, hb⟩
        have P6 := Lib.hid (P5.out.kept hb)
        have HB6 := Lib.hid (HB5.out.trans (hb.mono (Below.size HB5.out)))
        clear hb HB5 P5
        obtain ⟨oP0, oP1, oP2, oP3⟩ := P6.out.cells
        go_wp2_with fail
        clear oP0 oP1 oP2 oP3
        refine (AA.out _).mono ?_; rintro e w7 ⟨rfl, hb⟩
        have P7 := Lib.hid (P6.out.kept hb)
        have HB7 := Lib.hid (HB6.out.trans (hb.mono (Below.size HB6.out)))
        clear hb HB6 P6
        go_wp2_with fail
        go_ret
        exact ⟨rfl, HB7.out⟩
    · as_aux_lemma =>
        have NE := Lib.hid (new_no a0 hn)
        have HA := Lib.hid (fun w => (show Calls Try.prog 13 #[pv 0 0 0 []] w fun q w' => q = .returned (.tuple #[pv 0 0 0 [], .int .i64 2]) ∧ Below w.heap.size w w' from halve_none 0 0 0 [] dirS_zero w))
        have A0 := Lib.hid (fun w => (show Calls Try.prog 18 #[pv 0 0 0 [], .int .i64 0] w fun q w' => q = .returned (.tuple #[.int .i64 0, .bool false]) ∧ Below w.heap.size w w' from at_none 0 0 0 [] dirS_zero 0 w))
        have A1 := Lib.hid (fun w => (show Calls Try.prog 18 #[pv 0 0 0 [], .int .i64 1] w fun q w' => q = .returned (.tuple #[.int .i64 0, .bool false]) ∧ Below w.heap.size w w' from at_none 0 0 0 [] dirS_zero 1 w))
        have DE := Lib.hid (fun w => (show Calls Try.prog 19 #[pv 0 0 0 []] w fun q w' => q = .returned (.int .i64 (-1)) ∧ Below w.heap.size w w' from depth_none 0 0 0 [] dirS_zero w))
        have AA := Lib.hid (fun w => (show Calls Try.prog 16 #[pv 0 0 0 []] w fun q w' => q = .returned (.slice none 0 0) ∧ Below w.heap.size w w' from all_none 0 0 0 [] dirS_zero w))
        unfold pv at *
        rw [show str [] = ByteArray.mk #[] from rfl] at NE HA A0 A1 DE AA
        have d1 : decide (a0 ≥ 2) = false := decide_eq_false h8
        have d1b : decide (2 ≤ a0) = false := decide_eq_false h8
        clear hn
        go_enter Try.func7, Try.ntmps7
        go_wp2_with fail
        refine (AL.out _).mono ?_; rintro e w1 ⟨rfl, hb⟩
        have HB1 := Lib.hid (HB0.out.trans (hb.mono (Below.size HB0.out)))
        clear hb HB0 
        go_wp2_with fail
        refine (NE.out _).mono ?_; rintro e w2 ⟨rfl, hb⟩
        have HB2 := Lib.hid (HB1.out.trans (hb.mono (Below.size HB1.out)))
        clear hb HB1 
        have hal := (Below.refl (w2).heap.size (w2)).alloc (Nat.le_refl _) (.cells #[.int .i64 0, .int .i64 0, .int .i64 0, .string ⟨#[]⟩] 23)
        have P2 := Lib.hid (PBox.new (w2) (0) (0) (0) (⟨#[]⟩))
        replace HB2 := Lib.hid (HB2.out.trans (hal.mono (Below.size HB2.out)))
        clear hal
        go_wp2_with fail
        obtain ⟨bP, hbP⟩ : ∃ bP, bP = (w2).heap.size := ⟨_, rfl⟩
        rw [← hbP] at P2 ⊢
        have HLP := Lib.hid hbP
        clear hbP
        generalize (w2).alloc (.cells #[.int .i64 0, .int .i64 0, .int .i64 0, .string ⟨#[]⟩] 23) = v2 at *
        refine (HA.out _).mono ?_; rintro e w3 ⟨rfl, hb⟩
        have P3 := Lib.hid (P2.out.kept hb)
        have HB3 := Lib.hid (HB2.out.trans (hb.mono (Below.size HB2.out)))
        clear hb HB2 P2
        have hal := (Below.refl (w3).heap.size (w3)).alloc (Nat.le_refl _) (.cells #[.int .i64 0, .int .i64 0, .int .i64 0, .string ⟨#[]⟩] 23)
        replace P3 := Lib.hid (P3.out.kept hal)
        have H3 := Lib.hid (PBox.new (w3) (0) (0) (0) (⟨#[]⟩))
        replace HB3 := Lib.hid (HB3.out.trans (hal.mono (Below.size HB3.out)))
        clear hal
        obtain ⟨oP0, oP1, oP2, oP3⟩ := P3.out.cells
        go_wp2_with fail
        clear oP0 oP1 oP2 oP3
        obtain ⟨bH, hbH⟩ : ∃ bH, bH = (w3).heap.size := ⟨_, rfl⟩
        rw [← hbH] at H3 ⊢
        have HLH := Lib.hid hbH
        clear hbH
        generalize (w3).alloc (.cells #[.int .i64 0, .int .i64 0, .int .i64 0, .string ⟨#[]⟩] 23) = v3 at *
        clear H3
        refine (A0.out _).mono ?_; rintro e w4 ⟨rfl, hb⟩
        have P4 := Lib.hid (P3.out.kept hb)
        have HB4 := Lib.hid (HB3.out.trans (hb.mono (Below.size HB3.out)))
        clear hb HB3 P3
        obtain ⟨oP0, oP1, oP2, oP3⟩ := P4.out.cells
        go_wp2_with fail
        clear oP0 oP1 oP2 oP3
        refine (A1.out _).mono ?_; rintro e w5 ⟨rfl, hb⟩
        have P5 := Lib.hid (P4.out.kept hb)
        have HB5 := Lib.hid (HB4.out.trans (hb.mono (Below.size HB4.out)))
        clear hb HB4 P4
        obtain ⟨oP0, oP1, oP2, oP3⟩ := P5.out.cells
        go_wp2_with fail
        clear oP0 oP1 oP2 oP3
        refine (DE.out _).mono ?_; rintro e w6 ⟨rfl, hb⟩
        have P6 := Lib.hid (P5.out.kept hb)
        have HB6 := Lib.hid (HB5.out.trans (hb.mono (Below.size HB5.out)))
        clear hb HB5 P5
        obtain ⟨oP0, oP1, oP2, oP3⟩ := P6.out.cells
        go_wp2_with fail
        clear oP0 oP1 oP2 oP3
        refine (AA.out _).mono ?_; rintro e w7 ⟨rfl, hb⟩
        have P7 := Lib.hid (P6.out.kept hb)
        have HB7 := Lib.hid (HB6.out.trans (hb.mono (Below.size HB6.out)))
        clear hb HB6 P6
        go_wp2_with fail
        go_ret
        exact ⟨rfl, HB7.out⟩

/-! The row's step. -/
set_option maxRecDepth 100000 in
theorem lifted (os : Os) (started : os.Started) (H : Type) (enc : TypeId × Value → H) :
    ReturnsInHanded {} Try.checked os 7 .any (Rows.dirEdgesSpec.pre6 enc Try.prog Try.f7 Rows.dirEdgesRow.domain false) (Rows.dirEdgesSpec.post enc Try.prog Try.f7 false true false false) := by
  refine returnsInHanded_of_change (C := Try.checked) own started (by kernel_rfl) Try.func7
    (ChangeSpec.witness6 (enc := enc) (C := Try.checked) false ⟨#[], #[.int .i64 0], []⟩ 8 (by kernel_rfl) (by kernel_rfl) (by kernel_rfl) (by kernel_rfl)) ?_
  intro W base args ds gs before hval0 hW hcnd _
  have hval : ∀ (j : Nat) t v, Try.f7.params[j]? = some t → args[j]? = some v → Value.okWide Try.prog W .any base t v := hval0
  have hW' := hW
  obtain ⟨p, q, hA0, hV, rfl, hfz, hnd⟩ := hW
  have hA : DataW.TrodAll enc Try.prog W 0 (fun _ => true) true Try.f7.params.toList args.toList ds p := hA0
  rw [Try.params7] at hA hval
  obtain ⟨v0, vs0, d0, ds0, p0, q0, hargs, rfl, rfl, h0, r0⟩ := trodAll_cons hA
  obtain ⟨rfl, rfl, rfl⟩ := trodAll_nil r0
  obtain rfl : args = #[v0] := by cases args; simp_all
  obtain ⟨rfl, rfl⟩ := trodVars_none hV
  obtain ⟨a0, rfl, rfl, rfl, w0⟩ := open_int Try.underlying3 (hval 0 3 v0 rfl rfl) h0
  clear hA0 hval0
  refine (walk a0 W w0).mono fun e W' ⟨he, bel⟩ => ?_
  subst he
  exact ⟨_, rfl, _, _, _, [], _, [], hW', trodAll_mk1 (shut_bool Try.underlying4 _), (trodAll_cons_mk (shut_int Try.underlying3 w0) trodAll_mk0), rfl, bel.frame _, fun h => by cases h⟩

theorem over : Rows.dirEdgesRow.holds Try.pinned (OpenSpec.ofChange Rows.dirEdgesSpec) :=
  OpenClaim.holds_of_wide 7 Try.f7 rfl rfl rfl rfl rfl rfl rfl ⟨rfl, rfl, rfl, rfl, rfl⟩ rfl rfl rfl rfl rfl (by kernel_rfl) Try.func7 (by kernel_rfl)
    (of_decide_eq_true (by kernel_rfl)) (by unfold Func.isWrapper; first | (rw [if_pos (by decide +kernel)]; kernel_rfl) | (rw [if_neg (by decide +kernel)]; exact ⟨rfl, rfl⟩))
    (fun os started H enc _ => lifted os started H enc)

/-- The statement. -/
theorem proved : Rows.DirEdgesSaid := over
end Go.Proofs.Ytojfnafahlpjjaa.dirEdges
