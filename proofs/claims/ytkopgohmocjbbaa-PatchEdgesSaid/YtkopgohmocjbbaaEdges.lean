/- For every place, number of bytes and page: a patch may go to a page's very end and no further, and it has a byte at least. -/
import Derived.Test.YtkopgohmocjbbaaRows
import Derived.Test.YtkopgohmocjbbaaBase
import Derived.Deep.RegionHeld3
import Derived.StillTailTactics
import Derived.BigQuiet
import Derived.Laws.MakeOwn
import Derived.Lib.Hide
import Derived.WalkKit
import Derived.ProofKit
import Derived.OpenShut
import Derived.ChangeOld
import Derived.Below
import Derived.Carry
namespace Go.Proofs.Ytkopgohmocjbbaa.patchEdges
open Go.ChangeShapes Go.WideShapes Go.ChangeAt Go.RowKit
set_option linter.unusedVariables false

theorem own : ownKnob Try.prog.godebug = none := by kernel_rfl
theorem laidOut : laidOutB Try.prog = true := by kernel_rfl


set_option maxRecDepth 100000 in
set_option maxHeartbeats 16000000 in
theorem walk (a m pg : Int) (w : World) (wa : (Lit.int .i64 a).wf = true) (wm : (Lit.int .i64 m).wf = true) (wp : (Lit.int .i64 pg).wf = true) :
    Calls Try.prog 8 #[.int .i64 a, .int .i64 m, .int .i64 pg] w fun e w' => e = .returned (.bool true) ∧ Below w.heap.size w w' := by
  clear wa wm wp
  by_cases c0 : m < 0
  · as_aux_lemma =>
      have HB0 := Lib.hid (Below.refl w.heap.size w)
      have AL := Lib.hid alive_yes
      go_enter Try.func8, Try.ntmps8
      go_wp2_with fail
      refine (AL.out _).mono ?_; rintro e w1 ⟨rfl, hb⟩
      have HB1 := Lib.hid (HB0.out.trans (hb.mono (Below.size HB0.out)))
      clear hb HB0 
      go_wp2_with fail
      go_ret
      exact ⟨rfl, HB1.out⟩
  · by_cases c1 : 400 < m
    · as_aux_lemma =>
        have HB0 := Lib.hid (Below.refl w.heap.size w)
        have AL := Lib.hid alive_yes
        go_enter Try.func8, Try.ntmps8
        go_wp2_with fail
        refine (AL.out _).mono ?_; rintro e w1 ⟨rfl, hb⟩
        have HB1 := Lib.hid (HB0.out.trans (hb.mono (Below.size HB0.out)))
        clear hb HB0 
        go_wp2_with fail
        go_ret
        exact ⟨rfl, HB1.out⟩
    · obtain ⟨n, rfl⟩ : ∃ n : Nat, m = (n : Int) := ⟨m.toNat, by omega⟩
      have PX := Lib.hid (fun w => page_any ⟨#[120]⟩ (by unfold maxLen; decide) w)
      have hlx := pageOf_length (ByteArray.mk #[120]).data.toList
      generalize pageOf (ByteArray.mk #[120]).data.toList = px at *
      have hzs : (str (zs n)).size = n := by rw [str_size, zs_length]
      have hzm : (str (zs n)).size ≤ maxLen := by rw [hzs]; unfold maxLen; omega
      have RI := Lib.hid (fun w => right_any pg a (str (zs n)) hzm w)
      have AP := Lib.hid (fun w => apply_any pg a (str (zs n)) (str px) hzm (str_max _ hlx) w)
      rw [str_toList, show applyOk px ⟨pg, a, str (zs n)⟩ = okP ⟨pg, a, str (zs n)⟩ by unfold applyOk; rw [decide_eq_true hlx]; rfl] at AP
      generalize str (applyS px ⟨pg, a, str (zs n)⟩) = OV at *
      unfold pv at RI AP
      clear hzm hlx
      have hn0 : (0 : Int) ≤ (n : Int) := by omega
      by_cases d0 : 0 ≤ pg
      · by_cases d1 : pg ≤ 63
        · have q1 : pg < 64 := by omega
          by_cases d2 : 0 ≤ a
          · by_cases d3 : a ≤ 255
            · have q3 : a < 256 := by omega
              have e3 : IntKind.i64.wrap (256 - a) = 256 - a := IntWalk.i64_in _ (by omega)
              by_cases d4 : 1 ≤ n
              · have q4 : (1 : Int) ≤ (n : Int) := by omega
                by_cases d5 : (n : Int) ≤ 256 - a
                · as_aux_lemma =>
                    rw [show okP ⟨pg, a, str (zs n)⟩ = true from okP_iff.2 ⟨⟨d0, d1⟩, d2, by show 0 < (str (zs n)).size; rw [hzs]; omega, by show a + ((str (zs n)).size : Int) ≤ 256; rw [hzs]; omega⟩] at RI AP
                    obtain ⟨i0, hi, hz0, hz1, hz2⟩ := info_parts info_u8
                    have hmk := fun w : World => run_make (P := Try.prog) w 39 5 i0 _ Try.underlying39 hi hz0 .i64 .i64 (n : Int) (n : Int) (by omega) (Int.le_refl _) (by rw [hz2]; omega) (by omega)
                    rw [hz1] at hmk
                    simp only [Int.toNat_natCast, Value.cells, Nat.mul_one] at hmk
                    have HCV := Lib.hid (fun w => convert_zeros w n)
                    unfold zRow at HCV
                    obtain ⟨row, hrow⟩ : ∃ row, row = madeCells #[Value.int .u8 0] n := ⟨_, rfl⟩
                    rw [← hrow] at hmk HCV
                    clear hi hz0 hz1 hz2 hrow hzs
                    generalize str px = PXS at *
                    generalize str (zs n) = z at *
                    have HB0 := Lib.hid (Below.refl w.heap.size w)
                    have AL := Lib.hid alive_yes
                    go_enter Try.func8, Try.ntmps8
                    go_wp2_with fail
                    refine (AL.out _).mono ?_; rintro e w1 ⟨rfl, hb⟩
                    have HB1 := Lib.hid (HB0.out.trans (hb.mono (Below.size HB0.out)))
                    clear hb HB0 
                    have hcv := HCV.out w1
                    have HB2 := Lib.hid (HB1.out.alloc (Below.size HB1.out) (.cells row 5))
                    obtain ⟨W2, hW2⟩ : ∃ W2, W2 = w1.alloc (.cells row 5) := ⟨_, rfl⟩
                    rw [← hW2] at hcv HB2
                    have hmk1 := hmk w1
                    rw [← hW2] at hmk1
                    clear hW2 hmk HB1
                    have HX := Lib.hid (Box.new W2 (.int .i64 pg) (.int .i64 a) (.string z))
                    have HB3 := Lib.hid (HB2.out.alloc (Below.size HB2.out) (.cells #[.int .i64 pg, .int .i64 a, .string z] 26))
                    go_wp2_with fail
                    generalize W2.alloc (.cells #[.int .i64 pg, .int .i64 a, .string z] 26) = X at *
                    obtain ⟨x0, x1, x2⟩ := HX.out.cells
                    have X0 := fun r (h : Held X r) => h.cell x0
                    have X1 := fun r (h : Held X r) => h.cell x1
                    have X2 := fun r (h : Held X r) => h.cell x2
                    clear x0 x1 x2
                    go_region_held3 (fun w' => Held X w') (first | exact Held.start _ | exact Held.step (by assumption) (by assumption) | assumption) (first
                      | (go_at_call 10; refine (PX.out _).mono ?_; rintro e u ⟨rfl, hb⟩)
                      | (go_at_call 14; refine (AP.out _).mono ?_; rintro e u ⟨rfl, hb⟩))
                    have hU := ‹Held X u›
                    have HX2 := Lib.hid (HX.out.kept hU)
                    have HB5 := Lib.hid (HB3.out.trans (Below.mono hU HB3.out.size))
                    clear X0 X1 X2 hU HX HB3
                    obtain ⟨x0, x1, x2⟩ := HX2.out.cells
                    go_wp2_with fail
                    refine (RI.out _).mono ?_; rintro e w6 ⟨rfl, hb⟩
                    have HB6 := Lib.hid (HB5.out.trans (hb.mono HB5.out.size))
                    clear hb
                    go_wp2_with fail
                    go_ret
                    exact ⟨rfl, HB6.out⟩
                · as_aux_lemma =>
                    rw [show okP ⟨pg, a, str (zs n)⟩ = false from okP_no.2 (fun h => d5 (by have h1 := h.1; have h2 := h.2.1; have h3 := h.2.2.1; have h4 := h.2.2.2; dsimp only at h1 h2 h3 h4; rw [hzs] at h3 h4; omega))] at RI AP
                    obtain ⟨i0, hi, hz0, hz1, hz2⟩ := info_parts info_u8
                    have hmk := fun w : World => run_make (P := Try.prog) w 39 5 i0 _ Try.underlying39 hi hz0 .i64 .i64 (n : Int) (n : Int) (by omega) (Int.le_refl _) (by rw [hz2]; omega) (by omega)
                    rw [hz1] at hmk
                    simp only [Int.toNat_natCast, Value.cells, Nat.mul_one] at hmk
                    have HCV := Lib.hid (fun w => convert_zeros w n)
                    unfold zRow at HCV
                    obtain ⟨row, hrow⟩ : ∃ row, row = madeCells #[Value.int .u8 0] n := ⟨_, rfl⟩
                    rw [← hrow] at hmk HCV
                    clear hi hz0 hz1 hz2 hrow hzs
                    generalize str px = PXS at *
                    generalize str (zs n) = z at *
                    have HB0 := Lib.hid (Below.refl w.heap.size w)
                    have AL := Lib.hid alive_yes
                    go_enter Try.func8, Try.ntmps8
                    go_wp2_with fail
                    refine (AL.out _).mono ?_; rintro e w1 ⟨rfl, hb⟩
                    have HB1 := Lib.hid (HB0.out.trans (hb.mono (Below.size HB0.out)))
                    clear hb HB0 
                    have hcv := HCV.out w1
                    have HB2 := Lib.hid (HB1.out.alloc (Below.size HB1.out) (.cells row 5))
                    obtain ⟨W2, hW2⟩ : ∃ W2, W2 = w1.alloc (.cells row 5) := ⟨_, rfl⟩
                    rw [← hW2] at hcv HB2
                    have hmk1 := hmk w1
                    rw [← hW2] at hmk1
                    clear hW2 hmk HB1
                    have HX := Lib.hid (Box.new W2 (.int .i64 pg) (.int .i64 a) (.string z))
                    have HB3 := Lib.hid (HB2.out.alloc (Below.size HB2.out) (.cells #[.int .i64 pg, .int .i64 a, .string z] 26))
                    go_wp2_with fail
                    generalize W2.alloc (.cells #[.int .i64 pg, .int .i64 a, .string z] 26) = X at *
                    obtain ⟨x0, x1, x2⟩ := HX.out.cells
                    have X0 := fun r (h : Held X r) => h.cell x0
                    have X1 := fun r (h : Held X r) => h.cell x1
                    have X2 := fun r (h : Held X r) => h.cell x2
                    clear x0 x1 x2
                    go_region_held3 (fun w' => Held X w') (first | exact Held.start _ | exact Held.step (by assumption) (by assumption) | assumption) (first
                      | (go_at_call 10; refine (PX.out _).mono ?_; rintro e u ⟨rfl, hb⟩)
                      | (go_at_call 14; refine (AP.out _).mono ?_; rintro e u ⟨rfl, hb⟩))
                    have hU := ‹Held X u›
                    have HX2 := Lib.hid (HX.out.kept hU)
                    have HB5 := Lib.hid (HB3.out.trans (Below.mono hU HB3.out.size))
                    clear X0 X1 X2 hU HX HB3
                    obtain ⟨x0, x1, x2⟩ := HX2.out.cells
                    go_wp2_with fail
                    refine (RI.out _).mono ?_; rintro e w6 ⟨rfl, hb⟩
                    have HB6 := Lib.hid (HB5.out.trans (hb.mono HB5.out.size))
                    clear hb
                    go_wp2_with fail
                    go_ret
                    exact ⟨congrArg (fun v => Ending.returned (Value.bool v)) (show (!decide ((n : Int) ≤ 256 - a)) = true by rw [decide_eq_false (show ¬ (n : Int) ≤ 256 - a by omega)]; rfl), HB6.out⟩
              · have q4 : ¬ (1 : Int) ≤ (n : Int) := by omega
                as_aux_lemma =>
                  rw [show okP ⟨pg, a, str (zs n)⟩ = false from okP_no.2 (fun h => d4 (by have h1 := h.1; have h2 := h.2.1; have h3 := h.2.2.1; have h4 := h.2.2.2; dsimp only at h1 h2 h3 h4; rw [hzs] at h3 h4; omega))] at RI AP
                  obtain ⟨i0, hi, hz0, hz1, hz2⟩ := info_parts info_u8
                  have hmk := fun w : World => run_make (P := Try.prog) w 39 5 i0 _ Try.underlying39 hi hz0 .i64 .i64 (n : Int) (n : Int) (by omega) (Int.le_refl _) (by rw [hz2]; omega) (by omega)
                  rw [hz1] at hmk
                  simp only [Int.toNat_natCast, Value.cells, Nat.mul_one] at hmk
                  have HCV := Lib.hid (fun w => convert_zeros w n)
                  unfold zRow at HCV
                  obtain ⟨row, hrow⟩ : ∃ row, row = madeCells #[Value.int .u8 0] n := ⟨_, rfl⟩
                  rw [← hrow] at hmk HCV
                  clear hi hz0 hz1 hz2 hrow hzs
                  generalize str px = PXS at *
                  generalize str (zs n) = z at *
                  have HB0 := Lib.hid (Below.refl w.heap.size w)
                  have AL := Lib.hid alive_yes
                  go_enter Try.func8, Try.ntmps8
                  go_wp2_with fail
                  refine (AL.out _).mono ?_; rintro e w1 ⟨rfl, hb⟩
                  have HB1 := Lib.hid (HB0.out.trans (hb.mono (Below.size HB0.out)))
                  clear hb HB0 
                  have hcv := HCV.out w1
                  have HB2 := Lib.hid (HB1.out.alloc (Below.size HB1.out) (.cells row 5))
                  obtain ⟨W2, hW2⟩ : ∃ W2, W2 = w1.alloc (.cells row 5) := ⟨_, rfl⟩
                  rw [← hW2] at hcv HB2
                  have hmk1 := hmk w1
                  rw [← hW2] at hmk1
                  clear hW2 hmk HB1
                  have HX := Lib.hid (Box.new W2 (.int .i64 pg) (.int .i64 a) (.string z))
                  have HB3 := Lib.hid (HB2.out.alloc (Below.size HB2.out) (.cells #[.int .i64 pg, .int .i64 a, .string z] 26))
                  go_wp2_with fail
                  generalize W2.alloc (.cells #[.int .i64 pg, .int .i64 a, .string z] 26) = X at *
                  obtain ⟨x0, x1, x2⟩ := HX.out.cells
                  have X0 := fun r (h : Held X r) => h.cell x0
                  have X1 := fun r (h : Held X r) => h.cell x1
                  have X2 := fun r (h : Held X r) => h.cell x2
                  clear x0 x1 x2
                  go_region_held3 (fun w' => Held X w') (first | exact Held.start _ | exact Held.step (by assumption) (by assumption) | assumption) (first
                    | (go_at_call 10; refine (PX.out _).mono ?_; rintro e u ⟨rfl, hb⟩)
                    | (go_at_call 14; refine (AP.out _).mono ?_; rintro e u ⟨rfl, hb⟩))
                  have hU := ‹Held X u›
                  have HX2 := Lib.hid (HX.out.kept hU)
                  have HB5 := Lib.hid (HB3.out.trans (Below.mono hU HB3.out.size))
                  clear X0 X1 X2 hU HX HB3
                  obtain ⟨x0, x1, x2⟩ := HX2.out.cells
                  go_wp2_with fail
                  refine (RI.out _).mono ?_; rintro e w6 ⟨rfl, hb⟩
                  have HB6 := Lib.hid (HB5.out.trans (hb.mono HB5.out.size))
                  clear hb
                  go_wp2_with fail
                  go_ret
                  exact ⟨rfl, HB6.out⟩
            · have q3 : ¬ a < 256 := by omega
              as_aux_lemma =>
                rw [show okP ⟨pg, a, str (zs n)⟩ = false from okP_no.2 (fun h => d3 (by have h1 := h.1; have h2 := h.2.1; have h3 := h.2.2.1; have h4 := h.2.2.2; dsimp only at h1 h2 h3 h4; rw [hzs] at h3 h4; omega))] at RI AP
                obtain ⟨i0, hi, hz0, hz1, hz2⟩ := info_parts info_u8
                have hmk := fun w : World => run_make (P := Try.prog) w 39 5 i0 _ Try.underlying39 hi hz0 .i64 .i64 (n : Int) (n : Int) (by omega) (Int.le_refl _) (by rw [hz2]; omega) (by omega)
                rw [hz1] at hmk
                simp only [Int.toNat_natCast, Value.cells, Nat.mul_one] at hmk
                have HCV := Lib.hid (fun w => convert_zeros w n)
                unfold zRow at HCV
                obtain ⟨row, hrow⟩ : ∃ row, row = madeCells #[Value.int .u8 0] n := ⟨_, rfl⟩
                rw [← hrow] at hmk HCV
                clear hi hz0 hz1 hz2 hrow hzs
                generalize str px = PXS at *
                generalize str (zs n) = z at *
                have HB0 := Lib.hid (Below.refl w.heap.size w)
                have AL := Lib.hid alive_yes
                go_enter Try.func8, Try.ntmps8
                go_wp2_with fail
                refine (AL.out _).mono ?_; rintro e w1 ⟨rfl, hb⟩
                have HB1 := Lib.hid (HB0.out.trans (hb.mono (Below.size HB0.out)))
                clear hb HB0 
                have hcv := HCV.out w1
                have HB2 := Lib.hid (HB1.out.alloc (Below.size HB1.out) (.cells row 5))
                obtain ⟨W2, hW2⟩ : ∃ W2, W2 = w1.alloc (.cells row 5) := ⟨_, rfl⟩
                rw [← hW2] at hcv HB2
                have hmk1 := hmk w1
                rw [← hW2] at hmk1
                clear hW2 hmk HB1
                have HX := Lib.hid (Box.new W2 (.int .i64 pg) (.int .i64 a) (.string z))
                have HB3 := Lib.hid (HB2.out.alloc (Below.size HB2.out) (.cells #[.int .i64 pg, .int .i64 a, .string z] 26))
                go_wp2_with fail
                generalize W2.alloc (.cells #[.int .i64 pg, .int .i64 a, .string z] 26) = X at *
                obtain ⟨x0, x1, x2⟩ := HX.out.cells
                have X0 := fun r (h : Held X r) => h.cell x0
                have X1 := fun r (h : Held X r) => h.cell x1
                have X2 := fun r (h : Held X r) => h.cell x2
                clear x0 x1 x2
                go_region_held3 (fun w' => Held X w') (first | exact Held.start _ | exact Held.step (by assumption) (by assumption) | assumption) (first
                  | (go_at_call 10; refine (PX.out _).mono ?_; rintro e u ⟨rfl, hb⟩)
                  | (go_at_call 14; refine (AP.out _).mono ?_; rintro e u ⟨rfl, hb⟩))
                have hU := ‹Held X u›
                have HX2 := Lib.hid (HX.out.kept hU)
                have HB5 := Lib.hid (HB3.out.trans (Below.mono hU HB3.out.size))
                clear X0 X1 X2 hU HX HB3
                obtain ⟨x0, x1, x2⟩ := HX2.out.cells
                go_wp2_with fail
                refine (RI.out _).mono ?_; rintro e w6 ⟨rfl, hb⟩
                have HB6 := Lib.hid (HB5.out.trans (hb.mono HB5.out.size))
                clear hb
                go_wp2_with fail
                go_ret
                exact ⟨rfl, HB6.out⟩
          · as_aux_lemma =>
              rw [show okP ⟨pg, a, str (zs n)⟩ = false from okP_no.2 (fun h => d2 (by have h1 := h.1; have h2 := h.2.1; have h3 := h.2.2.1; have h4 := h.2.2.2; dsimp only at h1 h2 h3 h4; rw [hzs] at h3 h4; omega))] at RI AP
              obtain ⟨i0, hi, hz0, hz1, hz2⟩ := info_parts info_u8
              have hmk := fun w : World => run_make (P := Try.prog) w 39 5 i0 _ Try.underlying39 hi hz0 .i64 .i64 (n : Int) (n : Int) (by omega) (Int.le_refl _) (by rw [hz2]; omega) (by omega)
              rw [hz1] at hmk
              simp only [Int.toNat_natCast, Value.cells, Nat.mul_one] at hmk
              have HCV := Lib.hid (fun w => convert_zeros w n)
              unfold zRow at HCV
              obtain ⟨row, hrow⟩ : ∃ row, row = madeCells #[Value.int .u8 0] n := ⟨_, rfl⟩
              rw [← hrow] at hmk HCV
              clear hi hz0 hz1 hz2 hrow hzs
              generalize str px = PXS at *
              generalize str (zs n) = z at *
              have HB0 := Lib.hid (Below.refl w.heap.size w)
              have AL := Lib.hid alive_yes
              go_enter Try.func8, Try.ntmps8
              go_wp2_with fail
              refine (AL.out _).mono ?_; rintro e w1 ⟨rfl, hb⟩
              have HB1 := Lib.hid (HB0.out.trans (hb.mono (Below.size HB0.out)))
              clear hb HB0 
              have hcv := HCV.out w1
              have HB2 := Lib.hid (HB1.out.alloc (Below.size HB1.out) (.cells row 5))
              obtain ⟨W2, hW2⟩ : ∃ W2, W2 = w1.alloc (.cells row 5) := ⟨_, rfl⟩
              rw [← hW2] at hcv HB2
              have hmk1 := hmk w1
              rw [← hW2] at hmk1
              clear hW2 hmk HB1
              have HX := Lib.hid (Box.new W2 (.int .i64 pg) (.int .i64 a) (.string z))
              have HB3 := Lib.hid (HB2.out.alloc (Below.size HB2.out) (.cells #[.int .i64 pg, .int .i64 a, .string z] 26))
              go_wp2_with fail
              generalize W2.alloc (.cells #[.int .i64 pg, .int .i64 a, .string z] 26) = X at *
              obtain ⟨x0, x1, x2⟩ := HX.out.cells
              have X0 := fun r (h : Held X r) => h.cell x0
              have X1 := fun r (h : Held X r) => h.cell x1
              have X2 := fun r (h : Held X r) => h.cell x2
              clear x0 x1 x2
              go_region_held3 (fun w' => Held X w') (first | exact Held.start _ | exact Held.step (by assumption) (by assumption) | assumption) (first
                | (go_at_call 10; refine (PX.out _).mono ?_; rintro e u ⟨rfl, hb⟩)
                | (go_at_call 14; refine (AP.out _).mono ?_; rintro e u ⟨rfl, hb⟩))
              have hU := ‹Held X u›
              have HX2 := Lib.hid (HX.out.kept hU)
              have HB5 := Lib.hid (HB3.out.trans (Below.mono hU HB3.out.size))
              clear X0 X1 X2 hU HX HB3
              obtain ⟨x0, x1, x2⟩ := HX2.out.cells
              go_wp2_with fail
              refine (RI.out _).mono ?_; rintro e w6 ⟨rfl, hb⟩
              have HB6 := Lib.hid (HB5.out.trans (hb.mono HB5.out.size))
              clear hb
              go_wp2_with fail
              go_ret
              exact ⟨rfl, HB6.out⟩
        · have q1 : ¬ pg < 64 := by omega
          as_aux_lemma =>
            rw [show okP ⟨pg, a, str (zs n)⟩ = false from okP_no.2 (fun h => d1 (by have h1 := h.1; have h2 := h.2.1; have h3 := h.2.2.1; have h4 := h.2.2.2; dsimp only at h1 h2 h3 h4; rw [hzs] at h3 h4; omega))] at RI AP
            obtain ⟨i0, hi, hz0, hz1, hz2⟩ := info_parts info_u8
            have hmk := fun w : World => run_make (P := Try.prog) w 39 5 i0 _ Try.underlying39 hi hz0 .i64 .i64 (n : Int) (n : Int) (by omega) (Int.le_refl _) (by rw [hz2]; omega) (by omega)
            rw [hz1] at hmk
            simp only [Int.toNat_natCast, Value.cells, Nat.mul_one] at hmk
            have HCV := Lib.hid (fun w => convert_zeros w n)
            unfold zRow at HCV
            obtain ⟨row, hrow⟩ : ∃ row, row = madeCells #[Value.int .u8 0] n := ⟨_, rfl⟩
            rw [← hrow] at hmk HCV
            clear hi hz0 hz1 hz2 hrow hzs
            generalize str px = PXS at *
            generalize str (zs n) = z at *
            have HB0 := Lib.hid (Below.refl w.heap.size w)
            have AL := Lib.hid alive_yes
            go_enter Try.func8, Try.ntmps8
            go_wp2_with fail
            refine (AL.out _).mono ?_; rintro e w1 ⟨rfl, hb⟩
            have HB1 := Lib.hid (HB0.out.trans (hb.mono (Below.size HB0.out)))
            clear hb HB0 
            have hcv := HCV.out w1
            have HB2 := Lib.hid (HB1.out.alloc (Below.size HB1.out) (.cells row 5))
            obtain ⟨W2, hW2⟩ : ∃ W2, W2 = w1.alloc (.cells row 5) := ⟨_, rfl⟩
            rw [← hW2] at hcv HB2
            have hmk1 := hmk w1
            rw [← hW2] at hmk1
            clear hW2 hmk HB1
            have HX := Lib.hid (Box.new W2 (.int .i64 pg) (.int .i64 a) (.string z))
            have HB3 := Lib.hid (HB2.out.alloc (Below.size HB2.out) (.cells #[.int .i64 pg, .int .i64 a, .string z] 26))
            go_wp2_with fail
            generalize W2.alloc (.cells #[.int .i64 pg, .int .i64 a, .string z] 26) = X at *
            obtain ⟨x0, x1, x2⟩ := HX.out.cells
            have X0 := fun r (h : Held X r) => h.cell x0
            have X1 := fun r (h : Held X r) => h.cell x1
            have X2 := fun r (h : Held X r) => h.cell x2
            clear x0 x1 x2
            go_region_held3 (fun w' => Held X w') (first | exact Held.start _ | exact Held.step (by assumption) (by assumption) | assumption) (first
              | (go_at_call 10; refine (PX.out _).mono ?_; rintro e u ⟨rfl, hb⟩)
              | (go_at_call 14; refine (AP.out _).mono ?_; rintro e u ⟨rfl, hb⟩))
            have hU := ‹Held X u›
            have HX2 := Lib.hid (HX.out.kept hU)
            have HB5 := Lib.hid (HB3.out.trans (Below.mono hU HB3.out.size))
            clear X0 X1 X2 hU HX HB3
            obtain ⟨x0, x1, x2⟩ := HX2.out.cells
            go_wp2_with fail
            refine (RI.out _).mono ?_; rintro e w6 ⟨rfl, hb⟩
            have HB6 := Lib.hid (HB5.out.trans (hb.mono HB5.out.size))
            clear hb
            go_wp2_with fail
            go_ret
            exact ⟨rfl, HB6.out⟩
      · as_aux_lemma =>
          rw [show okP ⟨pg, a, str (zs n)⟩ = false from okP_no.2 (fun h => d0 (by have h1 := h.1; have h2 := h.2.1; have h3 := h.2.2.1; have h4 := h.2.2.2; dsimp only at h1 h2 h3 h4; rw [hzs] at h3 h4; omega))] at RI AP
          obtain ⟨i0, hi, hz0, hz1, hz2⟩ := info_parts info_u8
          have hmk := fun w : World => run_make (P := Try.prog) w 39 5 i0 _ Try.underlying39 hi hz0 .i64 .i64 (n : Int) (n : Int) (by omega) (Int.le_refl _) (by rw [hz2]; omega) (by omega)
          rw [hz1] at hmk
          simp only [Int.toNat_natCast, Value.cells, Nat.mul_one] at hmk
          have HCV := Lib.hid (fun w => convert_zeros w n)
          unfold zRow at HCV
          obtain ⟨row, hrow⟩ : ∃ row, row = madeCells #[Value.int .u8 0] n := ⟨_, rfl⟩
          rw [← hrow] at hmk HCV
          clear hi hz0 hz1 hz2 hrow hzs
          generalize str px = PXS at *
          generalize str (zs n) = z at *
          have HB0 := Lib.hid (Below.refl w.heap.size w)
          have AL := Lib.hid alive_yes
          go_enter Try.func8, Try.ntmps8
          go_wp2_with fail
          refine (AL.out _).mono ?_; rintro e w1 ⟨rfl, hb⟩
          have HB1 := Lib.hid (HB0.out.trans (hb.mono (Below.size HB0.out)))
          clear hb HB0 
          have hcv := HCV.out w1
          have HB2 := Lib.hid (HB1.out.alloc (Below.size HB1.out) (.cells row 5))
          obtain ⟨W2, hW2⟩ : ∃ W2, W2 = w1.alloc (.cells row 5) := ⟨_, rfl⟩
          rw [← hW2] at hcv HB2
          have hmk1 := hmk w1
          rw [← hW2] at hmk1
          clear hW2 hmk HB1
          have HX := Lib.hid (Box.new W2 (.int .i64 pg) (.int .i64 a) (.string z))
          have HB3 := Lib.hid (HB2.out.alloc (Below.size HB2.out) (.cells #[.int .i64 pg, .int .i64 a, .string z] 26))
          go_wp2_with fail
          generalize W2.alloc (.cells #[.int .i64 pg, .int .i64 a, .string z] 26) = X at *
          obtain ⟨x0, x1, x2⟩ := HX.out.cells
          have X0 := fun r (h : Held X r) => h.cell x0
          have X1 := fun r (h : Held X r) => h.cell x1
          have X2 := fun r (h : Held X r) => h.cell x2
          clear x0 x1 x2
          go_region_held3 (fun w' => Held X w') (first | exact Held.start _ | exact Held.step (by assumption) (by assumption) | assumption) (first
            | (go_at_call 10; refine (PX.out _).mono ?_; rintro e u ⟨rfl, hb⟩)
            | (go_at_call 14; refine (AP.out _).mono ?_; rintro e u ⟨rfl, hb⟩))
          have hU := ‹Held X u›
          have HX2 := Lib.hid (HX.out.kept hU)
          have HB5 := Lib.hid (HB3.out.trans (Below.mono hU HB3.out.size))
          clear X0 X1 X2 hU HX HB3
          obtain ⟨x0, x1, x2⟩ := HX2.out.cells
          go_wp2_with fail
          refine (RI.out _).mono ?_; rintro e w6 ⟨rfl, hb⟩
          have HB6 := Lib.hid (HB5.out.trans (hb.mono HB5.out.size))
          clear hb
          go_wp2_with fail
          go_ret
          exact ⟨rfl, HB6.out⟩

/-! The row's step. -/
set_option maxRecDepth 100000 in
theorem lifted (os : Os) (started : os.Started) (H : Type) (enc : TypeId × Value → H) :
    ReturnsInHanded {} Try.checked os 8 .any (Rows.patchEdgesSpec.pre6 enc Try.prog Try.f8 Rows.patchEdgesRow.domain false) (Rows.patchEdgesSpec.post enc Try.prog Try.f8 false true false false) := by
  refine returnsInHanded_of_change (C := Try.checked) own started (by kernel_rfl) Try.func8
    (ChangeSpec.witness6 (enc := enc) (C := Try.checked) false ⟨#[], #[.int .i64 0, .int .i64 0, .int .i64 0], []⟩ 8 (by kernel_rfl) (by kernel_rfl) (by kernel_rfl) (by kernel_rfl)) ?_
  intro W base args ds gs before hval0 hW hcnd _
  have hval : ∀ (j : Nat) t v, Try.f8.params[j]? = some t → args[j]? = some v → Value.okWide Try.prog W .any base t v := hval0
  have hW' := hW
  obtain ⟨p, q, hA0, hV, rfl, hfz, hnd⟩ := hW
  have hA : DataW.TrodAll enc Try.prog W 0 (fun _ => true) true Try.f8.params.toList args.toList ds p := hA0
  rw [Try.params8] at hA hval
  obtain ⟨v0, vs0, d0, ds0, p0, q0, hargs, rfl, rfl, h0, r0⟩ := trodAll_cons hA
  obtain ⟨v1, vs1, d1, ds1, p1, q1, rfl, rfl, rfl, h1, r1⟩ := trodAll_cons r0
  obtain ⟨v2, vs2, d2, ds2, p2, q2, rfl, rfl, rfl, h2, r2⟩ := trodAll_cons r1
  obtain ⟨rfl, rfl, rfl⟩ := trodAll_nil r2
  obtain rfl : args = #[v0, v1, v2] := by cases args; simp_all
  obtain ⟨rfl, rfl⟩ := trodVars_none hV
  obtain ⟨a0, rfl, rfl, rfl, w0⟩ := open_int Try.underlying3 (hval 0 3 v0 rfl rfl) h0
  obtain ⟨a1, rfl, rfl, rfl, w1⟩ := open_int Try.underlying3 (hval 1 3 v1 rfl rfl) h1
  obtain ⟨a2, rfl, rfl, rfl, w2⟩ := open_int Try.underlying3 (hval 2 3 v2 rfl rfl) h2
  clear hA0 hval0
  refine (walk a0 a1 a2 W w0 w1 w2).mono fun e W' ⟨he, bel⟩ => ?_
  subst he
  exact ⟨_, rfl, _, _, _, [], _, [], hW', trodAll_mk1 (shut_bool Try.underlying4 _), (trodAll_cons_mk (shut_int Try.underlying3 w0) (trodAll_cons_mk (shut_int Try.underlying3 w1) (trodAll_cons_mk (shut_int Try.underlying3 w2) trodAll_mk0))), rfl, bel.frame _, fun h => by cases h⟩

theorem over : Rows.patchEdgesRow.holds Try.pinned (OpenSpec.ofChange Rows.patchEdgesSpec) :=
  OpenClaim.holds_of_wide 8 Try.f8 rfl rfl rfl rfl rfl rfl rfl ⟨rfl, rfl, rfl, rfl, rfl⟩ rfl rfl rfl rfl rfl (by kernel_rfl) Try.func8 (by kernel_rfl)
    (of_decide_eq_true (by kernel_rfl)) (by unfold Func.isWrapper; first | (rw [if_pos (by decide +kernel)]; kernel_rfl) | (rw [if_neg (by decide +kernel)]; exact ⟨rfl, rfl⟩))
    (fun os started H enc _ => lifted os started H enc)

/-- The statement. -/
theorem proved : Rows.PatchEdgesSaid := over
end Go.Proofs.Ytkopgohmocjbbaa.patchEdges
