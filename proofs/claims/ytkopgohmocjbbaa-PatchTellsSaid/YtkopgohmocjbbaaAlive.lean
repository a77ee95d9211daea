/- The laws' first call 'alive'. -/
import Derived.Test.YtkopgohmocjbbaaRef
namespace Go.Proofs.Ytkopgohmocjbbaa
open Go.ChangeShapes Go.WideShapes Go.ChangeAt Go.RowKit
set_option linter.unusedVariables false
set_option linter.unusedSimpArgs false
def pA : BA := pageOf [97, 98, 99, 100, 101, 102]
def pB : BA := pageOf [97, 98, 88, 100, 89, 102]
def aP : Pt := ⟨2, 2, ⟨#[88, 100, 89]⟩⟩
theorem lo_ab : lo pA pB = 2 := by decide +kernel
theorem hi_ab : hi pA pB = 5 := by decide +kernel
theorem sub_ab : (pB.drop 2).take 3 = [88, 100, 89] := by decide +kernel
theorem ne_ab : pA ≠ pB := by decide +kernel
theorem dif_ab : dif 2 pA pB = aP := by
  unfold dif
  rw [lo_ab, hi_ab, sub_ab]
  rfl
theorem over_ab : over pA aP = pB := by
  rw [← dif_ab]
  exact over_dif (by omega) (pageOf_length _) (pageOf_length _) ne_ab
theorem page_a (w : World) : Calls Try.prog 10 #[.string ⟨#[97, 98, 99, 100, 101, 102]⟩] w fun e w' => e = .returned (.string (str pA)) ∧ Below w.heap.size w w' := page_any ⟨#[97, 98, 99, 100, 101, 102]⟩ (by unfold maxLen; decide) w
theorem page_b (w : World) : Calls Try.prog 10 #[.string ⟨#[97, 98, 88, 100, 89, 102]⟩] w fun e w' => e = .returned (.string (str pB)) ∧ Below w.heap.size w w' := page_any ⟨#[97, 98, 88, 100, 89, 102]⟩ (by unfold maxLen; decide) w
theorem str_max (b : BA) (h : b.length = 256) : (str b).size ≤ maxLen := by rw [str_size, h]; unfold maxLen; omega
theorem diff_ab (w : World) : Calls Try.prog 11 #[.int .i64 2, .string (str pA), .string (str pB)] w fun e w' => e = .returned (.tuple #[.agg #[.int .i64 2, .int .i64 2, .string ⟨#[88, 100, 89]⟩], .bool true]) ∧ Below w.heap.size w w' := by
  have h := diff_any 2 (str pA) (str pB) (str_max _ (pageOf_length _)) (str_max _ (pageOf_length _)) w
  have ho : okD 2 pA pB = true := decide_eq_true ⟨by omega, pageOf_length _, pageOf_length _, ne_ab⟩
  rw [str_toList, str_toList, ho, show difS 2 pA pB = aP by unfold difS; rw [ho]; exact dif_ab] at h
  exact h
theorem apply_ab (w : World) : Calls Try.prog 14 #[.string (str pA), .agg #[.int .i64 2, .int .i64 2, .string ⟨#[88, 100, 89]⟩]] w fun e w' => e = .returned (.tuple #[.string (str pB), .bool true]) ∧ Below w.heap.size w w' := by
  have h := apply_any 2 2 ⟨#[88, 100, 89]⟩ (str pA) (by unfold maxLen; decide) (str_max _ (pageOf_length _)) w
  have ho : applyOk pA aP = true := by unfold applyOk; rw [decide_eq_true (show pA.length = 256 from pageOf_length _)]; decide
  rw [str_toList] at h
  change Calls _ _ _ _ (fun e w' => e = .returned (.tuple #[.string (str (applyS pA aP)), .bool (applyOk pA aP)]) ∧ _) at h
  rw [ho, show applyS pA aP = pB by unfold applyS; rw [ho]; exact over_ab] at h
  exact h
set_option maxHeartbeats 4000000 in
theorem alive_yes (w : World) : Calls Try.prog 9 #[] w fun e w' => e = .returned (.bool true) ∧ Below w.heap.size w w' := by
  have PA := Lib.hid page_a
  have PB := Lib.hid page_b
  have DI := Lib.hid diff_ab
  have AP := Lib.hid apply_ab
  generalize str pA = SA at *
  generalize str pB = SB at *
  have hse : (SB.toList == SB.toList) = true := by simp
  go_enter Try.func9, Try.ntmps9
  go_wp2_with fail
  refine (PA.out _).mono ?_; rintro e w1 ⟨rfl, hb⟩
  have HB1 := Lib.hid hb
  clear hb
  go_wp2_with fail
  refine (PB.out _).mono ?_; rintro e w2 ⟨rfl, hb⟩
  have HB2 := Lib.hid (HB1.out.trans (hb.mono HB1.out.size))
  clear hb HB1
  go_wp2_with fail
  refine (DI.out _).mono ?_; rintro e w3 ⟨rfl, hb⟩
  have HB3 := Lib.hid (HB2.out.trans (hb.mono HB2.out.size))
  clear hb HB2
  have HX := Lib.hid (Box.new w3 (.int .i64 2) (.int .i64 2) (.string ⟨#[88, 100, 89]⟩))
  have HB4 := Lib.hid (HB3.out.alloc HB3.out.size (.cells #[.int .i64 2, .int .i64 2, .string ⟨#[88, 100, 89]⟩] 26))
  go_wp2_with fail
  generalize w3.alloc (.cells #[.int .i64 2, .int .i64 2, .string ⟨#[88, 100, 89]⟩] 26) = X at *
  obtain ⟨x0, x1, x2⟩ := HX.out.cells
  have X0 := fun r (h : Held X r) => h.cell x0
  have X1 := fun r (h : Held X r) => h.cell x1
  have X2 := fun r (h : Held X r) => h.cell x2
  clear x0 x1 x2
  go_region_held3 (fun w' => Held X w') (first | exact Held.start _ | exact Held.step (by assumption) (by assumption) | assumption) (first
    | (go_at_call 10; refine (PA.out _).mono ?_; rintro e u ⟨rfl, hb⟩)
    | (go_at_call 14; refine (AP.out _).mono ?_; rintro e u ⟨rfl, hb⟩))
  have hU := ‹Held X u›
  have HX2 := Lib.hid (HX.out.kept hU)
  have HB5 := Lib.hid (HB4.out.trans (Below.mono hU HB4.out.size))
  clear X0 X1 X2 hU HX HB4
  obtain ⟨x0, x1, x2⟩ := HX2.out.cells
  go_wp2_with fail
  refine (PB.out _).mono ?_; rintro e w6 ⟨rfl, hb⟩
  have HB6 := Lib.hid (HB5.out.trans (hb.mono HB5.out.size))
  clear hb
  go_wp2_with fail
  go_ret
  exact ⟨rfl, HB6.out⟩
end Go.Proofs.Ytkopgohmocjbbaa
