/- For every list of things that are written the law PackTells returns true: numbers and texts stand as bytes one behind the other, read back they are these, and one that may not be is told; nothing else is assumed. -/
import Derived.Test.YtfggdcebeopidaaRows
import Derived.Test.YtfggdcebeopidaaOps
import Derived.Lib.Hide
import Derived.WalkLawsBesides
import Derived.WalkSpells
import Derived.WalkKit
import Derived.ProofKit
import Derived.OpenShut
import Derived.ShutString
import Derived.SliceStrings
import Derived.Deep.Slices
import Derived.Deep.Fields
import Derived.Deep.RegionWith
import Derived.ChangeSame
import Derived.SizedLaws
import Derived.Carry
namespace Go.Proofs.Ytfggdcebeopidaa.packTells
open Go.ChangeShapes Go.WideShapes Go.ChangeAt Go.RowKit
open Go.ChangeMaps (open_string shut_string)
set_option linter.unusedVariables false

theorem own : ownKnob Try.prog.godebug = none := by kernel_rfl
theorem laidOut : laidOutB Try.prog = true := by kernel_rfl


set_option maxRecDepth 100000 in
set_option maxHeartbeats 20000000 in
theorem walk (A : Option Addr) (len cap : Nat) (l : List O) (w : World) (hs : Ops w A len l) (hm : len ≤ maxLen) :
    Calls Try.prog 3 #[.slice A len cap] w fun e w' => e = .returned (.bool true) ∧ Below w.heap.size w w' := by
  unfold maxLen at hm
  have Hs := Lib.hid hs
  clear hs
  by_cases h1 : len ≤ 40
  · have n1 : ¬ 40 < len := by omega
    go_enter Try.func3, Try.ntmps3
    go_wp2_with fail
    refine (alive_yes _).mono ?_; rintro e w1 ⟨rfl, hb1⟩
    have B1 := Lib.hid hb1
    clear hb1
    go_wp2_with fail
    have hg1 : w.heap.size ≤ w1.heap.size := B1.out.size
    go_loopw [4, 5, 7, 8, 9, 10, 32] (fun t g _ _ _ _ i wr => ∃ (k : Nat) (wt : ByteArray), k ≤ len ∧ i = .int .i64 k ∧ t = .string wt ∧ g = .bool (!(st (l.take k)).2) ∧ Told l k w1.heap.size w w1 wr wt) (fun _ _ _ _ _ _ i _ => len - (intOf i).toNat)
    case atStart => exact ⟨0, _, Nat.zero_le _, rfl, rfl, rfl, by simp, Wr.new _ w1 (by omega), B1.out.alloc B1.out.size _, by simp, fun _ => rfl, by decide, by simp [st]⟩
    case round =>
      obtain ⟨k, wt, hk, rfl, rfl, rfl, hq⟩ := hrel
      have Hq := Lib.hid hq
      clear hq
      by_cases hlt : k < len
      · have hkl : k < l.length := by rw [Hs.out.1]; exact hlt
        obtain ⟨b, off, rfl, hbw, hce0, hce1, hce2, hn1, hn2, hsz⟩ := Hs.out.2 k hlt
        have hc0 := (Hq.out.2.2.1.cell (p := ⟨b, off + k * 3, none⟩) hbw).trans hce0
        have hc1 := (Hq.out.2.2.1.cell (p := ⟨b, off + k * 3 + 1, none⟩) hbw).trans hce1
        have hc2 := (Hq.out.2.2.1.cell (p := ⟨b, off + k * 3 + 2, none⟩) hbw).trans hce2
        have HT := Lib.hid (fun X s => told_next (X := X) (s := s) Hq.out hkl)
        clear hce0 hce1 hce2
        have HW := Lib.hid Hq.out.2.1
        have HS := Lib.hid (st_take l k hkl)
        have hL := Hq.out.2.2.2.2.2.2
        have hwt := Hq.out.2.2.2.2.2.1
        have hgr := Hq.out.2.2.2.1
        have HB := Lib.hid Hq.out.2.2.1
        generalize l.getD k o0 = o at *
        generalize st (l.take k) = a at *
        obtain ⟨L, bd⟩ := a
        simp only at hL
        obtain ⟨kd, n, s⟩ := o
        simp only at hc0 hc1 hc2 hn1 hn2 hsz
        unfold maxLen at hsz
        by_cases h2 : s.size ≤ 300
        · have n2 : ¬ 300 < s.size := by omega
          by_cases k1 : kd = 1
          · subst k1
            cases bd
            · by_cases hin : 0 ≤ n ∧ n ≤ 65535
              · have HI := Lib.hid hin
                clear hin
                go_wp2_with fail
                refine (num_any w.heap.size _ n L false _ hn1 hn2 (by omega) (Wr_more HW.out _)).mono ?_; rintro e X1 ⟨rfl, hx1⟩
                have H1 := Lib.hid hx1
                have hbox := hx1.2.typed wr.heap.size _ 29 _ (by omega) (by decide) (heap_alloc_new wr (.cells #[.int .i64 1, .int .i64 n, .string s] 29))
                have hk1 : X1.cell? ⟨wr.heap.size, 1, none⟩ = some (.int .i64 n) := cell_of_row X1 wr.heap.size 1 _ _ _ hbox
                have hk2 : X1.cell? ⟨wr.heap.size, 2, none⟩ = some (.string s) := cell_of_row X1 wr.heap.size 2 _ _ _ hbox
                clear hx1 hbox
                go_wp2_with fail
                refine (big2_in n _ hn1 hn2 HI.out.1 HI.out.2).mono ?_; rintro e X2 ⟨rfl, hx2⟩
                have H2 := Lib.hid hx2
                clear hx2
                rw [w2_bI n HI.out.1]
                have hsz2 : (str (w2 n)).size = 2 := rfl
                have HE : Hid (str (w2 n) = str (enc1 ⟨1, n, s⟩)) := Lib.hid rfl
                generalize str (w2 n) = t at *
                have hnp := neq_same w1.heap.size
                go_wp2_with fail
                go_roundw
                case rel =>
                  refine ⟨k + 1, _, by omega, by go_num, rfl, by rw [HS.out, step1]; simp only [after_in0 HI.out]; rfl, HT.out X2 t h2 (by rw [step1]; exact Wr_below H1.out.1 H2.out) ?_ ?_ (fun _ => HE.out) (by omega)⟩
                  · exact ((HB.out.alloc HB.out.size _).trans (H1.out.2.below hg1)).trans (H2.out.mono (by have h1 := HB.out.size; have h3 := H1.out.2.size; simp at h3; omega))
                  · have h3 := H1.out.2.size
                    have h4 := H2.out.size
                    simp at h3; omega
                case measure => simp [intOf]; omega
              · have HI := Lib.hid hin
                clear hin
                go_wp2_with fail
                refine (num_any w.heap.size _ n L false _ hn1 hn2 (by omega) (Wr_more HW.out _)).mono ?_; rintro e X1 ⟨rfl, hx1⟩
                have H1 := Lib.hid hx1
                have hbox := hx1.2.typed wr.heap.size _ 29 _ (by omega) (by decide) (heap_alloc_new wr (.cells #[.int .i64 1, .int .i64 n, .string s] 29))
                have hk1 : X1.cell? ⟨wr.heap.size, 1, none⟩ = some (.int .i64 n) := cell_of_row X1 wr.heap.size 1 _ _ _ hbox
                have hk2 : X1.cell? ⟨wr.heap.size, 2, none⟩ = some (.string s) := cell_of_row X1 wr.heap.size 2 _ _ _ hbox
                clear hx1 hbox
                go_wp2_with fail
                refine (big2_out n _ hn1 hn2 (by have := HI.out; omega)).mono ?_; rintro e X2 ⟨rfl, hx2⟩
                have H2 := Lib.hid hx2
                clear hx2
                have hsz2 : (str [bI (n / 256), bI n]).size = 2 := rfl
                generalize str [bI (n / 256), bI n] = t at *
                have hnp := neq_same w1.heap.size
                go_wp2_with fail
                go_roundw
                case rel =>
                  refine ⟨k + 1, _, by omega, by go_num, rfl, by rw [HS.out, step1]; simp only [after_out HI.out]; rfl, HT.out X2 t h2 (by rw [step1]; exact Wr_below H1.out.1 H2.out) ?_ ?_ (fun h => by rw [step1] at h; simp only [after_out HI.out] at h; cases h) (by omega)⟩
                  · exact ((HB.out.alloc HB.out.size _).trans (H1.out.2.below hg1)).trans (H2.out.mono (by have h1 := HB.out.size; have h3 := H1.out.2.size; simp at h3; omega))
                  · have h3 := H1.out.2.size
                    have h4 := H2.out.size
                    simp at h3; omega
                case measure => simp [intOf]; omega
            · by_cases hin : 0 ≤ n ∧ n ≤ 65535
              · have HI := Lib.hid hin
                clear hin
                go_wp2_with fail
                refine (num_any w.heap.size _ n L true _ hn1 hn2 (by omega) (Wr_more HW.out _)).mono ?_; rintro e X1 ⟨rfl, hx1⟩
                have H1 := Lib.hid hx1
                have hbox := hx1.2.typed wr.heap.size _ 29 _ (by omega) (by decide) (heap_alloc_new wr (.cells #[.int .i64 1, .int .i64 n, .string s] 29))
                have hk1 : X1.cell? ⟨wr.heap.size, 1, none⟩ = some (.int .i64 n) := cell_of_row X1 wr.heap.size 1 _ _ _ hbox
                have hk2 : X1.cell? ⟨wr.heap.size, 2, none⟩ = some (.string s) := cell_of_row X1 wr.heap.size 2 _ _ _ hbox
                clear hx1 hbox
                go_wp2_with fail
                refine (big2_in n _ hn1 hn2 HI.out.1 HI.out.2).mono ?_; rintro e X2 ⟨rfl, hx2⟩
                have H2 := Lib.hid hx2
                clear hx2
                rw [w2_bI n HI.out.1]
                have hsz2 : (str (w2 n)).size = 2 := rfl
                have HE : Hid (str (w2 n) = str (enc1 ⟨1, n, s⟩)) := Lib.hid rfl
                generalize str (w2 n) = t at *
                have hnp := neq_same w1.heap.size
                go_wp2_with fail
                go_roundw
                case rel =>
                  refine ⟨k + 1, _, by omega, by go_num, rfl, by rw [HS.out, step1]; simp only [after_in1]; rfl, HT.out X2 t h2 (by rw [step1]; exact Wr_below H1.out.1 H2.out) ?_ ?_ (fun h => by rw [step1] at h; simp only [after_in1] at h; cases h) (by omega)⟩
                  · exact ((HB.out.alloc HB.out.size _).trans (H1.out.2.below hg1)).trans (H2.out.mono (by have h1 := HB.out.size; have h3 := H1.out.2.size; simp at h3; omega))
                  · have h3 := H1.out.2.size
                    have h4 := H2.out.size
                    simp at h3; omega
                case measure => simp [intOf]; omega
              · have HI := Lib.hid hin
                clear hin
                go_wp2_with fail
                refine (num_any w.heap.size _ n L true _ hn1 hn2 (by omega) (Wr_more HW.out _)).mono ?_; rintro e X1 ⟨rfl, hx1⟩
                have H1 := Lib.hid hx1
                have hbox := hx1.2.typed wr.heap.size _ 29 _ (by omega) (by decide) (heap_alloc_new wr (.cells #[.int .i64 1, .int .i64 n, .string s] 29))
                have hk1 : X1.cell? ⟨wr.heap.size, 1, none⟩ = some (.int .i64 n) := cell_of_row X1 wr.heap.size 1 _ _ _ hbox
                have hk2 : X1.cell? ⟨wr.heap.size, 2, none⟩ = some (.string s) := cell_of_row X1 wr.heap.size 2 _ _ _ hbox
                clear hx1 hbox
                go_wp2_with fail
                refine (big2_out n _ hn1 hn2 (by have := HI.out; omega)).mono ?_; rintro e X2 ⟨rfl, hx2⟩
                have H2 := Lib.hid hx2
                clear hx2
                have hsz2 : (str [bI (n / 256), bI n]).size = 2 := rfl
                generalize str [bI (n / 256), bI n] = t at *
                have hnp := neq_same w1.heap.size
                go_wp2_with fail
                go_roundw
                case rel =>
                  refine ⟨k + 1, _, by omega, by go_num, rfl, by rw [HS.out, step1]; simp only [after_in1]; rfl, HT.out X2 t h2 (by rw [step1]; exact Wr_below H1.out.1 H2.out) ?_ ?_ (fun h => by rw [step1] at h; simp only [after_in1] at h; cases h) (by omega)⟩
                  · exact ((HB.out.alloc HB.out.size _).trans (H1.out.2.below hg1)).trans (H2.out.mono (by have h1 := HB.out.size; have h3 := H1.out.2.size; simp at h3; omega))
                  · have h3 := H1.out.2.size
                    have h4 := H2.out.size
                    simp at h3; omega
                case measure => simp [intOf]; omega
          · by_cases k2 : kd = 2
            · subst k2
              clear k1
              cases bd
              · by_cases hin : 0 ≤ n ∧ n ≤ 4294967295
                · have HI := Lib.hid hin
                  clear hin
                  go_wp2_with fail
                  refine (long_any w.heap.size _ n L false _ hn1 hn2 (by omega) (Wr_more HW.out _)).mono ?_; rintro e X1 ⟨rfl, hx1⟩
                  have H1 := Lib.hid hx1
                  have hbox := hx1.2.typed wr.heap.size _ 29 _ (by omega) (by decide) (heap_alloc_new wr (.cells #[.int .i64 2, .int .i64 n, .string s] 29))
                  have hk1 : X1.cell? ⟨wr.heap.size, 1, none⟩ = some (.int .i64 n) := cell_of_row X1 wr.heap.size 1 _ _ _ hbox
                  have hk2 : X1.cell? ⟨wr.heap.size, 2, none⟩ = some (.string s) := cell_of_row X1 wr.heap.size 2 _ _ _ hbox
                  clear hx1 hbox
                  go_wp2_with fail
                  refine (big4_in n _ hn1 hn2 HI.out.1 HI.out.2).mono ?_; rintro e X2 ⟨rfl, hx2⟩
                  have H2 := Lib.hid hx2
                  clear hx2
                  rw [w4_bI n HI.out.1]
                  have hsz2 : (str (w4 n)).size = 4 := rfl
                  have HE : Hid (str (w4 n) = str (enc1 ⟨2, n, s⟩)) := Lib.hid rfl
                  generalize str (w4 n) = t at *
                  have hnp := neq_same w1.heap.size
                  go_wp2_with fail
                  go_roundw
                  case rel =>
                    refine ⟨k + 1, _, by omega, by go_num, rfl, by rw [HS.out, step2]; simp only [after_in0 HI.out]; rfl, HT.out X2 t h2 (by rw [step2]; exact Wr_below H1.out.1 H2.out) ?_ ?_ (fun _ => HE.out) (by omega)⟩
                    · exact ((HB.out.alloc HB.out.size _).trans (H1.out.2.below hg1)).trans (H2.out.mono (by have h1 := HB.out.size; have h3 := H1.out.2.size; simp at h3; omega))
                    · have h3 := H1.out.2.size
                      have h4 := H2.out.size
                      simp at h3; omega
                  case measure => simp [intOf]; omega
                · have HI := Lib.hid hin
                  clear hin
                  go_wp2_with fail
                  refine (long_any w.heap.size _ n L false _ hn1 hn2 (by omega) (Wr_more HW.out _)).mono ?_; rintro e X1 ⟨rfl, hx1⟩
                  have H1 := Lib.hid hx1
                  have hbox := hx1.2.typed wr.heap.size _ 29 _ (by omega) (by decide) (heap_alloc_new wr (.cells #[.int .i64 2, .int .i64 n, .string s] 29))
                  have hk1 : X1.cell? ⟨wr.heap.size, 1, none⟩ = some (.int .i64 n) := cell_of_row X1 wr.heap.size 1 _ _ _ hbox
                  have hk2 : X1.cell? ⟨wr.heap.size, 2, none⟩ = some (.string s) := cell_of_row X1 wr.heap.size 2 _ _ _ hbox
                  clear hx1 hbox
                  go_wp2_with fail
                  refine (big4_out n _ hn1 hn2 (by have := HI.out; omega)).mono ?_; rintro e X2 ⟨rfl, hx2⟩
                  have H2 := Lib.hid hx2
                  clear hx2
                  have hsz2 : (str [bI (n / 256 / 256 / 256), bI (n / 256 / 256), bI (n / 256), bI n]).size = 4 := rfl
                  generalize str [bI (n / 256 / 256 / 256), bI (n / 256 / 256), bI (n / 256), bI n] = t at *
                  have hnp := neq_same w1.heap.size
                  go_wp2_with fail
                  go_roundw
                  case rel =>
                    refine ⟨k + 1, _, by omega, by go_num, rfl, by rw [HS.out, step2]; simp only [after_out HI.out]; rfl, HT.out X2 t h2 (by rw [step2]; exact Wr_below H1.out.1 H2.out) ?_ ?_ (fun h => by rw [step2] at h; simp only [after_out HI.out] at h; cases h) (by omega)⟩
                    · exact ((HB.out.alloc HB.out.size _).trans (H1.out.2.below hg1)).trans (H2.out.mono (by have h1 := HB.out.size; have h3 := H1.out.2.size; simp at h3; omega))
                    · have h3 := H1.out.2.size
                      have h4 := H2.out.size
                      simp at h3; omega
                  case measure => simp [intOf]; omega
              · by_cases hin : 0 ≤ n ∧ n ≤ 4294967295
                · have HI := Lib.hid hin
                  clear hin
                  go_wp2_with fail
                  refine (long_any w.heap.size _ n L true _ hn1 hn2 (by omega) (Wr_more HW.out _)).mono ?_; rintro e X1 ⟨rfl, hx1⟩
                  have H1 := Lib.hid hx1
                  have hbox := hx1.2.typed wr.heap.size _ 29 _ (by omega) (by decide) (heap_alloc_new wr (.cells #[.int .i64 2, .int .i64 n, .string s] 29))
                  have hk1 : X1.cell? ⟨wr.heap.size, 1, none⟩ = some (.int .i64 n) := cell_of_row X1 wr.heap.size 1 _ _ _ hbox
                  have hk2 : X1.cell? ⟨wr.heap.size, 2, none⟩ = some (.string s) := cell_of_row X1 wr.heap.size 2 _ _ _ hbox
                  clear hx1 hbox
                  go_wp2_with fail
                  refine (big4_in n _ hn1 hn2 HI.out.1 HI.out.2).mono ?_; rintro e X2 ⟨rfl, hx2⟩
                  have H2 := Lib.hid hx2
                  clear hx2
                  rw [w4_bI n HI.out.1]
                  have hsz2 : (str (w4 n)).size = 4 := rfl
                  have HE : Hid (str (w4 n) = str (enc1 ⟨2, n, s⟩)) := Lib.hid rfl
                  generalize str (w4 n) = t at *
                  have hnp := neq_same w1.heap.size
                  go_wp2_with fail
                  go_roundw
                  case rel =>
                    refine ⟨k + 1, _, by omega, by go_num, rfl, by rw [HS.out, step2]; simp only [after_in1]; rfl, HT.out X2 t h2 (by rw [step2]; exact Wr_below H1.out.1 H2.out) ?_ ?_ (fun h => by rw [step2] at h; simp only [after_in1] at h; cases h) (by omega)⟩
                    · exact ((HB.out.alloc HB.out.size _).trans (H1.out.2.below hg1)).trans (H2.out.mono (by have h1 := HB.out.size; have h3 := H1.out.2.size; simp at h3; omega))
                    · have h3 := H1.out.2.size
                      have h4 := H2.out.size
                      simp at h3; omega
                  case measure => simp [intOf]; omega
                · have HI := Lib.hid hin
                  clear hin
                  go_wp2_with fail
                  refine (long_any w.heap.size _ n L true _ hn1 hn2 (by omega) (Wr_more HW.out _)).mono ?_; rintro e X1 ⟨rfl, hx1⟩
                  have H1 := Lib.hid hx1
                  have hbox := hx1.2.typed wr.heap.size _ 29 _ (by omega) (by decide) (heap_alloc_new wr (.cells #[.int .i64 2, .int .i64 n, .string s] 29))
                  have hk1 : X1.cell? ⟨wr.heap.size, 1, none⟩ = some (.int .i64 n) := cell_of_row X1 wr.heap.size 1 _ _ _ hbox
                  have hk2 : X1.cell? ⟨wr.heap.size, 2, none⟩ = some (.string s) := cell_of_row X1 wr.heap.size 2 _ _ _ hbox
                  clear hx1 hbox
                  go_wp2_with fail
                  refine (big4_out n _ hn1 hn2 (by have := HI.out; omega)).mono ?_; rintro e X2 ⟨rfl, hx2⟩
                  have H2 := Lib.hid hx2
                  clear hx2
                  have hsz2 : (str [bI (n / 256 / 256 / 256), bI (n / 256 / 256), bI (n / 256), bI n]).size = 4 := rfl
                  generalize str [bI (n / 256 / 256 / 256), bI (n / 256 / 256), bI (n / 256), bI n] = t at *
                  have hnp := neq_same w1.heap.size
                  go_wp2_with fail
                  go_roundw
                  case rel =>
                    refine ⟨k + 1, _, by omega, by go_num, rfl, by rw [HS.out, step2]; simp only [after_in1]; rfl, HT.out X2 t h2 (by rw [step2]; exact Wr_below H1.out.1 H2.out) ?_ ?_ (fun h => by rw [step2] at h; simp only [after_in1] at h; cases h) (by omega)⟩
                    · exact ((HB.out.alloc HB.out.size _).trans (H1.out.2.below hg1)).trans (H2.out.mono (by have h1 := HB.out.size; have h3 := H1.out.2.size; simp at h3; omega))
                    · have h3 := H1.out.2.size
                      have h4 := H2.out.size
                      simp at h3; omega
                  case measure => simp [intOf]; omega
            · have K1 := Lib.hid k1
              have K2 := Lib.hid k2
              have e1 : (kd == 1) = false := by rw [beq_eq_false_iff_ne]; exact k1
              have e2 : (kd == 2) = false := by rw [beq_eq_false_iff_ne]; exact k2
              clear k1 k2
              cases bd
              · go_wp2_with fail
                refine (text_ok w.heap.size _ s L _ (by omega) (by omega) (Wr_more HW.out _)).mono ?_; rintro e X1 ⟨rfl, hx1⟩
                have H1 := Lib.hid hx1
                have hbox := hx1.2.typed wr.heap.size _ 29 _ (by omega) (by decide) (heap_alloc_new wr (.cells #[.int .i64 kd, .int .i64 n, .string s] 29))
                have hk1 : X1.cell? ⟨wr.heap.size, 1, none⟩ = some (.int .i64 n) := cell_of_row X1 wr.heap.size 1 _ _ _ hbox
                have hk2 : X1.cell? ⟨wr.heap.size, 2, none⟩ = some (.string s) := cell_of_row X1 wr.heap.size 2 _ _ _ hbox
                have HX := Lib.hid hbox
                clear hx1 hbox
                go_wp2_with fail
                refine (big2_in s.size _ (by omega) (by omega) (by omega) (by omega)).mono ?_; rintro e X2 ⟨rfl, hx2⟩
                have hk3 : X2.cell? ⟨wr.heap.size, 2, none⟩ = some (.string s) := cell_of_row X2 wr.heap.size 2 _ _ _ ((hx2.block _ (block_of_heap HX.out)).trans HX.out)
                have H2 := Lib.hid hx2
                clear hx2
                rw [w2_bI _ (by omega)]
                have hsz2 : (str (w2 s.size)).size = 2 := rfl
                have HE := Lib.hid (enc_text kd n s K1.out K2.out)
                generalize str (w2 s.size) = t at *
                have hnp := neq_same w1.heap.size
                go_wp2_with fail
                go_roundw
                case rel =>
                  refine ⟨k + 1, _, by omega, by go_num, rfl, by rw [HS.out, step3 L kd n s K1.out K2.out]; rfl, HT.out X2 (t ++ s) h2 (by rw [step3 L kd n s K1.out K2.out]; exact Wr_below H1.out.1 H2.out) ?_ ?_ (fun _ => HE.out) (by rw [ByteArray.size_append]; omega)⟩
                  · exact ((HB.out.alloc HB.out.size _).trans (H1.out.2.below hg1)).trans (H2.out.mono (by have h1 := HB.out.size; have h3 := H1.out.2.size; simp at h3; omega))
                  · have h3 := H1.out.2.size
                    have h4 := H2.out.size
                    simp at h3; omega
                case measure => simp [intOf]; omega
              · go_wp2_with fail
                refine (text_stuck w.heap.size _ s L _ (by omega) (by omega) (Wr_more HW.out _)).mono ?_; rintro e X1 ⟨rfl, hx1⟩
                have H1 := Lib.hid hx1
                have hbox := hx1.2.typed wr.heap.size _ 29 _ (by omega) (by decide) (heap_alloc_new wr (.cells #[.int .i64 kd, .int .i64 n, .string s] 29))
                have hk1 : X1.cell? ⟨wr.heap.size, 1, none⟩ = some (.int .i64 n) := cell_of_row X1 wr.heap.size 1 _ _ _ hbox
                have hk2 : X1.cell? ⟨wr.heap.size, 2, none⟩ = some (.string s) := cell_of_row X1 wr.heap.size 2 _ _ _ hbox
                have HX := Lib.hid hbox
                clear hx1 hbox
                go_wp2_with fail
                refine (big2_in s.size _ (by omega) (by omega) (by omega) (by omega)).mono ?_; rintro e X2 ⟨rfl, hx2⟩
                have hk3 : X2.cell? ⟨wr.heap.size, 2, none⟩ = some (.string s) := cell_of_row X2 wr.heap.size 2 _ _ _ ((hx2.block _ (block_of_heap HX.out)).trans HX.out)
                have H2 := Lib.hid hx2
                clear hx2
                rw [w2_bI _ (by omega)]
                have hsz2 : (str (w2 s.size)).size = 2 := rfl
                have HE := Lib.hid (enc_text kd n s K1.out K2.out)
                generalize str (w2 s.size) = t at *
                have hnp := neq_same w1.heap.size
                go_wp2_with fail
                go_roundw
                case rel =>
                  refine ⟨k + 1, _, by omega, by go_num, rfl, by rw [HS.out, step4 L kd n s K1.out K2.out]; rfl, HT.out X2 (t ++ s) h2 (by rw [step4 L kd n s K1.out K2.out]; exact Wr_below H1.out.1 H2.out) ?_ ?_ (fun _ => HE.out) (by rw [ByteArray.size_append]; omega)⟩
                  · exact ((HB.out.alloc HB.out.size _).trans (H1.out.2.below hg1)).trans (H2.out.mono (by have h1 := HB.out.size; have h3 := H1.out.2.size; simp at h3; omega))
                  · have h3 := H1.out.2.size
                    have h4 := H2.out.size
                    simp at h3; omega
                case measure => simp [intOf]; omega
        · have n2 : 300 < s.size := by omega
          go_wp2_with fail
          go_ret
          exact ⟨rfl, Hq.out.2.2.1.alloc Hq.out.2.2.1.size _⟩
      · have Hk := Lib.hid (show l.take k = l from List.take_of_length_le (by rw [Hs.out.1]; omega))
        have HW := Lib.hid Hq.out.2.1
        have Hall := Lib.hid Hq.out.1
        have B2 := Lib.hid Hq.out.2.2.1
        have Hstr := Lib.hid Hq.out.2.2.2.2.1
        rw [Hk.out] at HW Hall Hstr
        have HG := Lib.hid (st_good (l := l))
        have hl40 : l.length ≤ 40 := by rw [Hs.out.1]; exact h1
        rw [Hk.out]
        generalize st l = a at *
        obtain ⟨L, bd⟩ := a
        clear Hq
        cases bd
        · obtain rfl : L = enc l := (HG.out rfl).1
          have HF := Lib.hid (HG.out rfl).2
          obtain rfl : wt = str (enc l) := Hstr.out rfl
          clear HG Hstr
          go_wp2_with fail
          refine (done_good _ _ _ _ HW.out).mono ?_; rintro e X1 ⟨rfl, rfl⟩
          go_wp2_with fail
          refine (from_any _ _).mono ?_; rintro e X2 ⟨rfl, hx2⟩
          have B3 := Lib.hid (show Below w.heap.size w X2 by rw [← hx2]; exact B2.out.alloc B2.out.size _)
          have R3 := Lib.hid (show Rd X2 wr.heap.size (enc l) true by rw [← hx2]; exact Rd.new _ _)
          have hgq : w.heap.size ≤ wr.heap.size := B2.out.size
          generalize wr.heap.size = q at *
          clear hx2
          go_wp2_with fail
          go_loopw [12, 15, 124] (fun _ _ i wr => ∃ j : Nat, j ≤ len ∧ i = .int .i64 j ∧ Left l j q w wr) (fun _ _ i _ => len - (intOf i).toNat)
          case atStart => exact ⟨0, Nat.zero_le _, rfl, R3.out, B3.out⟩
          case round =>
            obtain ⟨j, hj, rfl, hq2⟩ := hrel
            have Hr := Lib.hid hq2
            clear hq2
            have HB := Lib.hid Hr.out.2
            have hzw := Hr.out.2.size
            by_cases hlt2 : j < len
            · have hjl : j < l.length := by rw [Hs.out.1]; exact hlt2
              obtain ⟨b, off, rfl, hbw, hce0, hce1, hce2, hn1, hn2, hsz⟩ := Hs.out.2 j hlt2
              have hc0 := (Hr.out.2.cell (p := ⟨b, off + j * 3, none⟩) hbw).trans hce0
              have hc1 := (Hr.out.2.cell (p := ⟨b, off + j * 3 + 1, none⟩) hbw).trans hce1
              have hc2 := (Hr.out.2.cell (p := ⟨b, off + j * 3 + 2, none⟩) hbw).trans hce2
              have h2 := Hall.out _ (getD_mem l j hjl)
              have HFo := Lib.hid (HF.out _ (getD_mem l j hjl))
              have HE := Lib.hid (enc_drop l j hjl)
              have hel := enc_le (l.drop (j + 1)) (fun x hx => Hall.out x (List.mem_of_mem_drop hx))
              have hjl2 : (l.drop (j + 1)).length ≤ 40 := by simp; omega
              have hqw := Hr.out.1.lt
              have HR := Lib.hid (by have := Hr.out.1; rw [HE.out] at this; exact this)
              clear hce0 hce1 hce2 HE
              generalize l.getD j o0 = o at *
              obtain ⟨kd, n, s⟩ := o
              simp only at hc0 hc1 hc2 hn1 hn2 hsz h2
              unfold maxLen at hsz
              by_cases k1 : kd = 1
              · subst k1
                have hin := HFo.out.1 rfl
                have HI := Lib.hid hin
                clear hin
                have HR1 : Hid (Rd wr q (w2 n ++ enc (l.drop (j + 1))) true) := HR
                go_wp2_with fail
                refine (bad_no q _ _ (HR1.out.alloc _)).mono ?_; rintro e Y1 ⟨rfl, rfl⟩
                go_wp2_with fail
                obtain ⟨V, hV⟩ : ∃ V, V = wr.alloc (.cells #[.int .i64 1, .int .i64 n, .string s] 29) := ⟨_, rfl⟩
                rw [← hV]
                have HVb : Hid (V.heap[wr.heap.size]? = some (.cells #[.int .i64 1, .int .i64 n, .string s] 29)) := Lib.hid (by rw [hV]; exact heap_alloc_new wr _)
                have HVr := Lib.hid (show Rd V q (w2 n ++ enc (l.drop (j + 1))) true by rw [hV]; exact HR1.out.alloc _)
                have HVB := Lib.hid (show Below w.heap.size w V by rw [hV]; exact HB.out.alloc hzw _)
                have hv1 : V.cell? ⟨wr.heap.size, 1, none⟩ = some (.int .i64 n) := cell_of_row V wr.heap.size 1 _ _ _ HVb.out
                have HDr : Hid (Rd V.drew q (w2 n ++ enc (l.drop (j + 1))) true) := HVr
                have HDb : Hid (V.drew.heap[wr.heap.size]? = some (.cells #[.int .i64 1, .int .i64 n, .string s] 29)) := HVb
                have HDz : Hid (w.heap.size ≤ V.drew.heap.size) := HVB.out.size
                clear hV
                go_region_with (first | (go_at_call 18; (with_reducible refine (rnum_ok w.heap.size q n (enc (l.drop (j + 1))) _ HI.out.1 HI.out.2 (by omega) HDz.out HDr.out).mono ?_); rintro e X1 ⟨rfl, hx1⟩; have H1 := Lib.hid hx1; have hx1c : X1.cell? ⟨wr.heap.size, 1, none⟩ = some (.int .i64 n) := cell_of_row X1 wr.heap.size 1 _ _ _ (hx1.2.typed wr.heap.size _ 29 _ (by omega) (by decide) HDb.out); clear hx1))
                all_goals
                  go_wp2_with fail
                  go_roundw
                  case rel => exact ⟨j + 1, by omega, by go_num, H1.out.1, HVB.out.drew.trans (H1.out.2.below hgq)⟩
                  case measure => simp [intOf]; omega
              · by_cases k2 : kd = 2
                · subst k2
                  clear k1
                  have hin := HFo.out.2 rfl
                  have HI := Lib.hid hin
                  clear hin
                  have HR1 : Hid (Rd wr q (w4 n ++ enc (l.drop (j + 1))) true) := HR
                  go_wp2_with fail
                  refine (bad_no q _ _ (HR1.out.alloc _)).mono ?_; rintro e Y1 ⟨rfl, rfl⟩
                  go_wp2_with fail
                  obtain ⟨V, hV⟩ : ∃ V, V = wr.alloc (.cells #[.int .i64 2, .int .i64 n, .string s] 29) := ⟨_, rfl⟩
                  rw [← hV]
                  have HVb : Hid (V.heap[wr.heap.size]? = some (.cells #[.int .i64 2, .int .i64 n, .string s] 29)) := Lib.hid (by rw [hV]; exact heap_alloc_new wr _)
                  have HVr := Lib.hid (show Rd V q (w4 n ++ enc (l.drop (j + 1))) true by rw [hV]; exact HR1.out.alloc _)
                  have HVB := Lib.hid (show Below w.heap.size w V by rw [hV]; exact HB.out.alloc hzw _)
                  have hv1 : V.cell? ⟨wr.heap.size, 1, none⟩ = some (.int .i64 n) := cell_of_row V wr.heap.size 1 _ _ _ HVb.out
                  have HDr : Hid (Rd V.drew q (w4 n ++ enc (l.drop (j + 1))) true) := HVr
                  have HDb : Hid (V.drew.heap[wr.heap.size]? = some (.cells #[.int .i64 2, .int .i64 n, .string s] 29)) := HVb
                  have HDz : Hid (w.heap.size ≤ V.drew.heap.size) := HVB.out.size
                  clear hV
                  go_region_with (first | (go_at_call 19; (with_reducible refine (rlong_ok w.heap.size q n (enc (l.drop (j + 1))) _ HI.out.1 HI.out.2 (by omega) HDz.out HDr.out).mono ?_); rintro e X1 ⟨rfl, hx1⟩; have H1 := Lib.hid hx1; have hx1c : X1.cell? ⟨wr.heap.size, 1, none⟩ = some (.int .i64 n) := cell_of_row X1 wr.heap.size 1 _ _ _ (hx1.2.typed wr.heap.size _ 29 _ (by omega) (by decide) HDb.out); clear hx1))
                  all_goals
                    go_wp2_with fail
                    go_roundw
                    case rel => exact ⟨j + 1, by omega, by go_num, H1.out.1, HVB.out.drew.trans (H1.out.2.below hgq)⟩
                    case measure => simp [intOf]; omega
                · have e1 : (kd == 1) = false := by rw [beq_eq_false_iff_ne]; exact k1
                  have e2 : (kd == 2) = false := by rw [beq_eq_false_iff_ne]; exact k2
                  have e3 : enc1 ⟨kd, n, s⟩ ++ enc (l.drop (j + 1)) = w2 s.size ++ (s.data.toList ++ enc (l.drop (j + 1))) := by simp [enc1, k1, k2]
                  rw [e3] at HR
                  clear e3 k1 k2
                  have HR1 := HR
                  go_wp2_with fail
                  refine (bad_no q _ _ (HR1.out.alloc _)).mono ?_; rintro e Y1 ⟨rfl, rfl⟩
                  go_wp2_with fail
                  obtain ⟨V, hV⟩ : ∃ V, V = wr.alloc (.cells #[.int .i64 kd, .int .i64 n, .string s] 29) := ⟨_, rfl⟩
                  rw [← hV]
                  have HVb : Hid (V.heap[wr.heap.size]? = some (.cells #[.int .i64 kd, .int .i64 n, .string s] 29)) := Lib.hid (by rw [hV]; exact heap_alloc_new wr _)
                  have HVr := Lib.hid (show Rd V q (w2 s.size ++ (s.data.toList ++ enc (l.drop (j + 1)))) true by rw [hV]; exact HR1.out.alloc _)
                  have HVB := Lib.hid (show Below w.heap.size w V by rw [hV]; exact HB.out.alloc hzw _)
                  have hv1 : V.cell? ⟨wr.heap.size, 2, none⟩ = some (.string s) := cell_of_row V wr.heap.size 2 _ _ _ HVb.out
                  have HDr : Hid (Rd V.drew q (w2 s.size ++ (s.data.toList ++ enc (l.drop (j + 1)))) true) := HVr
                  have HDb : Hid (V.drew.heap[wr.heap.size]? = some (.cells #[.int .i64 kd, .int .i64 n, .string s] 29)) := HVb
                  have HDz : Hid (w.heap.size ≤ V.drew.heap.size) := HVB.out.size
                  clear hV
                  go_region_with (first | (go_at_call 20; (with_reducible refine (rtext_ok w.heap.size q s (enc (l.drop (j + 1))) _ (by omega) (by omega) HDz.out HDr.out).mono ?_); rintro e X1 ⟨rfl, hx1⟩; have H1 := Lib.hid hx1; have hx1c : X1.cell? ⟨wr.heap.size, 2, none⟩ = some (.string s) := cell_of_row X1 wr.heap.size 2 _ _ _ (hx1.2.typed wr.heap.size _ 29 _ (by omega) (by decide) HDb.out); clear hx1))
                  all_goals
                    go_wp2_with fail
                    go_roundw
                    case rel => exact ⟨j + 1, by omega, by go_num, H1.out.1, HVB.out.drew.trans (H1.out.2.below hgq)⟩
                    case measure => simp [intOf]; omega
            · have HR := Lib.hid (by have := Hr.out.1; rw [show l.drop j = [] from List.drop_of_length_le (by rw [Hs.out.1]; omega)] at this; exact this)
              have HR1 : Hid (Rd wr q [] true) := HR
              have hse : (str []).toList.isEmpty = true := by rw [str_toList]; rfl
              go_wp2_with fail
              refine (end_yes q _ HR1.out).mono ?_; rintro e Y1 ⟨rfl, rfl⟩
              go_wp2_with fail
              refine (rnum_short w.heap.size q [] _ (by decide) hzw HR1.out).mono ?_; rintro e Y2 ⟨rfl, hy2⟩
              have H2 := Lib.hid hy2
              have Z2 := Lib.hid (Nat.le_trans hzw hy2.2.size)
              clear hy2
              go_wp2_with fail
              refine (bad_yes q _ _ H2.out.1).mono ?_; rintro e Y3 ⟨rfl, rfl⟩
              go_wp2_with fail
              refine (rtext_bad w.heap.size q _ _ Z2.out H2.out.1).mono ?_; rintro e Y4 ⟨rfl, hy4⟩
              have H4 := Lib.hid (H2.out.then hy4)
              clear hy4
              go_wp2_with fail
              refine (end_bad q _ _ H4.out.1).mono ?_; rintro e Y5 ⟨rfl, rfl⟩
              have B4 := Lib.hid (HB.out.trans (H4.out.2.below hgq))
              go_wp2_with fail
              refine (done_nil _).mono ?_; rintro e Y5 ⟨rfl, rfl⟩
              go_wp2_with fail
              refine (num_nil_w _ _).mono ?_; rintro e Y5 ⟨rfl, rfl⟩
              go_wp2_with fail
              refine (long_nil _ _).mono ?_; rintro e Y5 ⟨rfl, rfl⟩
              go_wp2_with fail
              refine (text_nil _ _ (by decide)).mono ?_; rintro e Y5 ⟨rfl, rfl⟩
              go_wp2_with fail
              refine (bad_nil _).mono ?_; rintro e Y5 ⟨rfl, rfl⟩
              go_wp2_with fail
              refine (rnum_nil _).mono ?_; rintro e Y5 ⟨rfl, hy5⟩
              have B5 := Lib.hid (B4.out.trans (hy5.mono B4.out.size))
              clear hy5
              go_wp2_with fail
              refine (rlong_nil _).mono ?_; rintro e Y6 ⟨rfl, hy6⟩
              have B6 := Lib.hid (B5.out.trans (hy6.mono B5.out.size))
              clear hy6
              go_wp2_with fail
              refine (rtext_nil _).mono ?_; rintro e Y7 ⟨rfl, hy7⟩
              have B7 := Lib.hid (B6.out.trans (hy7.mono B6.out.size))
              clear hy7
              go_wp2_with fail
              refine (end_nil _).mono ?_; rintro e Y8 ⟨rfl, rfl⟩
              go_wp2_with fail
              go_ret
              exact ⟨rfl, B7.out⟩
        · go_wp2_with fail
          refine (done_bad _ _ _ _ HW.out).mono ?_; rintro e X1 ⟨rfl, rfl⟩
          have hse : (str []).toList.isEmpty = true := by rw [str_toList]; rfl
          generalize str [] = y at *
          go_wp2_with fail
          go_ret
          exact ⟨rfl, B2.out⟩
  · have n1 : 40 < len := by omega
    go_enter Try.func3, Try.ntmps3
    go_wp2_with fail
    refine (alive_yes _).mono ?_; rintro e w1 ⟨rfl, hb1⟩
    have B1 := Lib.hid hb1
    clear hb1
    go_wp2_with fail
    go_ret
    exact ⟨rfl, B1.out⟩

/-! The row's step. -/
set_option maxRecDepth 100000 in
theorem lifted (os : Os) (started : os.Started) (H : Type) (enc : TypeId × Value → H) :
    ReturnsInHanded {} Try.checked os 3 .any (Rows.packTellsSpec.pre6 enc Try.prog Try.f3 Rows.packTellsRow.domain false) (Rows.packTellsSpec.post enc Try.prog Try.f3 false true false false) := by
  refine returnsInHanded_of_change (C := Try.checked) own started (by kernel_rfl) Try.func3
    (ChangeSpec.witness6 (enc := enc) (C := Try.checked) false ⟨#[], #[.slice none 0 0], []⟩ 8 (by kernel_rfl) (by kernel_rfl) (by kernel_rfl) (by kernel_rfl)) ?_
  intro W base args ds gs before hval0 hW hcnd _
  have hval : ∀ (j : Nat) t v, Try.f3.params[j]? = some t → args[j]? = some v → Value.okWide Try.prog W .any base t v := hval0
  have hW' := hW
  obtain ⟨p, q, hA0, hV, rfl, hfz, hnd⟩ := hW
  have hA : DataW.TrodAll enc Try.prog W 0 (fun _ => true) true Try.f3.params.toList args.toList ds p := hA0
  rw [Try.params3] at hA hval
  obtain ⟨v0, d0, rfl, rfl, h0⟩ := trodAll_one hA
  obtain ⟨rfl, rfl⟩ := trodVars_none hV
  obtain ⟨A, len, cap, rfl⟩ := okWide_slice Try.underlying22 (hval 0 22 v0 rfl rfl)
  have h0k := h0
  obtain ⟨fuel, hf⟩ := h0
  clear hA0 hval0
  simp only [List.append_nil] at hW'
  have hlt : ∀ x ∈ p, x.block < W.heap.size := fun x hx => by simpa using hW'.lt x hx
  have fin : ∀ W', Below W.heap.size W W' → Rows.packTellsSpec.post enc Try.checked.prog Try.f3 false true false false W #[.slice A len cap] (.bool true) W' := by
    intro W' hnx
    refine ⟨_, _, _, [] ++ [], p, [], hW', ?_, ?_, rfl, hnx.frame _, fun h => by cases h⟩
    · exact trodAll_mk1 (shut_bool Try.underlying4 true)
    · exact trodAll_mk1 (Below.trod laidOut (by kernel_rfl) (of_decide_eq_true (by kernel_rfl)) h0k hnx hlt)
  have go : ∀ l, Ops W A len l → len ≤ maxLen → Calls Try.checked.prog 3 #[.slice A len cap] W fun e W' => ∃ v, e = Ending.returned v ∧ Rows.packTellsSpec.post enc Try.checked.prog Try.f3 false true false false W #[.slice A len cap] v W' :=
    fun l hs hm => (walk A len cap l W hs hm).mono fun e W' ⟨he, hg⟩ => ⟨_, he, fin W' hg⟩
  rcases open_slice_fields Try.underlying22 Try.underlying29 (by kernel_rfl) (by kernel_rfl) hf with ⟨hcs, hx⟩ | ⟨a, len', cap', m, D, Pl, hcs, _, hl, hm, hmm, hx, hi⟩
  · simp [Value.cells] at hcs
    obtain ⟨rfl, rfl, rfl⟩ := hcs
    exact go [] ⟨rfl, fun k hk => by omega⟩ (by unfold maxLen; omega)
  · simp [Value.cells] at hcs
    obtain ⟨rfl, rfl, rfl⟩ := hcs
    simp only [Prod.mk.injEq] at hx
    obtain ⟨rfl, rfl⟩ := hx
    simp only [if_true] at hmm
    have each : ∀ k, k < len → ∃ o : O, OpAt W (some a) k o := by
      intro k hk
      obtain ⟨ys, n, _, _, _, hfj⟩ := hi k (by omega)
      obtain ⟨u0, y0, hc0, _, t0⟩ := hfj 0 _ rfl
      obtain ⟨u1, y1, hc1, _, t1⟩ := hfj 1 _ rfl
      obtain ⟨u2, y2, hc2, _, t2⟩ := hfj 2 _ rfl
      obtain ⟨z0, e0, _, w0⟩ := DataW.trod_int (P := Try.prog) Try.underlying3 t0
      obtain ⟨z1, e1, _, w1⟩ := DataW.trod_int (P := Try.prog) Try.underlying3 t1
      obtain ⟨z2, e2, _, w2'⟩ := DataW.trod_string (P := Try.prog) Try.underlying9 t2
      obtain rfl : u0 = .int .i64 z0 := by simpa using e0
      obtain rfl : u1 = .int .i64 z1 := by simpa using e1
      obtain rfl : u2 = .string z2 := by simpa using e2
      have b1 : IntKind.i64.min = -9223372036854775808 := rfl
      have b2 : IntKind.i64.max = 9223372036854775807 := rfl
      simp only [Lit.wf, Bool.and_eq_true, decide_eq_true_eq, b1, b2] at w1
      obtain ⟨b, off, spot⟩ := a
      obtain ⟨_, _, _, _, _, hf0⟩ := hi 0 (by omega)
      obtain ⟨_, _, hc00, _⟩ := hf0 0 _ rfl
      have hspot : spot = none := by simpa [Addr.add] using World.cell?_spot hc00
      subst hspot
      refine ⟨⟨z0, z1, z2⟩, b, off, rfl, hlt (.cell b off) (List.mem_append.2 (.inl (MemPlace.mem_row.2 ⟨0, by show 0 < m * 3; omega, by simp⟩))), ?_, ?_, ?_, w1.1, w1.2, w2'⟩
      · rw [add_plain] at hc0; exact hc0
      · rw [add_plain] at hc1; rw [Nat.add_assoc]; exact hc1
      · rw [add_plain] at hc2; rw [Nat.add_assoc]; exact hc2
    obtain ⟨l, hl1, hl2⟩ := choose_list each
    exact go l ⟨hl1, hl2⟩ (by omega)

theorem over : Rows.packTellsRow.holds Try.pinned (OpenSpec.ofChange Rows.packTellsSpec) :=
  OpenClaim.holds_of_wide 3 Try.f3 rfl rfl rfl rfl rfl rfl rfl ⟨rfl, rfl, rfl, rfl, rfl⟩ rfl rfl rfl rfl rfl (by kernel_rfl) Try.func3 (by kernel_rfl)
    (of_decide_eq_true (by kernel_rfl)) (by unfold Func.isWrapper; first | (rw [if_pos (by decide +kernel)]; kernel_rfl) | (rw [if_neg (by decide +kernel)]; exact ⟨rfl, rfl⟩))
    (fun os started H enc _ => lifted os started H enc)

/-- The statement. -/
theorem proved : Rows.PackTellsSaid :=
  over
end Go.Proofs.Ytfggdcebeopidaa.packTells
