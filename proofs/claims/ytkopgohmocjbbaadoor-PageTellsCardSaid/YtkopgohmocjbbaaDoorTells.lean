/- For every page, every bytes and every numbers: Put, Get, Empty and Name answer as the document's own do, and a page that has bytes is read as it was written. The row speaks of the table of names as the program's text lays it; the card ties that to the text. -/
import Derived.Test.YtkopgohmocjbbaaDoorRows
import Derived.Test.YtkopgohmocjbbaaDoorCards
import Derived.Test.YtkopgohmocjbbaaDoorTie
import Derived.Test.YtkopgohmocjbbaaDoorNbs
import Derived.Lib.Hide
import Derived.Deep.RegionHeld3
import Derived.Deep.DeepCutAuto
import Derived.WalkKit
import Derived.ProofKit
import Derived.OpenShut
import Derived.ChangeOld
import Derived.Below
import Derived.Carry
import Derived.LaidMore
import Derived.SevenTiedAt
namespace Go.Proofs.YtkopgohmocjbbaaDoor.pageTells
open Go.ChangeShapes Go.WideShapes Go.ChangeAt Go.RowKit
set_option linter.unusedVariables false
set_option linter.unusedSimpArgs false

set_option maxRecDepth 100000 in
set_option maxHeartbeats 16000000 in
theorem walk (k d m : Int) (b : ByteArray) (s : ByteArray) (kk dd : Int) (w : World) (wk : (Lit.int .i64 k).wf = true) (wd : (Lit.int .i64 d).wf = true) (wm : (Lit.int .i64 m).wf = true) (wb : b.size ≤ maxLen) (ws : s.size ≤ maxLen) (wkk : (Lit.int .i64 kk).wf = true) (wdd : (Lit.int .i64 dd).wf = true) (hn : NamesAt w) :
    Calls Tryd.prog 3 #[pv k d m b, .string s, .int .i64 kk, .int .i64 dd] w fun e w' => e = .returned (.bool true) ∧ Below w.heap.size w w' := by
  have HN := Lib.hid hn
  clear hn wk wd wm wkk wdd
  by_cases c0 : (400 : Int) < b.size
  · as_aux_lemma =>
      have HP := Lib.hid (Box.new w (.int .i64 k) (.int .i64 d) (.int .i64 m) (.string b))
      have HB0 := Lib.hid ((Below.refl w.heap.size w).alloc (Nat.le_refl _) (.cells #[.int .i64 k, .int .i64 d, .int .i64 m, .string b] 23))
      have AL := Lib.hid (fun r (h : Below w.heap.size w r) => alive_yes r (HN.out.kept h))
      unfold pv
      go_enter Tryd.func3, Tryd.ntmps3
      go_wp2_with fail
      refine (AL.out _ HB0.out).mono ?_; rintro e w1 ⟨rfl, hb⟩
      have HP1 := Lib.hid (HP.out.kept hb)
      have HB1 := Lib.hid (HB0.out.trans (hb.mono (Below.size HB0.out)))
      clear hb HP HB0 AL
      go_wp2_with fail
      go_ret
      exact ⟨rfl, HB1.out⟩
  · by_cases c1 : (400 : Int) < s.size
    · as_aux_lemma =>
        have HP := Lib.hid (Box.new w (.int .i64 k) (.int .i64 d) (.int .i64 m) (.string b))
        have HB0 := Lib.hid ((Below.refl w.heap.size w).alloc (Nat.le_refl _) (.cells #[.int .i64 k, .int .i64 d, .int .i64 m, .string b] 23))
        have AL := Lib.hid (fun r (h : Below w.heap.size w r) => alive_yes r (HN.out.kept h))
        unfold pv
        go_enter Tryd.func3, Tryd.ntmps3
        go_wp2_with fail
        refine (AL.out _ HB0.out).mono ?_; rintro e w1 ⟨rfl, hb⟩
        have HP1 := Lib.hid (HP.out.kept hb)
        have HB1 := Lib.hid (HB0.out.trans (hb.mono (Below.size HB0.out)))
        clear hb HP HB0 AL
        go_wp2_with fail
        go_ret
        exact ⟨rfl, HB1.out⟩
    · have PU := Lib.hid (fun w => put_any k d m b w)
      have RP := Lib.hid (fun w => rput_any k d m b w)
      have GE := Lib.hid (fun w => get_any s ws w)
      have RG := Lib.hid (fun w => rget_any s ws w)
      have EM := Lib.hid (fun w => empty_any kk dd w)
      have NA := Lib.hid (fun r (h : NamesAt r) => name_any kk r h)
      have ZR := Lib.hid (fun w => zeros_ok 240 (by omega) w)
      unfold maxLen at wb ws
      have HS := Lib.hid (show okV k d m b = true → (if okV k d m b = true then str (Pg.bytes ⟨k, d, m, b.data.toList⟩) else ⟨#[]⟩) = str (Pg.bytes ⟨k, d, m, b.data.toList⟩) from fun h => if_pos h)
      have HOK := Lib.hid (fun h => (okV_ok (k := k) (d := d) (n := m) (b := b)).1 h)
      have GB := Lib.hid (fun (h : okV k d m b = true) (w : World) => show Calls Tryd.prog 12 #[.string (if okV k d m b = true then str (Pg.bytes ⟨k, d, m, b.data.toList⟩) else ⟨#[]⟩)] w (fun e w' => e = .returned (.tuple #[.agg #[.int .i64 k, .int .i64 d, .int .i64 m, .string b], .bool true]) ∧ Below w.heap.size w w') from by
        have ho := okV_ok.1 h
        have hb := get_any (str (Pg.bytes ⟨k, d, m, b.data.toList⟩)) (by rw [str_size, Pg.bytes_length, ho.2.2.2]; unfold maxLen; omega) w
        rw [str_toList, valB_some (getP_bytes ho), okB_some (getP_bytes ho)] at hb
        unfold pvP pv at hb
        dsimp only at hb
        rw [str_data] at hb
        rw [if_pos h]
        exact hb)
      generalize (if okV k d m b = true then str (Pg.bytes ⟨k, d, m, b.data.toList⟩) else (⟨#[]⟩ : ByteArray)) = S at *
      generalize okV k d m b = g at *
      obtain ⟨Q, hQ⟩ : ∃ Q, Q = valB s.data.toList := ⟨_, rfl⟩
      obtain ⟨h, hh⟩ : ∃ h, h = okB s.data.toList := ⟨_, rfl⟩
      rw [← hQ, ← hh] at GE RG
      clear hQ hh
      obtain ⟨q0, q1, q2, qb⟩ := Q
      unfold pvP at GE RG
      dsimp only at GE RG
      generalize str qb = q3 at GE RG
      unfold pv at GE RG EM PU RP
      have hs1 : (S.toList == S.toList) = true := by simp
      have hs2 : (q3.toList == q3.toList) = true := by simp
      generalize str (zs 240) = y at EM ZR
      obtain ⟨N, hN⟩ : ∃ N, N = str (nm kk) := ⟨_, rfl⟩
      rw [← hN] at NA
      have HNN := Lib.hid hN
      clear hN
      have hs4 : (N.toList == N.toList) = true := by simp
      have hs3 : (y.toList == y.toList) = true := by simp
      as_aux_lemma =>
        have HP := Lib.hid (Box.new w (.int .i64 k) (.int .i64 d) (.int .i64 m) (.string b))
        have HB0 := Lib.hid ((Below.refl w.heap.size w).alloc (Nat.le_refl _) (.cells #[.int .i64 k, .int .i64 d, .int .i64 m, .string b] 23))
        have AL := Lib.hid (fun r (h : Below w.heap.size w r) => alive_yes r (HN.out.kept h))
        unfold pv
        go_enter Tryd.func3, Tryd.ntmps3
        go_wp2_with fail
        refine (AL.out _ HB0.out).mono ?_; rintro e w1 ⟨rfl, hb⟩
        have HP1 := Lib.hid (HP.out.kept hb)
        have HB1 := Lib.hid (HB0.out.trans (hb.mono (Below.size HB0.out)))
        clear hb HP HB0 AL
        obtain ⟨x0, x1, x2, x3⟩ := HP1.out.cells
        go_wp2_with fail
        refine (PU.out _).mono ?_; rintro e w2 ⟨rfl, hb⟩
        clear x0 x1 x2 x3
        have HP2 := Lib.hid (HP1.out.kept hb)
        have HB2 := Lib.hid (HB1.out.trans (hb.mono (Below.size HB1.out)))
        clear hb HB1 HP1
        obtain ⟨x0, x1, x2, x3⟩ := HP2.out.cells
        go_wp2_with fail
        refine (RP.out _).mono ?_; rintro e w3 ⟨rfl, hb⟩
        clear x0 x1 x2 x3
        have HP3 := Lib.hid (HP2.out.kept hb)
        have HB3 := Lib.hid (HB2.out.trans (hb.mono (Below.size HB2.out)))
        clear hb HB2 HP2
        go_wp2_with fail
        refine (GE.out _).mono ?_; rintro e w4 ⟨rfl, hb⟩
        have HP4 := Lib.hid (HP3.out.kept hb)
        have HB4 := Lib.hid (HB3.out.trans (hb.mono (Below.size HB3.out)))
        clear hb HB3 HP3
        go_wp2_with fail
        have HX4 := Lib.hid (Box.new w4 (.int .i64 q0) (.int .i64 q1) (.int .i64 q2) (.string q3))
        have hal := (Below.refl w4.heap.size w4).alloc (Nat.le_refl _) (.cells #[.int .i64 q0, .int .i64 q1, .int .i64 q2, .string q3] 23)
        replace HP4 := Lib.hid (HP4.out.below hal (Nat.le_refl _))
        replace HB4 := Lib.hid (HB4.out.trans (hal.mono (Below.size HB4.out)))
        clear hal
        obtain ⟨bHX, hbHX⟩ : ∃ bHX, bHX = w4.heap.size := ⟨_, rfl⟩
        generalize w4.alloc (.cells #[.int .i64 q0, .int .i64 q1, .int .i64 q2, .string q3] 23) = v4 at *
        rw [← hbHX] at HX4 ⊢
        clear hbHX
        refine (RG.out _).mono ?_; rintro e w5 ⟨rfl, hb⟩
        have HP5 := Lib.hid (HP4.out.kept hb)
        have HX5 := Lib.hid (HX4.out.kept hb)
        have HB5 := Lib.hid (HB4.out.trans (hb.mono (Below.size HB4.out)))
        clear hb HB4 HP4 HX4
        go_wp2_with fail
        have HY5 := Lib.hid (Box.new w5 (.int .i64 q0) (.int .i64 q1) (.int .i64 q2) (.string q3))
        have hal := (Below.refl w5.heap.size w5).alloc (Nat.le_refl _) (.cells #[.int .i64 q0, .int .i64 q1, .int .i64 q2, .string q3] 23)
        replace HP5 := Lib.hid (HP5.out.below hal (Nat.le_refl _))
        replace HX5 := Lib.hid (HX5.out.below hal (Nat.le_refl _))
        replace HB5 := Lib.hid (HB5.out.trans (hal.mono (Below.size HB5.out)))
        clear hal
        obtain ⟨bHY, hbHY⟩ : ∃ bHY, bHY = w5.heap.size := ⟨_, rfl⟩
        generalize w5.alloc (.cells #[.int .i64 q0, .int .i64 q1, .int .i64 q2, .string q3] 23) = v5 at *
        rw [← hbHY] at HY5 ⊢
        clear hbHY
        refine (EM.out _).mono ?_; rintro e w6 ⟨rfl, hb⟩
        have HP6 := Lib.hid (HP5.out.kept hb)
        have HX6 := Lib.hid (HX5.out.kept hb)
        have HY6 := Lib.hid (HY5.out.kept hb)
        have HB6 := Lib.hid (HB5.out.trans (hb.mono (Below.size HB5.out)))
        clear hb HB5 HP5 HX5 HY5
        go_upto_region 9 with fail
        have HE6 := Lib.hid (Box.new w6 (.int .i64 kk) (.int .i64 dd) (.int .i64 0) (.string y))
        have hal := (Below.refl w6.heap.size w6).alloc (Nat.le_refl _) (.cells #[.int .i64 kk, .int .i64 dd, .int .i64 0, .string y] 23)
        replace HP6 := Lib.hid (HP6.out.below hal (Nat.le_refl _))
        replace HX6 := Lib.hid (HX6.out.below hal (Nat.le_refl _))
        replace HY6 := Lib.hid (HY6.out.below hal (Nat.le_refl _))
        replace HB6 := Lib.hid (HB6.out.trans (hal.mono (Below.size HB6.out)))
        clear hal
        obtain ⟨bHE, hbHE⟩ : ∃ bHE, bHE = w6.heap.size := ⟨_, rfl⟩
        generalize w6.alloc (.cells #[.int .i64 kk, .int .i64 dd, .int .i64 0, .string y] 23) = v6 at *
        rw [← hbHE] at HE6 ⊢
        clear hbHE
        have HDEC := Lib.hid (show ∀ z : Bool, z = decide (0 ≤ kk ∧ kk ≤ 5) → (z = true → 0 ≤ kk ∧ kk ≤ 5) ∧ (z = false → ¬ (0 ≤ kk ∧ kk ≤ 5)) from fun z hz => ⟨fun e => of_decide_eq_true (hz ▸ e), fun e => of_decide_eq_false (hz ▸ e)⟩)
        obtain ⟨inb, hinb⟩ : ∃ z : Bool, z = decide (0 ≤ kk ∧ kk ≤ 5) := ⟨_, rfl⟩
        have HI := Lib.hid hinb
        clear hinb
        go_cut [63] (fun s63 wx => s63 = .bool inb ∧ wx = v6)
        case first =>
          by_cases j0 : 0 ≤ kk
          · by_cases j1 : kk ≤ 5
            · go_wp2_with fail
              go_meet
              exact ⟨by rw [HI.out, decide_eq_true (show 0 ≤ kk ∧ kk ≤ 5 from ⟨j0, j1⟩)], rfl⟩
            · go_wp2_with fail
              go_meet
              exact ⟨by rw [HI.out, decide_eq_false (show ¬ (0 ≤ kk ∧ kk ≤ 5) from fun h => by omega)], rfl⟩
          · go_wp2_with fail
            go_meet
            exact ⟨by rw [HI.out, decide_eq_false (show ¬ (0 ≤ kk ∧ kk ≤ 5) from fun h => by omega)], rfl⟩
        case rest =>
          obtain ⟨rfl, rfl⟩ := hcut
          go_upto_if 63 with fail
          go_cut [18] (fun s18 wx => s18 = .string N ∧ Hid (Held wc wx))
          case first =>
            cases inb with
            | true =>
              have hk := (HDEC.out _ HI.out).1 rfl
              have hk' : kk = 0 ∨ kk = 1 ∨ kk = 2 ∨ kk = 3 ∨ kk = 4 ∨ kk = 5 := by omega
              clear hk
              have HNN2 := HNN
              rcases hk' with rfl | rfl | rfl | rfl | rfl | rfl
              · have hNk := Lib.hid (show N = ByteArray.mk #[102, 114, 101, 101] by rw [HNN.out]; rfl)
                obtain ⟨WR, hWR⟩ : ∃ WR, WR = wc.alloc (.cells nRow.toArray 9) := ⟨_, rfl⟩
                have NB := run_nbs wc
                rw [← hWR] at NB
                have hld : WR.cell? ⟨wc.heap.size, 0, none⟩ = some (.string N) := by rw [hWR, cell_of_row _ _ _ _ _ _ (heap_alloc_new wc _), hNk.out]; rfl
                have HWR := Lib.hid (show Held wc WR from by rw [hWR]; exact (Below.refl _ _).alloc (Nat.le_refl _) _)
                clear HNN HNN2 NA HDEC HI hs4 hWR
                go_upto_region 10 with fail
                refine wp_region_list ?_
                refine wpList_bs rfl _ _ _ rfl _ ?_ NB ?_
                · simp only [List.map_toArray, List.map_cons, List.map_nil, Act.eval]
                clear NB
                go_wp2_with fail
                go_meet
                exact ⟨rfl, HWR.out⟩
              · have hNk := Lib.hid (show N = ByteArray.mk #[100, 105, 114] by rw [HNN.out]; rfl)
                obtain ⟨WR, hWR⟩ : ∃ WR, WR = wc.alloc (.cells nRow.toArray 9) := ⟨_, rfl⟩
                have NB := run_nbs wc
                rw [← hWR] at NB
                have hld : WR.cell? ⟨wc.heap.size, 1, none⟩ = some (.string N) := by rw [hWR, cell_of_row _ _ _ _ _ _ (heap_alloc_new wc _), hNk.out]; rfl
                have HWR := Lib.hid (show Held wc WR from by rw [hWR]; exact (Below.refl _ _).alloc (Nat.le_refl _) _)
                clear HNN HNN2 NA HDEC HI hs4 hWR
                go_upto_region 10 with fail
                refine wp_region_list ?_
                refine wpList_bs rfl _ _ _ rfl _ ?_ NB ?_
                · simp only [List.map_toArray, List.map_cons, List.map_nil, Act.eval]
                clear NB
                go_wp2_with fail
                go_meet
                exact ⟨rfl, HWR.out⟩
              · have hNk := Lib.hid (show N = ByteArray.mk #[109, 97, 112] by rw [HNN.out]; rfl)
                obtain ⟨WR, hWR⟩ : ∃ WR, WR = wc.alloc (.cells nRow.toArray 9) := ⟨_, rfl⟩
                have NB := run_nbs wc
                rw [← hWR] at NB
                have hld : WR.cell? ⟨wc.heap.size, 2, none⟩ = some (.string N) := by rw [hWR, cell_of_row _ _ _ _ _ _ (heap_alloc_new wc _), hNk.out]; rfl
                have HWR := Lib.hid (show Held wc WR from by rw [hWR]; exact (Below.refl _ _).alloc (Nat.le_refl _) _)
                clear HNN HNN2 NA HDEC HI hs4 hWR
                go_upto_region 10 with fail
                refine wp_region_list ?_
                refine wpList_bs rfl _ _ _ rfl _ ?_ NB ?_
                · simp only [List.map_toArray, List.map_cons, List.map_nil, Act.eval]
                clear NB
                go_wp2_with fail
                go_meet
                exact ⟨rfl, HWR.out⟩
              · have hNk := Lib.hid (show N = ByteArray.mk #[98, 117, 99, 107, 101, 116] by rw [HNN.out]; rfl)
                obtain ⟨WR, hWR⟩ : ∃ WR, WR = wc.alloc (.cells nRow.toArray 9) := ⟨_, rfl⟩
                have NB := run_nbs wc
                rw [← hWR] at NB
                have hld : WR.cell? ⟨wc.heap.size, 3, none⟩ = some (.string N) := by rw [hWR, cell_of_row _ _ _ _ _ _ (heap_alloc_new wc _), hNk.out]; rfl
                have HWR := Lib.hid (show Held wc WR from by rw [hWR]; exact (Below.refl _ _).alloc (Nat.le_refl _) _)
                clear HNN HNN2 NA HDEC HI hs4 hWR
                go_upto_region 10 with fail
                refine wp_region_list ?_
                refine wpList_bs rfl _ _ _ rfl _ ?_ NB ?_
                · simp only [List.map_toArray, List.map_cons, List.map_nil, Act.eval]
                clear NB
                go_wp2_with fail
                go_meet
                exact ⟨rfl, HWR.out⟩
              · have hNk := Lib.hid (show N = ByteArray.mk #[111, 118, 101, 114, 102, 108, 111, 119] by rw [HNN.out]; rfl)
                obtain ⟨WR, hWR⟩ : ∃ WR, WR = wc.alloc (.cells nRow.toArray 9) := ⟨_, rfl⟩
                have NB := run_nbs wc
                rw [← hWR] at NB
                have hld : WR.cell? ⟨wc.heap.size, 4, none⟩ = some (.string N) := by rw [hWR, cell_of_row _ _ _ _ _ _ (heap_alloc_new wc _), hNk.out]; rfl
                have HWR := Lib.hid (show Held wc WR from by rw [hWR]; exact (Below.refl _ _).alloc (Nat.le_refl _) _)
                clear HNN HNN2 NA HDEC HI hs4 hWR
                go_upto_region 10 with fail
                refine wp_region_list ?_
                refine wpList_bs rfl _ _ _ rfl _ ?_ NB ?_
                · simp only [List.map_toArray, List.map_cons, List.map_nil, Act.eval]
                clear NB
                go_wp2_with fail
                go_meet
                exact ⟨rfl, HWR.out⟩
              · have hNk := Lib.hid (show N = ByteArray.mk #[98, 108, 111, 98] by rw [HNN.out]; rfl)
                obtain ⟨WR, hWR⟩ : ∃ WR, WR = wc.alloc (.cells nRow.toArray 9) := ⟨_, rfl⟩
                have NB := run_nbs wc
                rw [← hWR] at NB
                have hld : WR.cell? ⟨wc.heap.size, 5, none⟩ = some (.string N) := by rw [hWR, cell_of_row _ _ _ _ _ _ (heap_alloc_new wc _), hNk.out]; rfl
                have HWR := Lib.hid (show Held wc WR from by rw [hWR]; exact (Below.refl _ _).alloc (Nat.le_refl _) _)
                clear HNN HNN2 NA HDEC HI hs4 hWR
                go_upto_region 10 with fail
                refine wp_region_list ?_
                refine wpList_bs rfl _ _ _ rfl _ ?_ NB ?_
                · simp only [List.map_toArray, List.map_cons, List.map_nil, Act.eval]
                clear NB
                go_wp2_with fail
                go_meet
                exact ⟨rfl, HWR.out⟩
            | false =>
              have hk := (HDEC.out _ HI.out).2 rfl
              have hNk : N = ByteArray.mk #[] := by rw [HNN.out]; unfold nm; rw [if_neg hk]; rfl
              clear hk
              go_wp2_with fail
              go_meet
              exact ⟨by rw [hNk], Below.refl _ _⟩
          case rest =>
            obtain ⟨rfl, hc⟩ := hcut
            have HC := Lib.hid hc.out
            clear hc HI HDEC
            go_upto_region 11 with fail
            replace HP6 := Lib.hid (HP6.out.kept HC.out)
            replace HX6 := Lib.hid (HX6.out.kept HC.out)
            replace HY6 := Lib.hid (HY6.out.kept HC.out)
            replace HE6 := Lib.hid (HE6.out.kept HC.out)
            replace HB6 := Lib.hid (HB6.out.trans (Below.mono HC.out (Below.size HB6.out)))
            clear HC
            generalize wc = V at *
            have HNV := Lib.hid (fun r (h : Held V r) => HN.out.kept (HB6.out.trans (Below.mono h (Below.size HB6.out))))
            have NN := Lib.hid (fun r (h : Held V r) => NA.out r (HNV.out r h))
            have X0 := fun r (h : Held V r) => (HX6.out.kept h).cells.1
            have X1 := fun r (h : Held V r) => (HX6.out.kept h).cells.2.1
            have X2 := fun r (h : Held V r) => (HX6.out.kept h).cells.2.2.1
            have X3 := fun r (h : Held V r) => (HX6.out.kept h).cells.2.2.2
            have Y0 := fun r (h : Held V r) => (HY6.out.kept h).cells.1
            have Y1 := fun r (h : Held V r) => (HY6.out.kept h).cells.2.1
            have Y2 := fun r (h : Held V r) => (HY6.out.kept h).cells.2.2.1
            have Y3 := fun r (h : Held V r) => (HY6.out.kept h).cells.2.2.2
            have E0 := fun r (h : Held V r) => (HE6.out.kept h).cells.1
            have E1 := fun r (h : Held V r) => (HE6.out.kept h).cells.2.1
            have E2 := fun r (h : Held V r) => (HE6.out.kept h).cells.2.2.1
            have E3 := fun r (h : Held V r) => (HE6.out.kept h).cells.2.2.2
            refine wp_region_noPanic ?_
            refine wp_region_held_drew (S := Held V) (by kernel_rfl) ?_ (fun hHeld => ?_)
            · exact Held.start _
            refine wpAnyH_take (i := 0) (oi := { dst := some 68, op := Op.move (Operand.tmp 9), type := 9, pos := "law.go:32", after := #[], guard := none }) (v := .string S) rfl (by kernel_rfl) (by kernel_rfl) (by kernel_rfl) (fun _ _ _ h => h) (Or.inl ⟨by rfl, fun w' hSw => by ((try dsimp only at hSw); go_simp)⟩) (by assumption) ?_
            (try simp only [Act.put, List.setIfInBounds_toArray, List.set_cons_zero, List.set_cons_succ])
            refine wpAnyH_take (i := 1) (oi := { dst := some 69, op := Op.move (Operand.tmp 11), type := 9, pos := "law.go:32", after := #[], guard := none }) (v := .string S) rfl (by kernel_rfl) (by kernel_rfl) (by kernel_rfl) (fun _ _ _ h => h) (Or.inl ⟨by rfl, fun w' hSw => by ((try dsimp only at hSw); go_simp)⟩) (by assumption) ?_
            (try simp only [Act.put, List.setIfInBounds_toArray, List.set_cons_zero, List.set_cons_succ])
            refine wpAnyH_take (i := 2) (oi := { dst := some 70, op := Op.binOp BinOp.neq 9 (Operand.tmp 68) (Operand.tmp 69) 9, type := 4, pos := "law.go:32", after := #[{ on := 0, ground := Ground.data }, { on := 1, ground := Ground.data }], guard := none }) (v := .bool false) rfl (by kernel_rfl) (by kernel_rfl) (by kernel_rfl) (fun _ _ _ h => h) (Or.inl ⟨by rfl, fun w' hSw => by ((try dsimp only at hSw); go_simp)⟩) (by assumption) ?_
            (try simp only [Act.put, List.setIfInBounds_toArray, List.set_cons_zero, List.set_cons_succ])
            refine wpAnyH_take (i := 3) (oi := { dst := some 71, op := Op.move (Operand.tmp 70), type := 4, pos := "law.go:32", after := #[{ on := 2, ground := Ground.data }], guard := none }) (v := .bool false) rfl (by kernel_rfl) (by kernel_rfl) (by kernel_rfl) (fun _ _ _ h => h) (Or.inl ⟨by rfl, fun w' hSw => by ((try dsimp only at hSw); go_simp)⟩) (by assumption) ?_
            (try simp only [Act.put, List.setIfInBounds_toArray, List.set_cons_zero, List.set_cons_succ])
            refine wpAnyH_take (i := 4) (oi := { dst := some 72, op := Op.move (Operand.tmp 10), type := 4, pos := "law.go:32", after := #[{ on := 3, ground := Ground.guard }], guard := some (3, false) }) (v := .bool g) rfl (by kernel_rfl) (by kernel_rfl) (by kernel_rfl) (fun _ _ _ h => h) (Or.inl ⟨by rfl, fun w' hSw => by ((try dsimp only at hSw); go_simp)⟩) (by assumption) ?_
            (try simp only [Act.put, List.setIfInBounds_toArray, List.set_cons_zero, List.set_cons_succ])
            refine wpAnyH_take (i := 5) (oi := { dst := some 73, op := Op.move (Operand.tmp 12), type := 4, pos := "law.go:32", after := #[{ on := 3, ground := Ground.guard }], guard := some (3, false) }) (v := .bool g) rfl (by kernel_rfl) (by kernel_rfl) (by kernel_rfl) (fun _ _ _ h => h) (Or.inl ⟨by rfl, fun w' hSw => by ((try dsimp only at hSw); go_simp)⟩) (by assumption) ?_
            (try simp only [Act.put, List.setIfInBounds_toArray, List.set_cons_zero, List.set_cons_succ])
            refine wpAnyH_take (i := 6) (oi := { dst := some 74, op := Op.binOp BinOp.neq 4 (Operand.tmp 72) (Operand.tmp 73) 4, type := 4, pos := "law.go:32", after := #[{ on := 4, ground := Ground.data }, { on := 5, ground := Ground.data }, { on := 3, ground := Ground.guard }], guard := some (3, false) }) (v := .bool false) rfl (by kernel_rfl) (by kernel_rfl) (by kernel_rfl) (fun _ _ _ h => h) (Or.inl ⟨by rfl, fun w' hSw => by ((try dsimp only at hSw); go_simp)⟩) (by assumption) ?_
            (try simp only [Act.put, List.setIfInBounds_toArray, List.set_cons_zero, List.set_cons_succ])
            refine wpAnyH_take (i := 7) (oi := { dst := some 75, op := Op.pick (Operand.tmp 71) (Operand.const (Value.bool true)) (Operand.tmp 74), type := 4, pos := "law.go:32", after := #[{ on := 3, ground := Ground.data }, { on := 6, ground := Ground.data }], guard := none }) (v := .bool false) rfl (by kernel_rfl) (by kernel_rfl) (by kernel_rfl) (fun _ _ _ h => h) (Or.inl ⟨by rfl, fun w' hSw => by ((try dsimp only at hSw); go_simp)⟩) (by assumption) ?_
            (try simp only [Act.put, List.setIfInBounds_toArray, List.set_cons_zero, List.set_cons_succ])
            refine wpAnyH_take (i := 8) (oi := { dst := some 76, op := Op.move (Operand.tmp 75), type := 4, pos := "law.go:32", after := #[{ on := 7, ground := Ground.data }, { on := 3, ground := Ground.chain }], guard := none }) (v := .bool false) rfl (by kernel_rfl) (by kernel_rfl) (by kernel_rfl) (fun _ _ _ h => h) (Or.inl ⟨by rfl, fun w' hSw => by ((try dsimp only at hSw); go_simp)⟩) (by assumption) ?_
            (try simp only [Act.put, List.setIfInBounds_toArray, List.set_cons_zero, List.set_cons_succ])
            refine wpAnyH_take (i := 9) (oi := { dst := some 77, op := Op.load 23 (Operand.tmp 13), type := 23, pos := "law.go:32", after := #[{ on := 8, ground := Ground.guard }], guard := some (8, false) }) (v := .agg #[.int .i64 q0, .int .i64 q1, .int .i64 q2, .string q3]) rfl (by kernel_rfl) (by kernel_rfl) (by kernel_rfl) (fun _ _ _ h => h) (Or.inl ⟨by rfl, fun w' hSw => by ((try dsimp only at hSw); have := X0 _ hSw; have := X1 _ hSw; have := X2 _ hSw; have := X3 _ hSw; go_simp)⟩) (by assumption) ?_
            (try simp only [Act.put, List.setIfInBounds_toArray, List.set_cons_zero, List.set_cons_succ])
            refine wpAnyH_take (i := 10) (oi := { dst := some 78, op := Op.load 23 (Operand.tmp 15), type := 23, pos := "law.go:32", after := #[{ on := 8, ground := Ground.guard }], guard := some (8, false) }) (v := .agg #[.int .i64 q0, .int .i64 q1, .int .i64 q2, .string q3]) rfl (by kernel_rfl) (by kernel_rfl) (by kernel_rfl) (fun _ _ _ h => h) (Or.inl ⟨by rfl, fun w' hSw => by ((try dsimp only at hSw); have := Y0 _ hSw; have := Y1 _ hSw; have := Y2 _ hSw; have := Y3 _ hSw; go_simp)⟩) (by assumption) ?_
            (try simp only [Act.put, List.setIfInBounds_toArray, List.set_cons_zero, List.set_cons_succ])
            refine wpAnyH_take (i := 11) (oi := { dst := some 79, op := Op.binOp BinOp.neq 23 (Operand.tmp 77) (Operand.tmp 78) 23, type := 4, pos := "law.go:32", after := #[{ on := 9, ground := Ground.data }, { on := 10, ground := Ground.data }, { on := 8, ground := Ground.guard }], guard := some (8, false) }) (v := .bool false) rfl (by kernel_rfl) (by kernel_rfl) (by kernel_rfl) (fun _ _ _ h => h) (Or.inl ⟨by rfl, fun w' hSw => by ((try dsimp only at hSw); go_simp)⟩) (by assumption) ?_
            (try simp only [Act.put, List.setIfInBounds_toArray, List.set_cons_zero, List.set_cons_succ])
            refine wpAnyH_take (i := 12) (oi := { dst := some 80, op := Op.pick (Operand.tmp 76) (Operand.const (Value.bool true)) (Operand.tmp 79), type := 4, pos := "law.go:32", after := #[{ on := 8, ground := Ground.data }, { on := 11, ground := Ground.data }], guard := none }) (v := .bool false) rfl (by kernel_rfl) (by kernel_rfl) (by kernel_rfl) (fun _ _ _ h => h) (Or.inl ⟨by rfl, fun w' hSw => by ((try dsimp only at hSw); go_simp)⟩) (by assumption) ?_
            (try simp only [Act.put, List.setIfInBounds_toArray, List.set_cons_zero, List.set_cons_succ])
            refine wpAnyH_take (i := 13) (oi := { dst := some 81, op := Op.move (Operand.tmp 80), type := 4, pos := "law.go:32", after := #[{ on := 12, ground := Ground.data }, { on := 8, ground := Ground.chain }], guard := none }) (v := .bool false) rfl (by kernel_rfl) (by kernel_rfl) (by kernel_rfl) (fun _ _ _ h => h) (Or.inl ⟨by rfl, fun w' hSw => by ((try dsimp only at hSw); go_simp)⟩) (by assumption) ?_
            (try simp only [Act.put, List.setIfInBounds_toArray, List.set_cons_zero, List.set_cons_succ])
            refine wpAnyH_take (i := 14) (oi := { dst := some 82, op := Op.move (Operand.tmp 14), type := 4, pos := "law.go:32", after := #[{ on := 13, ground := Ground.guard }], guard := some (13, false) }) (v := .bool h) rfl (by kernel_rfl) (by kernel_rfl) (by kernel_rfl) (fun _ _ _ h => h) (Or.inl ⟨by rfl, fun w' hSw => by ((try dsimp only at hSw); go_simp)⟩) (by assumption) ?_
            (try simp only [Act.put, List.setIfInBounds_toArray, List.set_cons_zero, List.set_cons_succ])
            refine wpAnyH_take (i := 15) (oi := { dst := some 83, op := Op.move (Operand.tmp 16), type := 4, pos := "law.go:32", after := #[{ on := 13, ground := Ground.guard }], guard := some (13, false) }) (v := .bool h) rfl (by kernel_rfl) (by kernel_rfl) (by kernel_rfl) (fun _ _ _ h => h) (Or.inl ⟨by rfl, fun w' hSw => by ((try dsimp only at hSw); go_simp)⟩) (by assumption) ?_
            (try simp only [Act.put, List.setIfInBounds_toArray, List.set_cons_zero, List.set_cons_succ])
            refine wpAnyH_take (i := 16) (oi := { dst := some 84, op := Op.binOp BinOp.neq 4 (Operand.tmp 82) (Operand.tmp 83) 4, type := 4, pos := "law.go:32", after := #[{ on := 14, ground := Ground.data }, { on := 15, ground := Ground.data }, { on := 13, ground := Ground.guard }], guard := some (13, false) }) (v := .bool false) rfl (by kernel_rfl) (by kernel_rfl) (by kernel_rfl) (fun _ _ _ h => h) (Or.inl ⟨by rfl, fun w' hSw => by ((try dsimp only at hSw); go_simp)⟩) (by assumption) ?_
            (try simp only [Act.put, List.setIfInBounds_toArray, List.set_cons_zero, List.set_cons_succ])
            refine wpAnyH_take (i := 17) (oi := { dst := some 85, op := Op.pick (Operand.tmp 81) (Operand.const (Value.bool true)) (Operand.tmp 84), type := 4, pos := "law.go:32", after := #[{ on := 13, ground := Ground.data }, { on := 16, ground := Ground.data }], guard := none }) (v := .bool false) rfl (by kernel_rfl) (by kernel_rfl) (by kernel_rfl) (fun _ _ _ h => h) (Or.inl ⟨by rfl, fun w' hSw => by ((try dsimp only at hSw); go_simp)⟩) (by assumption) ?_
            (try simp only [Act.put, List.setIfInBounds_toArray, List.set_cons_zero, List.set_cons_succ])
            refine wpAnyH_take (i := 18) (oi := { dst := some 86, op := Op.move (Operand.tmp 85), type := 4, pos := "law.go:32", after := #[{ on := 17, ground := Ground.data }, { on := 13, ground := Ground.chain }], guard := none }) (v := .bool false) rfl (by kernel_rfl) (by kernel_rfl) (by kernel_rfl) (fun _ _ _ h => h) (Or.inl ⟨by rfl, fun w' hSw => by ((try dsimp only at hSw); go_simp)⟩) (by assumption) ?_
            (try simp only [Act.put, List.setIfInBounds_toArray, List.set_cons_zero, List.set_cons_succ])
            refine wpAnyH_take (i := 19) (oi := { dst := some 87, op := Op.load 23 (Operand.tmp 17), type := 23, pos := "law.go:32", after := #[{ on := 18, ground := Ground.guard }], guard := some (18, false) }) (v := .agg #[.int .i64 kk, .int .i64 dd, .int .i64 0, .string y]) rfl (by kernel_rfl) (by kernel_rfl) (by kernel_rfl) (fun _ _ _ h => h) (Or.inl ⟨by rfl, fun w' hSw => by ((try dsimp only at hSw); have := E0 _ hSw; have := E1 _ hSw; have := E2 _ hSw; have := E3 _ hSw; go_simp)⟩) (by assumption) ?_
            (try simp only [Act.put, List.setIfInBounds_toArray, List.set_cons_zero, List.set_cons_succ])
            refine wpAnyH_take (i := 20) (oi := { dst := some 88, op := Op.move (Operand.tmp 2), type := 3, pos := "law.go:32", after := #[{ on := 18, ground := Ground.guard }], guard := some (18, false) }) (v := .int .i64 kk) rfl (by kernel_rfl) (by kernel_rfl) (by kernel_rfl) (fun _ _ _ h => h) (Or.inl ⟨by rfl, fun w' hSw => by ((try dsimp only at hSw); go_simp)⟩) (by assumption) ?_
            (try simp only [Act.put, List.setIfInBounds_toArray, List.set_cons_zero, List.set_cons_succ])
            refine wpAnyH_take (i := 21) (oi := { dst := some 89, op := Op.move (Operand.tmp 3), type := 3, pos := "law.go:32", after := #[{ on := 18, ground := Ground.guard }], guard := some (18, false) }) (v := .int .i64 dd) rfl (by kernel_rfl) (by kernel_rfl) (by kernel_rfl) (fun _ _ _ h => h) (Or.inl ⟨by rfl, fun w' hSw => by ((try dsimp only at hSw); go_simp)⟩) (by assumption) ?_
            (try simp only [Act.put, List.setIfInBounds_toArray, List.set_cons_zero, List.set_cons_succ])
            refine wpAnyH_ready (rs := [22]) (by kernel_rfl) (by simp) ?_
            refine AllReadyH.cons (o := { dst := some 90, op := Op.call { callee := Callee.value (Operand.func 15), args := #[Operand.const (Value.int IntKind.i64 240)], argTypes := #[3] }, type := 9, pos := "law.go:32", after := #[{ on := 18, ground := Ground.chain }, { on := 18, ground := Ground.guard }], guard := some (18, false) }) rfl (fun K hK => ?_) ?_
            · go_simp; go_at_call 15; refine (ZR.out _).mono ?_; rintro e u1 ⟨rfl, hb1⟩
              refine hK.out _ _ ?_ (fun hHeld => ?_)
              · exact Held.step (by assumption) hb1
              clear hK K
              (try simp only [Act.put, List.setIfInBounds_toArray, List.set_cons_zero, List.set_cons_succ])
              refine wpAnyH_take (i := 23) (oi := { dst := some 91, op := Op.build 23 #[(0, Operand.tmp 88), (1, Operand.tmp 89), (3, Operand.tmp 90)], type := 23, pos := "law.go:32", after := #[{ on := 20, ground := Ground.data }, { on := 21, ground := Ground.data }, { on := 22, ground := Ground.data }, { on := 18, ground := Ground.guard }], guard := some (18, false) }) (v := .agg #[.int .i64 kk, .int .i64 dd, .int .i64 0, .string y]) rfl (by kernel_rfl) (by kernel_rfl) (by kernel_rfl) (fun _ _ _ h => h) (Or.inl ⟨by rfl, fun w' hSw => by ((try dsimp only at hSw); go_simp)⟩) (by assumption) ?_
              (try simp only [Act.put, List.setIfInBounds_toArray, List.set_cons_zero, List.set_cons_succ])
              refine wpAnyH_take (i := 24) (oi := { dst := some 92, op := Op.binOp BinOp.neq 23 (Operand.tmp 87) (Operand.tmp 91) 23, type := 4, pos := "law.go:32", after := #[{ on := 19, ground := Ground.data }, { on := 23, ground := Ground.data }, { on := 18, ground := Ground.guard }], guard := some (18, false) }) (v := .bool false) rfl (by kernel_rfl) (by kernel_rfl) (by kernel_rfl) (fun _ _ _ h => h) (Or.inl ⟨by rfl, fun w' hSw => by ((try dsimp only at hSw); go_simp)⟩) (by assumption) ?_
              (try simp only [Act.put, List.setIfInBounds_toArray, List.set_cons_zero, List.set_cons_succ])
              refine wpAnyH_take (i := 25) (oi := { dst := some 93, op := Op.pick (Operand.tmp 86) (Operand.const (Value.bool true)) (Operand.tmp 92), type := 4, pos := "law.go:32", after := #[{ on := 18, ground := Ground.data }, { on := 24, ground := Ground.data }], guard := none }) (v := .bool false) rfl (by kernel_rfl) (by kernel_rfl) (by kernel_rfl) (fun _ _ _ h => h) (Or.inl ⟨by rfl, fun w' hSw => by ((try dsimp only at hSw); go_simp)⟩) (by assumption) ?_
              (try simp only [Act.put, List.setIfInBounds_toArray, List.set_cons_zero, List.set_cons_succ])
              refine wpAnyH_take (i := 26) (oi := { dst := some 94, op := Op.move (Operand.tmp 93), type := 4, pos := "law.go:32", after := #[{ on := 25, ground := Ground.data }, { on := 22, ground := Ground.chain }], guard := none }) (v := .bool false) rfl (by kernel_rfl) (by kernel_rfl) (by kernel_rfl) (fun _ _ _ h => h) (Or.inl ⟨by rfl, fun w' hSw => by ((try dsimp only at hSw); go_simp)⟩) (by assumption) ?_
              (try simp only [Act.put, List.setIfInBounds_toArray, List.set_cons_zero, List.set_cons_succ])
              refine wpAnyH_take (i := 27) (oi := { dst := some 95, op := Op.move (Operand.tmp 2), type := 3, pos := "law.go:32", after := #[{ on := 26, ground := Ground.guard }], guard := some (26, false) }) (v := .int .i64 kk) rfl (by kernel_rfl) (by kernel_rfl) (by kernel_rfl) (fun _ _ _ h => h) (Or.inl ⟨by rfl, fun w' hSw => by ((try dsimp only at hSw); go_simp)⟩) (by assumption) ?_
              (try simp only [Act.put, List.setIfInBounds_toArray, List.set_cons_zero, List.set_cons_succ])
              refine wpAnyH_take (i := 29) (oi := { dst := some 97, op := Op.move (Operand.tmp 18), type := 9, pos := "law.go:32", after := #[{ on := 26, ground := Ground.guard }], guard := some (26, false) }) (v := .string N) rfl (by kernel_rfl) (by kernel_rfl) (by kernel_rfl) (fun _ _ _ h => h) (Or.inl ⟨by rfl, fun w' hSw => by ((try dsimp only at hSw); go_simp)⟩) (by assumption) ?_
              (try simp only [Act.put, List.setIfInBounds_toArray, List.set_cons_zero, List.set_cons_succ])
              refine wpAnyH_ready (rs := [28]) (by kernel_rfl) (by simp) ?_
              refine AllReadyH.cons (o := { dst := some 96, op := Op.call { callee := Callee.value (Operand.func 16), args := #[Operand.tmp 95], argTypes := #[3] }, type := 9, pos := "law.go:32", after := #[{ on := 27, ground := Ground.data }, { on := 26, ground := Ground.chain }, { on := 26, ground := Ground.guard }], guard := some (26, false) }) rfl (fun K hK => ?_) ?_
              · go_simp; go_at_call 16; refine (NN.out _ (by assumption)).mono ?_; rintro e u2 ⟨rfl, rfl⟩
                refine hK.out _ _ ?_ (fun hHeld => ?_)
                · assumption
                clear hK K
                (try simp only [Act.put, List.setIfInBounds_toArray, List.set_cons_zero, List.set_cons_succ])
                refine wpAnyH_take (i := 30) (oi := { dst := some 98, op := Op.binOp BinOp.neq 9 (Operand.tmp 96) (Operand.tmp 97) 9, type := 4, pos := "law.go:32", after := #[{ on := 28, ground := Ground.data }, { on := 29, ground := Ground.data }, { on := 26, ground := Ground.guard }], guard := some (26, false) }) (v := .bool false) rfl (by kernel_rfl) (by kernel_rfl) (by kernel_rfl) (fun _ _ _ h => h) (Or.inl ⟨by rfl, fun w' hSw => by ((try dsimp only at hSw); go_simp)⟩) (by assumption) ?_
                (try simp only [Act.put, List.setIfInBounds_toArray, List.set_cons_zero, List.set_cons_succ])
                refine wpAnyH_take (i := 31) (oi := { dst := some 99, op := Op.pick (Operand.tmp 94) (Operand.const (Value.bool true)) (Operand.tmp 98), type := 4, pos := "law.go:32", after := #[{ on := 26, ground := Ground.data }, { on := 30, ground := Ground.data }], guard := none }) (v := .bool false) rfl (by kernel_rfl) (by kernel_rfl) (by kernel_rfl) (fun _ _ _ h => h) (Or.inl ⟨by rfl, fun w' hSw => by ((try dsimp only at hSw); go_simp)⟩) (by assumption) ?_
                (try simp only [Act.put, List.setIfInBounds_toArray, List.set_cons_zero, List.set_cons_succ])
                refine wpAnyH_done (by kernel_rfl) ?_ _
                refine NoPanic.normal ?_
                have HU := Lib.hid hHeld
                have HF := Lib.hid (HB6.out.trans (Below.mono HU.out (Below.size HB6.out)))
                have HPF := Lib.hid (HP6.out.kept HU.out)
                clear X0 X1 X2 X3 Y0 Y1 Y2 Y3 E0 E1 E2 E3 HB6 HP6 HX6 HY6 HE6 HU hHeld
                cases g with
                | false =>
                  go_wp2_with fail
                  go_ret
                  exact ⟨rfl, HF.out⟩
                | true =>
                  have HG := Lib.hid (GB.out rfl)
                  clear GB
                  go_wp2_with fail
                  refine (HG.out _).mono ?_; rintro e w9 ⟨rfl, hb⟩
                  have HP9 := Lib.hid (HPF.out.kept hb)
                  have HB9 := Lib.hid (HF.out.trans (hb.mono (Below.size HF.out)))
                  clear hb HPF HF
                  have HQ9 := Lib.hid (Box.new w9 (.int .i64 k) (.int .i64 d) (.int .i64 m) (.string b))
                  have hal := (Below.refl w9.heap.size w9).alloc (Nat.le_refl _) (.cells #[.int .i64 k, .int .i64 d, .int .i64 m, .string b] 23)
                  have HPA := Lib.hid (HP9.out.kept hal)
                  have HBA := Lib.hid (HB9.out.trans (hal.mono (Below.size HB9.out)))
                  clear hal
                  obtain ⟨x0, x1, x2, x3⟩ := HPA.out.cells
                  have hbb := show (b.toList == b.toList) = true by simp
                  go_wp2_with fail
                  go_ret
                  exact ⟨rfl, HBA.out⟩
              exact AllReadyH.nil
            exact AllReadyH.nil

/-! The row's step. -/
set_option maxRecDepth 100000 in
theorem lifted (os : Os) (started : os.Started) (H : Type) (enc : TypeId × Value → H) :
    ReturnsInHanded {} Tryd.checked os 3 .any (fun w args => (Rows.pageTellsSpec.pre enc Tryd.prog Tryd.f3 [] false w args ∧ laidMetH Tryd.prog laidL w) ∧ sizedMet enc Tryd.prog Tryd.f3 (OpenSpec.ofChange Rows.pageTellsSpec) false w args)
      (Rows.pageTellsSpec.post enc Tryd.prog Tryd.f3 false true false false) := by
  refine returnsInHanded_of_change_and (C := Tryd.checked) (X := fun w _ => laidMetH Tryd.prog laidL w) (fun _ _ _ hh h => h.of_heap hh) own started (by kernel_rfl) Tryd.func3
    (ChangeSpec.witness_shaped (enc := enc) (C := Tryd.checked) (os := os) (X := fun w _ => laidMetH Tryd.prog laidL w) false (World.doorLaid Tryd.prog 400 os) #[.agg #[.int .i64 0, .int .i64 0, .int .i64 0, .string ByteArray.empty], .string ByteArray.empty, .int .i64 0, .int .i64 0] 8 rfl (World.shaped_of_RefB (by kernel_rfl) (by kernel_rfl)) (by kernel_rfl) (by kernel_rfl) (by kernel_rfl) (door_met os _)) ?_
  intro W base args ds gs before hval0 hW _ _ hL _
  have hval : ∀ (j : Nat) t v, Tryd.f3.params[j]? = some t → args[j]? = some v → Value.okWide Tryd.prog W .any base t v := hval0
  have hW' := hW
  obtain ⟨p, q, hA0, hV, rfl, hfz, hnd⟩ := hW
  have hA : DataW.TrodAll enc Tryd.prog W 0 (fun _ => true) true Tryd.f3.params.toList args.toList ds p := hA0
  rw [Tryd.params3] at hA hval
  obtain ⟨v0, vs0, d0, ds0, p0, q0, hargs, rfl, rfl, h0, r0⟩ := trodAll_cons hA
  obtain ⟨v1, vs1, d1, ds1, p1, q1, rfl, rfl, rfl, h1, r1⟩ := trodAll_cons r0
  obtain ⟨v2, vs2, d2, ds2, p2, q2, rfl, rfl, rfl, h2, r2⟩ := trodAll_cons r1
  obtain ⟨v3, vs3, d3, ds3, p3, q3, rfl, rfl, rfl, h3, r3⟩ := trodAll_cons r2
  obtain ⟨rfl, rfl, rfl⟩ := trodAll_nil r3
  obtain rfl : args = #[v0, v1, v2, v3] := by cases args; simp_all
  obtain ⟨rfl, rfl⟩ := trodVars_none hV
  obtain ⟨a0, b0, c0, s0, rfl, wa0, wb0, wc0, ws0, sh0⟩ := open_page (hval 0 23 v0 rfl rfl) h0
  obtain ⟨a1, rfl, rfl, rfl, w1⟩ := Go.ChangeMaps.open_string Tryd.underlying9 (hval 1 9 v1 rfl rfl) h1
  obtain ⟨a2, rfl, rfl, rfl, w2⟩ := open_int Tryd.underlying3 (hval 2 3 v2 rfl rfl) h2
  obtain ⟨a3, rfl, rfl, rfl, w3⟩ := open_int Tryd.underlying3 (hval 3 3 v3 rfl rfl) h3
  clear hA0 hval0
  refine (walk a0 b0 c0 s0 a1 a2 a3 W wa0 wb0 wc0 ws0 w1 w2 w3 (of_laid hL)).mono fun e W' ⟨he, bel⟩ => ?_
  subst he
  exact ⟨_, rfl, _, _, _, [], _, [], hW', trodAll_mk1 (shut_bool Tryd.underlying4 _), (trodAll_cons_mk (sh0 _ _) (trodAll_cons_mk (Go.ChangeMaps.shut_string Tryd.underlying9 w1) (trodAll_cons_mk (shut_int Tryd.underlying3 w2) (trodAll_cons_mk (shut_int Tryd.underlying3 w3) trodAll_mk0)))), rfl, bel.frame _, fun h => by cases h⟩

/-- The row's statement. -/
theorem over : Rows.PageTellsSaid :=
  OpenClaim.holds_of_wide 3 Tryd.f3 rfl rfl rfl rfl rfl rfl rfl ⟨rfl, rfl, rfl, rfl, rfl⟩ rfl rfl rfl rfl rfl (by kernel_rfl) Tryd.func3 (by kernel_rfl)
    (of_decide_eq_true (by kernel_rfl)) (by unfold Func.isWrapper; first | (rw [if_pos (by decide +kernel)]; kernel_rfl) | (rw [if_neg (by decide +kernel)]; exact ⟨rfl, rfl⟩))
    (fun os started H enc _ => lifted os started H enc)

/-- The card. -/
theorem proved : Rows.PageTellsCardSaid :=
  Claim7.holds_tied_plain_at .later [] [.data] true Rows.pageTellsCard.stood.harness false
    over (fun _ h => by cases h) (by kernel_rfl) (fun _ h => by cases h) pageTells_row_tie rfl ⟨rfl, rfl⟩ (by kernel_rfl) rfl
    (fun f fn hf hfn => by
      obtain rfl : f = 3 := Option.some.inj ((show Tryd.prog.funcNamed "honeycomb/honeycomblaw5.PageTells" = some 3 by kernel_rfl).symm.trans hf) |>.symm
      obtain rfl : fn = Tryd.f3 := (Option.some.inj (Tryd.func3.symm.trans hfn)).symm
      exact ⟨by kernel_rfl, fun j t ht => by
        rw [Tryd.params3] at ht
        have hm : t ∈ [23, 9, 3, 3] := by simpa using Array.mem_of_getElem? ht
        have hall : ([23, 9, 3, 3].all fun u => !Tryd.prog.wantsStandIn u) = true := by kernel_rfl
        exact (show Tryd.prog.wantsStandIn t = false by simpa using List.all_eq_true.1 hall t hm)⟩)
    (by kernel_rfl)
end Go.Proofs.YtkopgohmocjbbaaDoor.pageTells
