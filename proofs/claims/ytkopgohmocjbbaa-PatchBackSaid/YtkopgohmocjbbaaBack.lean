/- For every page number and every three texts: what changed between two pages makes of the one the other, and back; as a whole it makes it of any page. -/
import Derived.Test.YtkopgohmocjbbaaRows
import Derived.Test.YtkopgohmocjbbaaBase
import Derived.Lib.Hide
import Derived.WalkKit
import Derived.ProofKit
import Derived.OpenShut
import Derived.ChangeOld
import Derived.Below
import Derived.Carry
namespace Go.Proofs.Ytkopgohmocjbbaa.patchBack
open Go.ChangeShapes Go.WideShapes Go.ChangeAt Go.RowKit
set_option linter.unusedVariables false

theorem own : ownKnob Try.prog.godebug = none := by kernel_rfl
theorem laidOut : laidOutB Try.prog = true := by kernel_rfl


set_option maxRecDepth 100000 in
set_option maxHeartbeats 16000000 in
theorem walk (k : Int) (s0 s1 s2 : ByteArray) (w : World) (wk : (Lit.int .i64 k).wf = true) (ws0 : s0.size ≤ maxLen) (ws1 : s1.size ≤ maxLen) (ws2 : s2.size ≤ maxLen) :
    Calls Try.prog 4 #[.int .i64 k, .string s0, .string s1, .string s2] w fun e w' => e = .returned (.bool true) ∧ Below w.heap.size w w' := by
  clear wk
  by_cases c0 : k < 0
  · as_aux_lemma =>
      have HB0 := Lib.hid (Below.refl w.heap.size w)
      have AL := Lib.hid alive_yes
      go_enter Try.func4, Try.ntmps4
      go_wp2_with fail
      refine (AL.out _).mono ?_; rintro e w1 ⟨rfl, hb⟩
      have HB1 := Lib.hid (HB0.out.trans (hb.mono (Below.size HB0.out)))
      clear hb HB0 
      go_wp2_with fail
      go_ret
      exact ⟨rfl, HB1.out⟩
  · by_cases c1 : 64 ≤ k
    · as_aux_lemma =>
        have c1' : ¬ k < 64 := by omega
        have HB0 := Lib.hid (Below.refl w.heap.size w)
        have AL := Lib.hid alive_yes
        go_enter Try.func4, Try.ntmps4
        go_wp2_with fail
        refine (AL.out _).mono ?_; rintro e w1 ⟨rfl, hb⟩
        have HB1 := Lib.hid (HB0.out.trans (hb.mono (Below.size HB0.out)))
        clear hb HB0 
        go_wp2_with fail
        go_ret
        exact ⟨rfl, HB1.out⟩
    · by_cases c2 : (300 : Int) < s0.size
      · as_aux_lemma =>
          have HB0 := Lib.hid (Below.refl w.heap.size w)
          have AL := Lib.hid alive_yes
          go_enter Try.func4, Try.ntmps4
          go_wp2_with fail
          refine (AL.out _).mono ?_; rintro e w1 ⟨rfl, hb⟩
          have HB1 := Lib.hid (HB0.out.trans (hb.mono (Below.size HB0.out)))
          clear hb HB0 
          go_wp2_with fail
          go_ret
          exact ⟨rfl, HB1.out⟩
      · by_cases c3 : (300 : Int) < s1.size
        · as_aux_lemma =>
            have HB0 := Lib.hid (Below.refl w.heap.size w)
            have AL := Lib.hid alive_yes
            go_enter Try.func4, Try.ntmps4
            go_wp2_with fail
            refine (AL.out _).mono ?_; rintro e w1 ⟨rfl, hb⟩
            have HB1 := Lib.hid (HB0.out.trans (hb.mono (Below.size HB0.out)))
            clear hb HB0 
            go_wp2_with fail
            go_ret
            exact ⟨rfl, HB1.out⟩
        · by_cases c4 : (300 : Int) < s2.size
          · as_aux_lemma =>
              have HB0 := Lib.hid (Below.refl w.heap.size w)
              have AL := Lib.hid alive_yes
              go_enter Try.func4, Try.ntmps4
              go_wp2_with fail
              refine (AL.out _).mono ?_; rintro e w1 ⟨rfl, hb⟩
              have HB1 := Lib.hid (HB0.out.trans (hb.mono (Below.size HB0.out)))
              clear hb HB0 
              go_wp2_with fail
              go_ret
              exact ⟨rfl, HB1.out⟩
          · have hk : 0 ≤ k ∧ k ≤ 63 := by omega
            clear c0 c1
            have PG0 := Lib.hid (fun w => page_any s0 ws0 w)
            have PG1 := Lib.hid (fun w => page_any s1 ws1 w)
            have PG2 := Lib.hid (fun w => page_any s2 ws2 w)
            have hl0 := pageOf_length s0.data.toList
            have hl1 := pageOf_length s1.data.toList
            have hl2 := pageOf_length s2.data.toList
            clear ws0 ws1 ws2
            generalize pageOf s0.data.toList = p0 at *
            generalize pageOf s1.data.toList = p1 at *
            generalize pageOf s2.data.toList = p2 at *
            have hW : okW k (str p1) = true := decide_eq_true ⟨hk, by rw [str_size, hl1]⟩
            have WH := Lib.hid (fun w => whole_any k (str p1) (str_max _ hl1) w)
            rw [hW, show wholeS k (str p1) = whole k (str p1) by unfold wholeS; rw [hW]; rfl] at WH
            have AZ := Lib.hid (fun w => apply_any k 0 (str p1) (str p2) (str_max _ hl1) (str_max _ hl2) w)
            have hoW : applyOk p2 (whole k (str p1)) = true := by unfold applyOk; rw [decide_eq_true hl2, okP_iff.2 (whole_ok hk (by rw [str_size, hl1]))]; rfl
            rw [str_toList] at AZ
            change Hid (∀ w, Calls _ _ _ _ (fun e w' => e = .returned (.tuple #[.string (str (applyS p2 (whole k (str p1)))), .bool (applyOk p2 (whole k (str p1)))]) ∧ _)) at AZ
            rw [hoW, show applyS p2 (whole k (str p1)) = p1 by unfold applyS; rw [hoW, if_pos rfl, over_whole hl2 (by rw [str_size, hl1]), str_toList]] at AZ
            clear hW hoW
            unfold pvP pv whole at WH
            unfold pv at AZ
            dsimp only at WH AZ
            by_cases heq : p0 = p1
            · subst heq
              as_aux_lemma =>
                have DI := Lib.hid (fun w => diff_any k (str p0) (str p0) (str_max _ hl0) (str_max _ hl0) w)
                rw [str_toList] at DI
                have ho : okD k p0 p0 = false := decide_eq_false (fun h => h.2.2.2 rfl)
                rw [ho, show difS k p0 p0 = nilP by unfold difS; rw [ho]; rfl] at DI
                unfold pvP pv nilP at DI
                dsimp only at DI
                clear ho hl0 hl1 hl2
                generalize str p0 = Y at *
                generalize str p2 = Z at *
                have hse : (Y.toList == Y.toList) = true := by simp
                have k0 := hk.1
                have k1 : k < 64 := by omega
                clear hk
                have HB0 := Lib.hid (Below.refl w.heap.size w)
                have AL := Lib.hid alive_yes
                go_enter Try.func4, Try.ntmps4
                go_wp2_with fail
                refine (AL.out _).mono ?_; rintro e w1 ⟨rfl, hb⟩
                have HB1 := Lib.hid (HB0.out.trans (hb.mono (Below.size HB0.out)))
                clear hb HB0 
                go_wp2_with fail
                refine (PG0.out _).mono ?_; rintro e w2 ⟨rfl, hb⟩
                have HB2 := Lib.hid (HB1.out.trans (hb.mono (Below.size HB1.out)))
                clear hb HB1 
                go_wp2_with fail
                refine (PG1.out _).mono ?_; rintro e w3 ⟨rfl, hb⟩
                have HB3 := Lib.hid (HB2.out.trans (hb.mono (Below.size HB2.out)))
                clear hb HB2 
                go_wp2_with fail
                refine (PG2.out _).mono ?_; rintro e w4 ⟨rfl, hb⟩
                have HB4 := Lib.hid (HB3.out.trans (hb.mono (Below.size HB3.out)))
                clear hb HB3 
                go_wp2_with fail
                refine (DI.out _).mono ?_; rintro e w5 ⟨rfl, hb⟩
                have HB5 := Lib.hid (HB4.out.trans (hb.mono (Below.size HB4.out)))
                clear hb HB4 
                go_wp2_with fail
                have HD5 := Lib.hid (Box.new w5 (.int .i64 0) (.int .i64 0) (.string ⟨#[]⟩))
                have hal := (Below.refl w5.heap.size w5).alloc (Nat.le_refl _) (.cells #[.int .i64 0, .int .i64 0, .string ⟨#[]⟩] 26)
                replace HB5 := Lib.hid (HB5.out.trans (hal.mono (Below.size HB5.out)))
                clear hal
                obtain ⟨bHD, hbHD⟩ : ∃ bHD, bHD = w5.heap.size := ⟨_, rfl⟩
                generalize w5.alloc (.cells #[.int .i64 0, .int .i64 0, .string ⟨#[]⟩] 26) = v5 at *
                rw [← hbHD] at HD5 ⊢
                clear hbHD
                refine (WH.out _).mono ?_; rintro e w6 ⟨rfl, hb⟩
                have HD6 := Lib.hid (HD5.out.kept hb)
                have HB6 := Lib.hid (HB5.out.trans (hb.mono (Below.size HB5.out)))
                clear hb HB5 HD5
                go_wp2_with fail
                have HW6 := Lib.hid (Box.new w6 (.int .i64 k) (.int .i64 0) (.string Y))
                have hal := (Below.refl w6.heap.size w6).alloc (Nat.le_refl _) (.cells #[.int .i64 k, .int .i64 0, .string Y] 26)
                replace HD6 := Lib.hid (HD6.out.below hal (Nat.le_refl _))
                replace HB6 := Lib.hid (HB6.out.trans (hal.mono (Below.size HB6.out)))
                clear hal
                obtain ⟨bHW, hbHW⟩ : ∃ bHW, bHW = w6.heap.size := ⟨_, rfl⟩
                generalize w6.alloc (.cells #[.int .i64 k, .int .i64 0, .string Y] 26) = v6 at *
                rw [← hbHW] at HW6 ⊢
                clear hbHW
                obtain ⟨x0, x1, x2⟩ := HW6.out.cells
                go_wp2_with fail
                refine (AZ.out _).mono ?_; rintro e w7 ⟨rfl, hb⟩
                have HD7 := Lib.hid (HD6.out.kept hb)
                have HW7 := Lib.hid (HW6.out.kept hb)
                have HB7 := Lib.hid (HB6.out.trans (hb.mono (Below.size HB6.out)))
                clear hb HB6 HD6 HW6
                clear x0 x1 x2
                go_wp2_with fail
                go_ret
                exact ⟨rfl, HB7.out⟩
            · as_aux_lemma =>
                have DI := Lib.hid (fun w => diff_any k (str p0) (str p1) (str_max _ hl0) (str_max _ hl1) w)
                have DB := Lib.hid (fun w => diff_any k (str p1) (str p0) (str_max _ hl1) (str_max _ hl0) w)
                rw [str_toList, str_toList] at DI DB
                have ho : okD k p0 p1 = true := decide_eq_true ⟨hk, hl0, hl1, heq⟩
                have ho2 : okD k p1 p0 = true := decide_eq_true ⟨hk, hl1, hl0, Ne.symm heq⟩
                rw [ho, show difS k p0 p1 = dif k p0 p1 by unfold difS; rw [ho]; rfl] at DI
                rw [ho2, show difS k p1 p0 = dif k p1 p0 by unfold difS; rw [ho2]; rfl] at DB
                have b1 := between (hl1.trans hl0.symm) heq
                have b2 := between (hl0.trans hl1.symm) (Ne.symm heq)
                obtain ⟨ea, ez⟩ := b2.same b1.symm
                have o1 := dif_ok (page := k) hk hl0 hl1 heq
                have o2 := dif_ok (page := k) hk hl1 hl0 (Ne.symm heq)
                have v1 := over_dif (page := k) hk hl0 hl1 heq
                have v2 := over_dif (page := k) hk hl1 hl0 (Ne.symm heq)
                have z1 := dif_size (page := k) (hl1.trans hl0.symm) heq
                have z2 := dif_size (page := k) (hl0.trans hl1.symm) (Ne.symm heq)
                rw [ea, ez] at z2
                have hof : (dif k p1 p0).ofs = (lo p0 p1 : Int) := by show ((lo p1 p0 : Nat) : Int) = _; rw [ea]
                have hof1 : (dif k p0 p1).ofs = (lo p0 p1 : Int) := rfl
                have hpg : (dif k p1 p0).pg = k := rfl
                have hpg1 : (dif k p0 p1).pg = k := rfl
                have hm1 : (dif k p0 p1).bs.size ≤ maxLen := by have := o1.2.2.2; rw [hof1] at this; unfold maxLen; omega
                have hm2 : (dif k p1 p0).bs.size ≤ maxLen := by have := o2.2.2.2; rw [hof] at this; unfold maxLen; omega
                have AX := Lib.hid (fun w => apply_any (dif k p0 p1).pg (dif k p0 p1).ofs (dif k p0 p1).bs (str p0) hm1 (str_max _ hl0) w)
                have AB := Lib.hid (fun w => apply_any (dif k p1 p0).pg (dif k p1 p0).ofs (dif k p1 p0).bs (str p1) hm2 (str_max _ hl1) w)
                rw [str_toList] at AX AB
                have q1 : applyOk p0 (dif k p0 p1) = true := by unfold applyOk; rw [decide_eq_true hl0, okP_iff.2 o1]; rfl
                have q2 : applyOk p1 (dif k p1 p0) = true := by unfold applyOk; rw [decide_eq_true hl1, okP_iff.2 o2]; rfl
                change Hid (∀ w, Calls _ _ _ _ (fun e w' => e = .returned (.tuple #[.string (str (applyS p0 (dif k p0 p1))), .bool (applyOk p0 (dif k p0 p1))]) ∧ _)) at AX
                change Hid (∀ w, Calls _ _ _ _ (fun e w' => e = .returned (.tuple #[.string (str (applyS p1 (dif k p1 p0))), .bool (applyOk p1 (dif k p1 p0))]) ∧ _)) at AB
                rw [q1, show applyS p0 (dif k p0 p1) = p1 by unfold applyS; rw [q1, if_pos rfl, v1]] at AX
                rw [q2, show applyS p1 (dif k p1 p0) = p0 by unfold applyS; rw [q2, if_pos rfl, v2]] at AB
                unfold pvP pv at DI DB
                unfold pv at AX AB
                rw [hpg, hof] at AB DB
                rw [hpg1, hof1] at AX DI
                have hss : (dif k p1 p0).bs.size = (dif k p0 p1).bs.size := by rw [z1, z2]
                have hne : ¬ str p0 = str p1 := fun e => heq (str_inj e)
                have hne2 := str_ne (x := str p0) (y := str p1) (by rw [str_toList, str_toList]; exact heq)
                generalize (dif k p1 p0).bs = S2 at *
                generalize (dif k p0 p1).bs = S at *
                generalize lo p0 p1 = a at *
                clear ho ho2 b1 b2 ea ez o1 o2 v1 v2 z1 z2 hof hof1 hpg hpg1 hm1 hm2 q1 q2 hl0 hl1 hl2 heq
                generalize str p0 = X at *
                generalize str p1 = Y at *
                generalize str p2 = Z at *
                have hne3 : ¬ X.toList = Y.toList := fun e => by rw [e] at hne2; simp at hne2
                have hse : (Y.toList == Y.toList) = true := by simp
                have hse2 : (X.toList == X.toList) = true := by simp
                have k0 := hk.1
                have k1 : k < 64 := by omega
                clear hk
                have HB0 := Lib.hid (Below.refl w.heap.size w)
                have AL := Lib.hid alive_yes
                go_enter Try.func4, Try.ntmps4
                go_wp2_with fail
                refine (AL.out _).mono ?_; rintro e w1 ⟨rfl, hb⟩
                have HB1 := Lib.hid (HB0.out.trans (hb.mono (Below.size HB0.out)))
                clear hb HB0 
                go_wp2_with fail
                refine (PG0.out _).mono ?_; rintro e w2 ⟨rfl, hb⟩
                have HB2 := Lib.hid (HB1.out.trans (hb.mono (Below.size HB1.out)))
                clear hb HB1 
                go_wp2_with fail
                refine (PG1.out _).mono ?_; rintro e w3 ⟨rfl, hb⟩
                have HB3 := Lib.hid (HB2.out.trans (hb.mono (Below.size HB2.out)))
                clear hb HB2 
                go_wp2_with fail
                refine (PG2.out _).mono ?_; rintro e w4 ⟨rfl, hb⟩
                have HB4 := Lib.hid (HB3.out.trans (hb.mono (Below.size HB3.out)))
                clear hb HB3 
                go_wp2_with fail
                refine (DI.out _).mono ?_; rintro e w5 ⟨rfl, hb⟩
                have HB5 := Lib.hid (HB4.out.trans (hb.mono (Below.size HB4.out)))
                clear hb HB4 
                go_wp2_with fail
                have HD5 := Lib.hid (Box.new w5 (.int .i64 k) (.int .i64 (a : Int)) (.string S))
                have hal := (Below.refl w5.heap.size w5).alloc (Nat.le_refl _) (.cells #[.int .i64 k, .int .i64 (a : Int), .string S] 26)
                replace HB5 := Lib.hid (HB5.out.trans (hal.mono (Below.size HB5.out)))
                clear hal
                obtain ⟨bHD, hbHD⟩ : ∃ bHD, bHD = w5.heap.size := ⟨_, rfl⟩
                generalize w5.alloc (.cells #[.int .i64 k, .int .i64 (a : Int), .string S] 26) = v5 at *
                rw [← hbHD] at HD5 ⊢
                clear hbHD
                refine (WH.out _).mono ?_; rintro e w6 ⟨rfl, hb⟩
                have HD6 := Lib.hid (HD5.out.kept hb)
                have HB6 := Lib.hid (HB5.out.trans (hb.mono (Below.size HB5.out)))
                clear hb HB5 HD5
                go_wp2_with fail
                have HW6 := Lib.hid (Box.new w6 (.int .i64 k) (.int .i64 0) (.string Y))
                have hal := (Below.refl w6.heap.size w6).alloc (Nat.le_refl _) (.cells #[.int .i64 k, .int .i64 0, .string Y] 26)
                replace HD6 := Lib.hid (HD6.out.below hal (Nat.le_refl _))
                replace HB6 := Lib.hid (HB6.out.trans (hal.mono (Below.size HB6.out)))
                clear hal
                obtain ⟨bHW, hbHW⟩ : ∃ bHW, bHW = w6.heap.size := ⟨_, rfl⟩
                generalize w6.alloc (.cells #[.int .i64 k, .int .i64 0, .string Y] 26) = v6 at *
                rw [← hbHW] at HW6 ⊢
                clear hbHW
                obtain ⟨x0, x1, x2⟩ := HW6.out.cells
                go_wp2_with fail
                refine (AZ.out _).mono ?_; rintro e w7 ⟨rfl, hb⟩
                have HD7 := Lib.hid (HD6.out.kept hb)
                have HW7 := Lib.hid (HW6.out.kept hb)
                have HB7 := Lib.hid (HB6.out.trans (hb.mono (Below.size HB6.out)))
                clear hb HB6 HD6 HW6
                clear x0 x1 x2
                obtain ⟨x0, x1, x2⟩ := HD7.out.cells
                go_wp2_with fail
                refine (AX.out _).mono ?_; rintro e w8 ⟨rfl, hb⟩
                have HD8 := Lib.hid (HD7.out.kept hb)
                have HW8 := Lib.hid (HW7.out.kept hb)
                have HB8 := Lib.hid (HB7.out.trans (hb.mono (Below.size HB7.out)))
                clear hb HB7 HD7 HW7
                clear x0 x1 x2
                go_wp2_with fail
                refine (DB.out _).mono ?_; rintro e w9 ⟨rfl, hb⟩
                have HD9 := Lib.hid (HD8.out.kept hb)
                have HW9 := Lib.hid (HW8.out.kept hb)
                have HB9 := Lib.hid (HB8.out.trans (hb.mono (Below.size HB8.out)))
                clear hb HB8 HD8 HW8
                go_wp2_with fail
                have HQ9 := Lib.hid (Box.new w9 (.int .i64 k) (.int .i64 (a : Int)) (.string S2))
                have hal := (Below.refl w9.heap.size w9).alloc (Nat.le_refl _) (.cells #[.int .i64 k, .int .i64 (a : Int), .string S2] 26)
                replace HD9 := Lib.hid (HD9.out.below hal (Nat.le_refl _))
                replace HW9 := Lib.hid (HW9.out.below hal (Nat.le_refl _))
                replace HB9 := Lib.hid (HB9.out.trans (hal.mono (Below.size HB9.out)))
                clear hal
                obtain ⟨bHQ, hbHQ⟩ : ∃ bHQ, bHQ = w9.heap.size := ⟨_, rfl⟩
                generalize w9.alloc (.cells #[.int .i64 k, .int .i64 (a : Int), .string S2] 26) = v9 at *
                rw [← hbHQ] at HQ9 ⊢
                clear hbHQ
                obtain ⟨x0, x1, x2⟩ := HQ9.out.cells
                go_wp2_with fail
                refine (AB.out _).mono ?_; rintro e w10 ⟨rfl, hb⟩
                have HD10 := Lib.hid (HD9.out.kept hb)
                have HW10 := Lib.hid (HW9.out.kept hb)
                have HQ10 := Lib.hid (HQ9.out.kept hb)
                have HB10 := Lib.hid (HB9.out.trans (hb.mono (Below.size HB9.out)))
                clear hb HB9 HD9 HW9 HQ9
                clear x0 x1 x2
                obtain ⟨x0, x1, x2⟩ := HQ10.out.cells
                obtain ⟨y0, y1, y2⟩ := HD10.out.cells
                go_wp2_with fail
                go_ret
                exact ⟨rfl, HB10.out⟩

/-! The row's step. -/
set_option maxRecDepth 100000 in
theorem lifted (os : Os) (started : os.Started) (H : Type) (enc : TypeId × Value → H) :
    ReturnsInHanded {} Try.checked os 4 .any (Rows.patchBackSpec.pre6 enc Try.prog Try.f4 Rows.patchBackRow.domain false) (Rows.patchBackSpec.post enc Try.prog Try.f4 false true false false) := by
  refine returnsInHanded_of_change (C := Try.checked) own started (by kernel_rfl) Try.func4
    (ChangeSpec.witness6 (enc := enc) (C := Try.checked) false ⟨#[], #[.int .i64 0, .string ByteArray.empty, .string ByteArray.empty, .string ByteArray.empty], []⟩ 8 (by kernel_rfl) (by kernel_rfl) (by kernel_rfl) (by kernel_rfl)) ?_
  intro W base args ds gs before hval0 hW hcnd _
  have hval : ∀ (j : Nat) t v, Try.f4.params[j]? = some t → args[j]? = some v → Value.okWide Try.prog W .any base t v := hval0
  have hW' := hW
  obtain ⟨p, q, hA0, hV, rfl, hfz, hnd⟩ := hW
  have hA : DataW.TrodAll enc Try.prog W 0 (fun _ => true) true Try.f4.params.toList args.toList ds p := hA0
  rw [Try.params4] at hA hval
  obtain ⟨v0, vs0, d0, ds0, p0, q0, hargs, rfl, rfl, h0, r0⟩ := trodAll_cons hA
  obtain ⟨v1, vs1, d1, ds1, p1, q1, rfl, rfl, rfl, h1, r1⟩ := trodAll_cons r0
  obtain ⟨v2, vs2, d2, ds2, p2, q2, rfl, rfl, rfl, h2, r2⟩ := trodAll_cons r1
  obtain ⟨v3, vs3, d3, ds3, p3, q3, rfl, rfl, rfl, h3, r3⟩ := trodAll_cons r2
  obtain ⟨rfl, rfl, rfl⟩ := trodAll_nil r3
  obtain rfl : args = #[v0, v1, v2, v3] := by cases args; simp_all
  obtain ⟨rfl, rfl⟩ := trodVars_none hV
  obtain ⟨a0, rfl, rfl, rfl, w0⟩ := open_int Try.underlying3 (hval 0 3 v0 rfl rfl) h0
  obtain ⟨a1, rfl, rfl, rfl, w1⟩ := Go.ChangeMaps.open_string Try.underlying9 (hval 1 9 v1 rfl rfl) h1
  obtain ⟨a2, rfl, rfl, rfl, w2⟩ := Go.ChangeMaps.open_string Try.underlying9 (hval 2 9 v2 rfl rfl) h2
  obtain ⟨a3, rfl, rfl, rfl, w3⟩ := Go.ChangeMaps.open_string Try.underlying9 (hval 3 9 v3 rfl rfl) h3
  clear hA0 hval0
  refine (walk a0 a1 a2 a3 W w0 w1 w2 w3).mono fun e W' ⟨he, bel⟩ => ?_
  subst he
  exact ⟨_, rfl, _, _, _, [], _, [], hW', trodAll_mk1 (shut_bool Try.underlying4 _), (trodAll_cons_mk (shut_int Try.underlying3 w0) (trodAll_cons_mk (Go.ChangeMaps.shut_string Try.underlying9 w1) (trodAll_cons_mk (Go.ChangeMaps.shut_string Try.underlying9 w2) (trodAll_cons_mk (Go.ChangeMaps.shut_string Try.underlying9 w3) trodAll_mk0)))), rfl, bel.frame _, fun h => by cases h⟩

theorem over : Rows.patchBackRow.holds Try.pinned (OpenSpec.ofChange Rows.patchBackSpec) :=
  OpenClaim.holds_of_wide 4 Try.f4 rfl rfl rfl rfl rfl rfl rfl ⟨rfl, rfl, rfl, rfl, rfl⟩ rfl rfl rfl rfl rfl (by kernel_rfl) Try.func4 (by kernel_rfl)
    (of_decide_eq_true (by kernel_rfl)) (by unfold Func.isWrapper; first | (rw [if_pos (by decide +kernel)]; kernel_rfl) | (rw [if_neg (by decide +kernel)]; exact ⟨rfl, rfl⟩))
    (fun os started H enc _ => lifted os started H enc)

/-- The statement. -/
theorem proved : Rows.PatchBackSaid := over
end Go.Proofs.Ytkopgohmocjbbaa.patchBack
