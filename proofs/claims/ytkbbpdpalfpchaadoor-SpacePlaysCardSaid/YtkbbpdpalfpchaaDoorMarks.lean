/- The contracts of marks, Free, Pages, Used, with. -/
import Derived.Test.YtkbbpdpalfpchaaDoorShelf
namespace Go.Proofs.YtkbbpdpalfpchaaDoor
open Go.ChangeShapes Go.WideShapes Go.ChangeAt Go.RowKit
set_option linter.unusedVariables false
set_option linter.unusedSimpArgs false
set_option maxRecDepth 100000
theorem fine_parts (m : BA) : fine m = (decide (8 ≤ (m.length : Int) ∧ (m.length : Int) ≤ 64) && (Lib.hasPrefix m [1, 1] && decide (((m.count 1 : Nat) : Int) + ((m.count 2 : Nat) : Int) = (m.length : Int)))) := by
  unfold fine
  congr 1
  · apply decide_eq_decide.2; omega
  · congr 1
    apply decide_eq_decide.2; omega
set_option maxHeartbeats 1000000 in
theorem marks_any (k d x : Int) (b : BA) (hb : b.length ≤ 1000) (w : World) : Calls Tryd.prog 22 #[pv k d x b] w fun e w' => e = .returned (.string (str (marksS k b))) ∧ Below w.heap.size w w' := by
  have HB := Lib.hid ((Below.refl w.heap.size w).alloc (Nat.le_refl _) (.cells #[.int .i64 k, .int .i64 d, .int .i64 x, .string (str b)] 23))
  have TR := Lib.hid (fun w => trim_any b (by omega) w)
  have hs : ((str b).size : Int) = (b.length : Int) := by rw [str_size]
  have hm : (Lib.trimRightB b 0).length ≤ 1000 := by
    obtain ⟨j, hj⟩ := trim_split b
    have := congrArg List.length hj
    rw [List.length_append] at this
    omega
  unfold pv
  by_cases c0 : k = 2
  · by_cases c1 : b.length = 240
    · have hs' : ((str b).size : Int) = 240 := by omega
      have e0 : marksS k b = if fine (Lib.trimRightB b 0) then Lib.trimRightB b 0 else [] := by unfold marksS; rw [if_pos ⟨c0, c1⟩]
      rw [e0, fine_parts]
      clear e0 hs c1
      subst c0
      generalize Lib.trimRightB b 0 = m at *
      have CO := Lib.hid (countable_any (m.length : Int))
      have PR := Lib.hid (prefix_any m)
      have C1 := Lib.hid (count_any m 1)
      have C2 := Lib.hid (count_any m 2)
      have hc := (count12 m).1
      have e1 : IntKind.i64.wrap (((m.count 1 : Nat) : Int) + ((m.count 2 : Nat) : Int)) = ((m.count 1 : Nat) : Int) + ((m.count 2 : Nat) : Int) := IntWalk.i64_in _ (by omega)
      have hl : ((str m).size : Int) = (m.length : Int) := by rw [str_size]
      have hN := Lib.hid (show str [] = ByteArray.mk #[] from rfl)
      generalize str b = s at *
      by_cases q1 : 8 ≤ (m.length : Int) ∧ (m.length : Int) ≤ 64
      · rw [decide_eq_true q1] at CO ⊢
        clear q1
        cases q2 : Lib.hasPrefix m [1, 1] with
        | true =>
          rw [q2] at PR
          clear q2
          by_cases q3 : ((m.count 1 : Nat) : Int) + ((m.count 2 : Nat) : Int) = (m.length : Int)
          · rw [decide_eq_true q3]
            rw [show (if (true && (true && true)) = true then m else []) = m from rfl]
            rw [q3] at e1
            generalize ((m.count 1 : Nat) : Int) = n1 at *
            generalize ((m.count 2 : Nat) : Int) = n2 at *
            generalize (m.length : Int) = L at *
            generalize str m = sm at *
            clear hm hc
            go_enter Tryd.func22, Tryd.ntmps22
            go_wp2_with fail
            refine (TR.out _).mono ?_; rintro e w1 ⟨rfl, rfl⟩
            go_wp2_with fail
            refine (CO.out _).mono ?_; rintro e w1 ⟨rfl, rfl⟩
            go_wp2_with fail
            refine (PR.out _).mono ?_; rintro e w1 ⟨rfl, rfl⟩
            go_wp2_with fail
            refine (C1.out _).mono ?_; rintro e w1 ⟨rfl, rfl⟩
            go_wp2_with fail
            refine (C2.out _).mono ?_; rintro e w1 ⟨rfl, rfl⟩
            go_wp2_with fail
            go_ret
            exact ⟨rfl, HB.out⟩
          · rw [decide_eq_false q3]
            rw [show (if (true && (true && false)) = true then m else []) = [] from rfl, hN.out]
            generalize ((m.count 1 : Nat) : Int) = n1 at *
            generalize ((m.count 2 : Nat) : Int) = n2 at *
            generalize (m.length : Int) = L at *
            generalize str m = sm at *
            clear hm hc
            go_enter Tryd.func22, Tryd.ntmps22
            go_wp2_with fail
            refine (TR.out _).mono ?_; rintro e w1 ⟨rfl, rfl⟩
            go_wp2_with fail
            refine (CO.out _).mono ?_; rintro e w1 ⟨rfl, rfl⟩
            go_wp2_with fail
            refine (PR.out _).mono ?_; rintro e w1 ⟨rfl, rfl⟩
            go_wp2_with fail
            refine (C1.out _).mono ?_; rintro e w1 ⟨rfl, rfl⟩
            go_wp2_with fail
            refine (C2.out _).mono ?_; rintro e w1 ⟨rfl, rfl⟩
            go_wp2_with fail
            go_ret
            exact ⟨rfl, HB.out⟩
        | false =>
          rw [q2] at PR
          rw [show (if (true && (false && decide (((m.count 1 : Nat) : Int) + ((m.count 2 : Nat) : Int) = (m.length : Int)))) = true then m else []) = [] from rfl, hN.out]
          clear q2
          generalize (m.length : Int) = L at *
          generalize str m = sm at *
          clear hm hc e1
          go_enter Tryd.func22, Tryd.ntmps22
          go_wp2_with fail
          refine (TR.out _).mono ?_; rintro e w1 ⟨rfl, rfl⟩
          go_wp2_with fail
          refine (CO.out _).mono ?_; rintro e w1 ⟨rfl, rfl⟩
          go_wp2_with fail
          refine (PR.out _).mono ?_; rintro e w1 ⟨rfl, rfl⟩
          go_wp2_with fail
          go_ret
          exact ⟨rfl, HB.out⟩
      · rw [decide_eq_false q1] at CO ⊢
        rw [show ∀ t : Bool, (if (false && t) = true then m else []) = [] from fun t => rfl, hN.out]
        clear q1
        generalize (m.length : Int) = L at *
        generalize str m = sm at *
        clear hm hc e1
        go_enter Tryd.func22, Tryd.ntmps22
        go_wp2_with fail
        refine (TR.out _).mono ?_; rintro e w1 ⟨rfl, rfl⟩
        go_wp2_with fail
        refine (CO.out _).mono ?_; rintro e w1 ⟨rfl, rfl⟩
        go_wp2_with fail
        go_ret
        exact ⟨rfl, HB.out⟩
    · have e0 : marksS k b = [] := by unfold marksS; rw [if_neg (fun h => c1 h.2)]
      rw [e0, show str [] = ByteArray.mk #[] from rfl]
      have hs' : ((str b).size : Int) ≠ 240 := by omega
      have hs2 : (((str b).size : Int) == 240) = false := by simpa using hs'
      clear e0 hs c1 hm
      subst c0
      generalize str b = s at *
      go_enter Tryd.func22, Tryd.ntmps22
      go_wp2_with fail
      go_ret
      exact ⟨rfl, HB.out⟩
  · have e0 : marksS k b = [] := by unfold marksS; rw [if_neg (fun h => c0 h.1)]
    rw [e0, show str [] = ByteArray.mk #[] from rfl]
    have hk : (k == 2) = false := by simpa using c0
    clear e0 hs hm
    generalize str b = s at *
    go_enter Tryd.func22, Tryd.ntmps22
    go_wp2_with fail
    go_ret
    exact ⟨rfl, HB.out⟩
theorem free_any (k d x : Int) (b : BA) (hb : b.length ≤ 1000) (w : World) : Calls Tryd.prog 15 #[pv k d x b] w fun e w' => e = .returned (.int .i64 ((marksS k b).count 2)) ∧ Below w.heap.size w w' := by
  have MA := Lib.hid (marks_any k d x b hb)
  have HB := Lib.hid ((Below.refl w.heap.size w).alloc (Nat.le_refl _) (.cells #[.int .i64 k, .int .i64 d, .int .i64 x, .string (str b)] 23))
  have C2 := Lib.hid (count_any (marksS k b) 2)
  unfold pv at *
  generalize str b = s at *
  generalize ((List.count 2 (marksS k b) : Nat) : Int) = n2 at *
  generalize str (marksS k b) = m at *
  go_enter Tryd.func15, Tryd.ntmps15
  go_wp2_with fail
  refine (MA.out _).mono ?_; rintro e w1 ⟨rfl, hb1⟩
  have HB1 := Lib.hid (HB.out.trans (hb1.mono HB.out.size))
  clear hb1
  go_wp2_with fail
  refine (C2.out _).mono ?_; rintro e w1 ⟨rfl, rfl⟩
  go_wp2_with fail
  go_ret
  exact ⟨rfl, HB1.out⟩
theorem pages_any (k d x : Int) (b : BA) (hb : b.length ≤ 1000) (w : World) : Calls Tryd.prog 16 #[pv k d x b] w fun e w' => e = .returned (.int .i64 ((marksS k b).length)) ∧ Below w.heap.size w w' := by
  have MA := Lib.hid (marks_any k d x b hb)
  have HB := Lib.hid ((Below.refl w.heap.size w).alloc (Nat.le_refl _) (.cells #[.int .i64 k, .int .i64 d, .int .i64 x, .string (str b)] 23))
  have hl : (((marksS k b).length : Nat) : Int) = ((str (marksS k b)).size : Int) := by rw [str_size]
  rw [hl]
  clear hl
  unfold pv at *
  generalize str b = s at *
  generalize str (marksS k b) = m at *
  go_enter Tryd.func16, Tryd.ntmps16
  go_wp2_with fail
  refine (MA.out _).mono ?_; rintro e w1 ⟨rfl, hb1⟩
  have HB1 := Lib.hid (HB.out.trans (hb1.mono HB.out.size))
  clear hb1
  go_wp2_with fail
  go_ret
  exact ⟨rfl, HB1.out⟩
end Go.Proofs.YtkbbpdpalfpchaaDoor
