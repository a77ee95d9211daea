/- The contracts of within, valid, the document's own test of a page, Of, Zeros. -/
import Derived.Test.YtkopgohmocjbbaaDoorChecked
import Derived.Test.YtkopgohmocjbbaaDoorPlain
import Derived.WalkKit
import Derived.ProofKit
import Derived.IntWalk
import Derived.Below
import Derived.Carry
import Derived.Laws.BytesArg
import Derived.Laws.MakeOwn
import Derived.Laws.IdiomStrings
import Derived.SliceStrings
import Derived.LoopTactic
namespace Go.Proofs.YtkopgohmocjbbaaDoor
open Go.ChangeShapes Go.WideShapes Go.ChangeAt Go.RowKit
set_option linter.unusedVariables false
set_option linter.unusedSimpArgs false
/-- A page as the program holds it. -/
def pv (k d n : Int) (b : ByteArray) : Value := .agg #[.int .i64 k, .int .i64 d, .int .i64 n, .string b]
def okV (k d n : Int) (b : ByteArray) : Bool := decide ((0 ≤ k ∧ k ≤ 5) ∧ (0 ≤ d ∧ d ≤ 5) ∧ (0 ≤ n ∧ n ≤ 63) ∧ b.size = 240)
theorem within_any (n m : Int) (w : World) : Calls Tryd.prog 22 #[.int .i64 n, .int .i64 m] w fun e w' => e = .returned (.bool (decide (0 ≤ n ∧ n ≤ m))) ∧ w = w' := by
  by_cases h1 : 0 ≤ n
  · by_cases h2 : n ≤ m
    · rw [decide_eq_true (show 0 ≤ n ∧ n ≤ m from ⟨h1, h2⟩)]
      go_enter Tryd.func22, Tryd.ntmps22
      go_wp2_with fail
      go_ret
      exact ⟨rfl, rfl⟩
    · rw [decide_eq_false (show ¬ (0 ≤ n ∧ n ≤ m) from fun h => h2 h.2)]
      go_enter Tryd.func22, Tryd.ntmps22
      go_wp2_with fail
      go_ret
      exact ⟨rfl, rfl⟩
  · rw [decide_eq_false (show ¬ (0 ≤ n ∧ n ≤ m) from fun h => h1 h.1)]
    go_enter Tryd.func22, Tryd.ntmps22
    go_wp2_with fail
    go_ret
    exact ⟨rfl, rfl⟩
theorem valid_any (k d n : Int) (b : ByteArray) (w : World) : Calls Tryd.prog 17 #[pv k d n b] w fun e w' => e = .returned (.bool (okV k d n b)) ∧ Below w.heap.size w w' := by
  unfold okV pv
  by_cases h0 : 0 ≤ k ∧ k ≤ 5
  · by_cases h1 : 0 ≤ d ∧ d ≤ 5
    · by_cases h2 : 0 ≤ n ∧ n ≤ 63
      · by_cases h3 : b.size = 240
        · rw [decide_eq_true (p := _ ∧ _) ⟨h0, h1, h2, h3⟩]
          have h3' : (b.size : Int) = 240 := by omega
          have W0 := Lib.hid (within_any k 5)
          rw [decide_eq_true h0] at W0
          have W1 := Lib.hid (within_any d 5)
          rw [decide_eq_true h1] at W1
          have W2 := Lib.hid (within_any n 63)
          rw [decide_eq_true h2] at W2
          have HB := Lib.hid ((Below.refl w.heap.size w).alloc (Nat.le_refl _) (.cells #[.int .i64 k, .int .i64 d, .int .i64 n, .string b] 23))
          clear h0 h1 h2
          go_enter Tryd.func17, Tryd.ntmps17
          go_wp2_with fail
          refine (W0.out _).mono ?_; rintro e w0 ⟨rfl, rfl⟩
          go_wp2_with fail
          refine (W1.out _).mono ?_; rintro e w1 ⟨rfl, rfl⟩
          go_wp2_with fail
          refine (W2.out _).mono ?_; rintro e w2 ⟨rfl, rfl⟩
          go_wp2_with fail
          go_ret
          exact ⟨rfl, HB.out⟩
        · rw [decide_eq_false (p := _ ∧ _) (fun h => h3 h.2.2.2)]
          have h3' : ((b.size : Int) == 240) = false := by rw [beq_eq_false_iff_ne]; omega
          have W0 := Lib.hid (within_any k 5)
          rw [decide_eq_true h0] at W0
          have W1 := Lib.hid (within_any d 5)
          rw [decide_eq_true h1] at W1
          have W2 := Lib.hid (within_any n 63)
          rw [decide_eq_true h2] at W2
          have HB := Lib.hid ((Below.refl w.heap.size w).alloc (Nat.le_refl _) (.cells #[.int .i64 k, .int .i64 d, .int .i64 n, .string b] 23))
          clear h0 h1 h2
          go_enter Tryd.func17, Tryd.ntmps17
          go_wp2_with fail
          refine (W0.out _).mono ?_; rintro e w0 ⟨rfl, rfl⟩
          go_wp2_with fail
          refine (W1.out _).mono ?_; rintro e w1 ⟨rfl, rfl⟩
          go_wp2_with fail
          refine (W2.out _).mono ?_; rintro e w2 ⟨rfl, rfl⟩
          go_wp2_with fail
          go_ret
          exact ⟨rfl, HB.out⟩
      · rw [decide_eq_false (p := _ ∧ _) (fun h => h2 h.2.2.1)]
        have W0 := Lib.hid (within_any k 5)
        rw [decide_eq_true h0] at W0
        have W1 := Lib.hid (within_any d 5)
        rw [decide_eq_true h1] at W1
        have W2 := Lib.hid (within_any n 63)
        rw [decide_eq_false h2] at W2
        have HB := Lib.hid ((Below.refl w.heap.size w).alloc (Nat.le_refl _) (.cells #[.int .i64 k, .int .i64 d, .int .i64 n, .string b] 23))
        clear h0 h1 h2
        go_enter Tryd.func17, Tryd.ntmps17
        go_wp2_with fail
        refine (W0.out _).mono ?_; rintro e w0 ⟨rfl, rfl⟩
        go_wp2_with fail
        refine (W1.out _).mono ?_; rintro e w1 ⟨rfl, rfl⟩
        go_wp2_with fail
        refine (W2.out _).mono ?_; rintro e w2 ⟨rfl, rfl⟩
        go_wp2_with fail
        go_ret
        exact ⟨rfl, HB.out⟩
    · rw [decide_eq_false (p := _ ∧ _) (fun h => h1 h.2.1)]
      have W0 := Lib.hid (within_any k 5)
      rw [decide_eq_true h0] at W0
      have W1 := Lib.hid (within_any d 5)
      rw [decide_eq_false h1] at W1
      have HB := Lib.hid ((Below.refl w.heap.size w).alloc (Nat.le_refl _) (.cells #[.int .i64 k, .int .i64 d, .int .i64 n, .string b] 23))
      clear h0 h1
      go_enter Tryd.func17, Tryd.ntmps17
      go_wp2_with fail
      refine (W0.out _).mono ?_; rintro e w0 ⟨rfl, rfl⟩
      go_wp2_with fail
      refine (W1.out _).mono ?_; rintro e w1 ⟨rfl, rfl⟩
      go_wp2_with fail
      go_ret
      exact ⟨rfl, HB.out⟩
  · rw [decide_eq_false (p := _ ∧ _) (fun h => h0 h.1)]
    have W0 := Lib.hid (within_any k 5)
    rw [decide_eq_false h0] at W0
    have HB := Lib.hid ((Below.refl w.heap.size w).alloc (Nat.le_refl _) (.cells #[.int .i64 k, .int .i64 d, .int .i64 n, .string b] 23))
    clear h0
    go_enter Tryd.func17, Tryd.ntmps17
    go_wp2_with fail
    refine (W0.out _).mono ?_; rintro e w0 ⟨rfl, rfl⟩
    go_wp2_with fail
    go_ret
    exact ⟨rfl, HB.out⟩
end Go.Proofs.YtkopgohmocjbbaaDoor
