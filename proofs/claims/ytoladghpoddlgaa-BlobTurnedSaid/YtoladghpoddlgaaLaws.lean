/- What the laws lean on: Put, Get asked with the laws' own words. -/
import Derived.Test.YtoladghpoddlgaaAlive
import Derived.Test.YtoladghpoddlgaaBase
namespace Go.Proofs.Ytoladghpoddlgaa
open Go.ChangeShapes Go.WideShapes Go.ChangeAt Go.RowKit
set_option linter.unusedVariables false
set_option linter.unusedSimpArgs false
set_option maxRecDepth 100000
theorem in_any (x : Int) (w : World) : Calls Try.prog 23 #[.int .i64 x] w fun e w' => e = .returned (.bool (rightN x)) ∧ w = w' := by
  by_cases h1 : x ≥ 2
  · by_cases h2 : x < 64
    · have HR := Lib.hid (show rightN x = true from rightN_iff.2 ⟨h1, h2⟩)
      rw [HR.out]
      go_enter Try.func23, Try.ntmps23
      go_wp2_with fail
      go_ret
      exact ⟨rfl, rfl⟩
    · have HR := Lib.hid (show rightN x = false from rightN_no (fun h => h2 h.2))
      have h2' : 64 ≤ x := by omega
      have h3 : decide (x < 64) = false := decide_eq_false h2
      rw [HR.out]
      go_enter Try.func23, Try.ntmps23
      go_wp2_with fail
      go_ret
      exact ⟨rfl, rfl⟩
  · have HR := Lib.hid (show rightN x = false from rightN_no (fun h => h1 h.1))
    have h3 : decide (x ≥ 2) = false := decide_eq_false h1
    have h4 : decide (2 ≤ x) = false := decide_eq_false h1
    rw [HR.out]
    go_enter Try.func23, Try.ntmps23
    go_wp2_with fail
    go_ret
    exact ⟨rfl, rfl⟩
/-- Put, asked for its answer alone. -/
def Asked (ok : Bool) (w : World) (e : Ending) (w' : World) : Prop := ∃ A k c, e = .returned (.tuple #[.slice A k c, .bool ok]) ∧ Below w.heap.size w w'
theorem put_ask2 (v : BA) (a b : Int) (w : World) : Calls Try.prog 10 #[.string (str v), .slice (some ⟨w.heap.size, 0, none⟩) 2 2] (w.alloc (.cells #[.int .i64 a, .int .i64 b] 3)) fun e w' => Asked (putOk v [a, b]) w e w' := by
  refine (put_lit v [a, b] #[.int .i64 a, .int .i64 b] rfl (by simp) w).mono ?_
  rintro e w' ⟨A, c, h1, h2, h3⟩
  exact ⟨_, _, _, h1, h3⟩
theorem put_ask1 (v : BA) (a : Int) (w : World) : Calls Try.prog 10 #[.string (str v), .slice (some ⟨w.heap.size, 0, none⟩) 1 1] (w.alloc (.cells #[.int .i64 a] 3)) fun e w' => Asked (putOk v [a]) w e w' := by
  refine (put_lit v [a] #[.int .i64 a] rfl (by simp) w).mono ?_
  rintro e w' ⟨A, c, h1, h2, h3⟩
  exact ⟨_, _, _, h1, h3⟩
theorem put_ask3 (v : BA) (a b d : Int) (w : World) : Calls Try.prog 10 #[.string (str v), .slice (some ⟨w.heap.size, 0, none⟩) 3 3] (w.alloc (.cells #[.int .i64 a, .int .i64 b, .int .i64 d] 3)) fun e w' => Asked (putOk v [a, b, d]) w e w' := by
  refine (put_lit v [a, b, d] #[.int .i64 a, .int .i64 b, .int .i64 d] rfl (by simp) w).mono ?_
  rintro e w' ⟨A, c, h1, h2, h3⟩
  exact ⟨_, _, _, h1, h3⟩
theorem put_ask0 (v : BA) (w : World) : Calls Try.prog 10 #[.string (str v), .slice none 0 0] w fun e w' => Asked false w e w' := by
  refine (put_none v w).mono ?_
  rintro e w' ⟨A, c, h1, h3⟩
  exact ⟨_, _, _, h1, h3⟩
theorem putOk_len_no {v : BA} {l : List Int} (h : pagesN v.length ≠ l.length) : putOk v l = false := putOk_fits (by unfold fitN; rw [decide_eq_false h, Bool.and_false])
theorem putOk_pair {v : BA} {a b : Int} (h1 : 200 < v.length) (h2 : v.length ≤ 400) : putOk v [a, b] = (rightN a && (rightN b && decide (b ≠ a))) := by
  have hf : fitN v.length [a, b].length = true := fitN_iff.2 ⟨by simp, pagesN_two (by omega) (by omega)⟩
  rw [putOk_right hf, rightL_pair]
theorem make_str (n : Nat) (hn : n ≤ 1000) (w : World) : ∃ w2, (Instr.makeSlice 54 (.int .i64 n) (.int .i64 n)).run Try.prog w = .ok (.slice (some ⟨w.heap.size, 0, none⟩) n n) w2 ∧ (convert 54 9 (.slice (some ⟨w.heap.size, 0, none⟩) n n)).run Try.prog w2 = .ok (.string (str (zs n))) w2 ∧ Below w.heap.size w w2 := by
  obtain ⟨w2, h1, h2, h3⟩ := make_byt n hn w
  have hcv := h2.string
  rw [zs_length] at hcv
  exact ⟨w2, h1, hcv, h3⟩
end Go.Proofs.Ytoladghpoddlgaa
