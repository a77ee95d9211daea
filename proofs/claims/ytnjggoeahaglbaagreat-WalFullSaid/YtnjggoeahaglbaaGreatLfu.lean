/- What the law of a full log needs. -/
import Derived.Test.YtnjggoeahaglbaaGreatLk
namespace Go.Proofs.YtnjggoeahaglbaaGreat.Wa
open Go.ChangeShapes Go.WideShapes Go.ChangeAt Go.RowKit
open Fr
set_option linter.unusedVariables false
set_option linter.unusedSimpArgs false
set_option maxRecDepth 100000
abbrev fullR (z : Nat) : Rc.Rc := recK 1 0 (str (zs z))
def fullG (s z m : Nat) : Lg := ⟨2, s, 1, 0, List.replicate m (Rc.putS (fullR z)), 0⟩
theorem full_right {z : Nat} (h : z ≤ 255) : Rc.rightR (fullR z) = true := recK_right (by decide) (by decide) (by rw [str_size, zs_length]; exact h)
theorem full_len {z : Nat} (h : z ≤ 255) : (Rc.putS (fullR z)).length = 32 + z := by rw [recK_length (full_right h), str_size, zs_length]
theorem full_succ (s z m : Nat) : appA (fullG s z m) (fullR z) = fullG s z (m + 1) := by
  unfold appA fullG
  rw [List.replicate_succ']
theorem full_cnt {z m : Nat} (h : z ≤ 255) : cntB (List.replicate m (Rc.putS (fullR z))) = (m * (34 + z) + 55) / 56 := by
  rw [cnt_const (L := 32 + z) (fun x hx => by rw [(List.mem_replicate.1 hx).2]; exact full_len h) (by omega) (by omega), List.length_replicate, show 32 + z + 2 = 34 + z from by omega]
theorem full_room {s z m : Nat} (h : z ≤ 255) : roomA (fullG s z m) (fullR z) = decide ((m + 1) * (34 + z) ≤ s * 56) := by
  unfold roomA
  have e := congrArg Lg.recs (full_succ s z m)
  have e2 : List.replicate m (Rc.putS (fullR z)) ++ [Rc.putS (fullR z)] = List.replicate (m + 1) (Rc.putS (fullR z)) := e
  show decide (((cntB (List.replicate m (Rc.putS (fullR z)) ++ [Rc.putS (fullR z)]) : Nat) : Int) ≤ (s : Int) - 0) = _
  rw [e2, full_cnt h]
  obtain ⟨X, hX⟩ : ∃ X, X = (m + 1) * (34 + z) := ⟨_, rfl⟩
  rw [← hX]
  by_cases hh : X ≤ s * 56
  · rw [decide_eq_true hh, decide_eq_true (by omega)]
  · rw [decide_eq_false hh, decide_eq_false (by omega)]
theorem full_div {s z m : Nat} (h : z ≤ 255) : (m + 1) * (34 + z) ≤ s * 56 ↔ m < s * 56 / (34 + z) := by
  rw [← Nat.succ_le_iff, Nat.le_div_iff_mul_le (by omega)]
end Go.Proofs.YtnjggoeahaglbaaGreat.Wa
