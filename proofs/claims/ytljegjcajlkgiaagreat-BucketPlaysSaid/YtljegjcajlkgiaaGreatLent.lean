/- Lists of cells copied. -/
import Derived.Test.YtljegjcajlkgiaaGreatSame
import Derived.Test.YtljegjcajlkgiaaGreatChosen
import Derived.RangeFuncBox
import Derived.StillTailTactics
import Derived.BigQuiet
namespace Go.Proofs.YtljegjcajlkgiaaGreat
open Go.ChangeShapes Go.WideShapes Go.ChangeAt Go.RowKit
set_option linter.unusedVariables false
set_option linter.unusedSimpArgs false
set_option maxRecDepth 100000
set_option maxHeartbeats 1000000 in
theorem copy_walk {C n : Nat} {A : Option Addr} {c : Nat} {l : List Ce} (w : World) (h : Ces C w A l) (hn : l.length = n) (hm : n ≤ 1000000) :
    Calls Tryz.prog 35 #[.slice A n c] w fun e w' => NewL l w e w' := by
  obtain ⟨i0, hi, hz0, hz1, hz2⟩ := info_parts info_c
  have hs := h.src
  subst hn
  go_enter Tryz.func35, Tryz.ntmps35
  go_wp2_with (at_builtin; refine wpList_append_src _ rfl _ _ 26 rfl 42 i0 (.agg #[.string ⟨#[]⟩, .string ⟨#[]⟩, .int .i64 0, .int .i64 0]) 4 48 Tryz.underlying26 hi hz0 hz1 hz2 rfl (by decide) w.heap.size (.slice none 0 0) 0 [] rfl (World.ownsRow_nil _ _ _ _) A l.length c _ rfl hs (ccs_one l) (by unfold maxLen; omega) (by omega) (Nat.le_refl _) ?_; intro v' w1 hown hgrow hat)
  go_ret
  simp only [Nat.zero_add, List.nil_append] at hown
  obtain ⟨A', c', rfl⟩ := own_shape hown
  exact ⟨A', c', rfl, hown, (Below.refl _ _).grown hgrow (Nat.le_refl _) (fun k hk => by simp [Value.ownBlock] at hk)⟩
end Go.Proofs.YtljegjcajlkgiaaGreat
