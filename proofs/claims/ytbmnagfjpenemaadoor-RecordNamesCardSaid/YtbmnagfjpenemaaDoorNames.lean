/- For every two numbers: just the numbers 1 to 7 have a name, and no two of them the same. The row speaks of the table of names as the program's text lays it; the card ties that to the text. -/
import Derived.Test.YtbmnagfjpenemaaDoorRows
import Derived.Test.YtbmnagfjpenemaaDoorCards
import Derived.Test.YtbmnagfjpenemaaDoorTie
import Derived.Test.YtbmnagfjpenemaaDoorAlive
import Derived.Deep.QuietTactic
import Derived.LoopTactic
import Derived.StillTailTactics
import Derived.BigQuiet
import Derived.Deep.DeepCutAuto
import Derived.Deep.RegionLaw
import Derived.Deep.CutBlock
import Derived.Lib.Hide
import Derived.WalkKit
import Derived.ProofKit
import Derived.OpenShut
import Derived.ChangeOld
import Derived.Below
import Derived.Carry
import Derived.LaidMore
import Derived.SevenTiedAt
namespace Go.Proofs.YtbmnagfjpenemaaDoor.recordNames
open Go.ChangeShapes Go.WideShapes Go.ChangeAt Go.RowKit
set_option linter.unusedVariables false
set_option linter.unusedSimpArgs false
set_option maxRecDepth 100000

theorem nm_inj {a b : Int} (ha : 1 ≤ a ∧ a ≤ 7) (h : a ≠ b) : nm a ≠ nm b := by
  have ha' : a = 1 ∨ a = 2 ∨ a = 3 ∨ a = 4 ∨ a = 5 ∨ a = 6 ∨ a = 7 := by omega
  by_cases hb : 1 ≤ b ∧ b ≤ 7
  · have hb' : b = 1 ∨ b = 2 ∨ b = 3 ∨ b = 4 ∨ b = 5 ∨ b = 6 ∨ b = 7 := by omega
    rcases ha' with rfl | rfl | rfl | rfl | rfl | rfl | rfl <;> rcases hb' with rfl | rfl | rfl | rfl | rfl | rfl | rfl <;> first | (exact absurd rfl h) | decide
  · rw [show nm b = [] by unfold nm; rw [if_neg hb]]
    rcases ha' with rfl | rfl | rfl | rfl | rfl | rfl | rfl <;> decide
theorem nm_out {a : Int} (ha : ¬ (1 ≤ a ∧ a ≤ 7)) : nm a = [] := by unfold nm; rw [if_neg ha]
theorem nm_in {a : Int} (ha : 1 ≤ a ∧ a ≤ 7) : nm a ≠ [] := by
  have := nm_inj (a := a) (b := 8) ha (by omega)
  rw [nm_out (a := 8) (by omega)] at this
  exact this
theorem beq_str {a b : BA} (h : a ≠ b) : ((str a).toList == (str b).toList) = false := by
  rw [str_toList, str_toList, beq_eq_false_iff_ne]; exact h
set_option maxRecDepth 100000 in
set_option maxHeartbeats 4000000 in
theorem walk (a b : Int) (w : World) (wa : (Lit.int .i64 a).wf = true) (wb : (Lit.int .i64 b).wf = true) (hn : NamesAt w) :
    Calls Tryd.prog 5 #[.int .i64 a, .int .i64 b] w fun e w' => e = .returned (.bool true) ∧ Below w.heap.size w w' := by
  have HN := Lib.hid hn
  clear hn wa wb
  have A0 := Lib.hid (alive_yes w HN.out)
  go_enter Tryd.func5, Tryd.ntmps5
  go_wp2_with fail
  refine A0.out.mono ?_; rintro e w1 ⟨rfl, hb⟩
  have HB := Lib.hid hb
  have NA := Lib.hid (fun k => name_any k w1 (HN.out.kept hb))
  clear hb
  by_cases h0 : 1 ≤ a
  · by_cases h5 : a ≤ 7
    · have HI := Lib.hid (nm_in ⟨h0, h5⟩)
      by_cases hab : a = b
      · subst hab
        have NX := Lib.hid (NA.out a)
        obtain ⟨X, hX⟩ : ∃ X, X = str (nm a) := ⟨_, rfl⟩
        rw [← hX] at NX
        have e2 : ¬ X.toList = [] := by rw [hX, str_toList]; exact HI.out
        have e3 : X.toList.isEmpty = false := by rw [List.isEmpty_eq_false_iff]; exact e2
        clear hX NA
        go_wp2_with fail
        refine NX.out.mono ?_; rintro e w2 ⟨rfl, rfl⟩
        go_wp2_with fail
        go_ret
        exact ⟨rfl, HB.out⟩
      · have hab' : (a == b) = false := by rw [beq_eq_false_iff_ne]; exact hab
        have NX := Lib.hid (NA.out a)
        obtain ⟨X, hX⟩ : ∃ X, X = str (nm a) := ⟨_, rfl⟩
        rw [← hX] at NX
        have e2 : ¬ X.toList = [] := by rw [hX, str_toList]; exact HI.out
        have e3 : X.toList.isEmpty = false := by rw [List.isEmpty_eq_false_iff]; exact e2
        obtain ⟨Y, hY⟩ : ∃ Y, Y = str (nm b) := ⟨_, rfl⟩
        have NY := Lib.hid (NA.out b)
        rw [← hY] at NY
        have e4 : (X.toList == Y.toList) = false := by rw [hX, hY]; exact beq_str (nm_inj ⟨h0, h5⟩ hab)
        clear hX hY NA
        go_wp2_with fail
        refine NX.out.mono ?_; rintro e w2 ⟨rfl, rfl⟩
        go_wp2_with fail
        refine NX.out.mono ?_; rintro e w2 ⟨rfl, rfl⟩
        go_wp2_with fail
        refine NY.out.mono ?_; rintro e w2 ⟨rfl, rfl⟩
        go_wp2_with fail
        go_ret
        exact ⟨rfl, HB.out⟩
    · have HA := Lib.hid (show ¬ (1 ≤ a ∧ a ≤ 7) from fun h => h5 h.2)
      have NX := Lib.hid (NA.out a)
      obtain ⟨X, hX⟩ : ∃ X, X = str (nm a) := ⟨_, rfl⟩
      rw [← hX] at NX
      have e2 : X.toList = [] := by rw [hX, str_toList]; exact nm_out HA.out
      have e3 : X.toList.isEmpty = true := by rw [e2]; rfl
      clear hX NA
      go_wp2_with fail
      refine NX.out.mono ?_; rintro e w2 ⟨rfl, rfl⟩
      go_wp2_with fail
      go_ret
      exact ⟨rfl, HB.out⟩
  · have HA := Lib.hid (show ¬ (1 ≤ a ∧ a ≤ 7) from fun h => h0 h.1)
    have NX := Lib.hid (NA.out a)
    obtain ⟨X, hX⟩ : ∃ X, X = str (nm a) := ⟨_, rfl⟩
    rw [← hX] at NX
    have e2 : X.toList = [] := by rw [hX, str_toList]; exact nm_out HA.out
    have e3 : X.toList.isEmpty = true := by rw [e2]; rfl
    clear hX NA
    go_wp2_with fail
    refine NX.out.mono ?_; rintro e w2 ⟨rfl, rfl⟩
    go_wp2_with fail
    go_ret
    exact ⟨rfl, HB.out⟩

/-! The row's step. -/
set_option maxRecDepth 100000 in
theorem lifted (os : Os) (started : os.Started) (H : Type) (enc : TypeId × Value → H) :
    ReturnsInHanded {} Tryd.checked os 5 .any (fun w args => (Rows.recordNamesSpec.pre enc Tryd.prog Tryd.f5 [] false w args ∧ laidMetH Tryd.prog laidL w) ∧ sizedMet enc Tryd.prog Tryd.f5 (OpenSpec.ofChange Rows.recordNamesSpec) false w args)
      (Rows.recordNamesSpec.post enc Tryd.prog Tryd.f5 false true false false) := by
  refine returnsInHanded_of_change_and (C := Tryd.checked) (X := fun w _ => laidMetH Tryd.prog laidL w) (fun _ _ _ hh h => h.of_heap hh) own started (by kernel_rfl) Tryd.func5
    (ChangeSpec.witness_shaped (enc := enc) (C := Tryd.checked) (os := os) (X := fun w _ => laidMetH Tryd.prog laidL w) false (World.doorLaid Tryd.prog 400 os) #[.int .i64 0, .int .i64 0] 8 rfl (World.shaped_of_RefB (by kernel_rfl) (by kernel_rfl)) (by kernel_rfl) (by kernel_rfl) (by kernel_rfl) (door_met os _)) ?_
  intro W base args ds gs before hval0 hW _ _ hL _
  have hval : ∀ (j : Nat) t v, Tryd.f5.params[j]? = some t → args[j]? = some v → Value.okWide Tryd.prog W .any base t v := hval0
  have hW' := hW
  obtain ⟨p, q, hA0, hV, rfl, hfz, hnd⟩ := hW
  have hA : DataW.TrodAll enc Tryd.prog W 0 (fun _ => true) true Tryd.f5.params.toList args.toList ds p := hA0
  rw [Tryd.params5] at hA hval
  obtain ⟨v0, vs0, d0, ds0, p0, q0, hargs, rfl, rfl, h0, r0⟩ := trodAll_cons hA
  obtain ⟨v1, vs1, d1, ds1, p1, q1, rfl, rfl, rfl, h1, r1⟩ := trodAll_cons r0
  obtain ⟨rfl, rfl, rfl⟩ := trodAll_nil r1
  obtain rfl : args = #[v0, v1] := by cases args; simp_all
  obtain ⟨rfl, rfl⟩ := trodVars_none hV
  obtain ⟨a0, rfl, rfl, rfl, w0⟩ := open_int Tryd.underlying3 (hval 0 3 v0 rfl rfl) h0
  obtain ⟨a1, rfl, rfl, rfl, w1⟩ := open_int Tryd.underlying3 (hval 1 3 v1 rfl rfl) h1
  clear hA0 hval0
  refine (walk a0 a1 W w0 w1 (of_laid hL)).mono fun e W' ⟨he, bel⟩ => ?_
  subst he
  exact ⟨_, rfl, _, _, _, [], _, [], hW', trodAll_mk1 (shut_bool Tryd.underlying4 _), (trodAll_cons_mk (shut_int Tryd.underlying3 w0) (trodAll_cons_mk (shut_int Tryd.underlying3 w1) trodAll_mk0)), rfl, bel.frame _, fun h => by cases h⟩

/-- The row's statement. -/
theorem over : Rows.RecordNamesSaid :=
  OpenClaim.holds_of_wide 5 Tryd.f5 rfl rfl rfl rfl rfl rfl rfl ⟨rfl, rfl, rfl, rfl, rfl⟩ rfl rfl rfl rfl rfl (by kernel_rfl) Tryd.func5 (by kernel_rfl)
    (of_decide_eq_true (by kernel_rfl)) (by unfold Func.isWrapper; first | (rw [if_pos (by decide +kernel)]; kernel_rfl) | (rw [if_neg (by decide +kernel)]; exact ⟨rfl, rfl⟩))
    (fun os started H enc _ => lifted os started H enc)

/-- The card. -/
theorem proved : Rows.RecordNamesCardSaid :=
  Claim7.holds_tied_plain_at .later [] [.data] true Rows.recordNamesCard.stood.harness false
    over (fun _ h => by cases h) (by kernel_rfl) (fun _ h => by cases h) recordNames_row_tie rfl ⟨rfl, rfl⟩ (by kernel_rfl) rfl
    (fun f fn hf hfn => by
      obtain rfl : f = 5 := Option.some.inj ((show Tryd.prog.funcNamed "honeycomb/honeycomblaw12.RecordNames" = some 5 by kernel_rfl).symm.trans hf) |>.symm
      obtain rfl : fn = Tryd.f5 := (Option.some.inj (Tryd.func5.symm.trans hfn)).symm
      exact ⟨by kernel_rfl, fun j t ht => by
        rw [Tryd.params5] at ht
        have hm : t ∈ [3, 3] := by simpa using Array.mem_of_getElem? ht
        have hall : ([3, 3].all fun u => !Tryd.prog.wantsStandIn u) = true := by kernel_rfl
        exact (show Tryd.prog.wantsStandIn t = false by simpa using List.all_eq_true.1 hall t hm)⟩)
    (by kernel_rfl)
end Go.Proofs.YtbmnagfjpenemaaDoor.recordNames
