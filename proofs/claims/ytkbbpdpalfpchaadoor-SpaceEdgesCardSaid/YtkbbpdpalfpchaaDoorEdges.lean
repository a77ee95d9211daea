/- Which numbers of pages there may be; the first two are never free. -/
import Derived.Test.YtkbbpdpalfpchaaDoorRows
import Derived.Test.YtkbbpdpalfpchaaDoorCards
import Derived.Test.YtkbbpdpalfpchaaDoorTie
import Derived.Test.YtkbbpdpalfpchaaDoorLaws
import Derived.LoopTactic
import Derived.StillTailTactics
import Derived.BigQuiet
import Derived.Deep.DeepCutAuto
import Derived.Deep.RegionLaw
import Derived.Deep.CutBlock
import Derived.Lib.Hide
import Derived.WalkKit
import Derived.ProofKit
import Derived.OpenShut
import Derived.ChangeOld
import Derived.Below
import Derived.Carry
import Derived.LaidMore
import Derived.Lay
import Derived.SevenTiedAt
namespace Go.Proofs.YtkbbpdpalfpchaaDoor.spaceEdges
open Go.ChangeShapes Go.WideShapes Go.ChangeAt Go.RowKit
set_option linter.unusedVariables false
set_option linter.unusedSimpArgs false

set_option maxRecDepth 100000 in
set_option maxHeartbeats 16000000 in
theorem walk (a0 : Int) (w : World) (w0 : (Lit.int .i64 a0).wf = true) :
    Calls Tryd.prog 8 #[.int .i64 a0] w fun e w' => e = .returned (.bool true) ∧ Below w.heap.size w w' := by
  have AL := Lib.hid alive_yes
  have HB0 := Lib.hid (Below.refl w.heap.size w)
  by_cases hn : 8 ≤ a0 ∧ a0 ≤ 64
  · as_aux_lemma =>
      obtain ⟨N, rfl⟩ : ∃ N : Nat, a0 = (N : Int) := ⟨a0.toNat, by omega⟩
      have h8 : 8 ≤ N := by omega
      have h64 : N ≤ 64 := by omega
      have k8 : ¬ (N : Int) < 8 := by omega
      have k64 : ¬ 64 < (N : Int) := by omega
      have NE := Lib.hid (new_yes N h8 h64)
      rw [newS_fill] at NE
      rw [← newS_fill] at NE
      have hg := newS_good h8 h64
      have G0 := Lib.hid (give_err hg (n := 0) (by omega) (by rintro ⟨h, _⟩; omega))
      have G1 := Lib.hid (give_err hg (n := 1) (by omega) (by rintro ⟨h, _⟩; omega))
      have G2 := Lib.hid (give_err hg (n := 2) (by omega) (by rw [newS_used2 (by omega)]; rintro ⟨_, h⟩; cases h))
      have FR := Lib.hid (free_any 2 0 0 (mk (newS N)) (by rw [hg.len]; omega))
      rw [marksS_mk hg, newS_count (by omega)] at FR
      have U1 := Lib.hid (used_any 2 0 0 1 (mk (newS N)) (by rw [hg.len]; omega) (by omega))
      rw [marksS_mk hg, newS_used1] at U1
      have UN := Lib.hid (used_any 2 0 0 N (mk (newS N)) (by rw [hg.len]; omega) (by omega))
      have hup := used_past (newS N)
      rw [newS_length (by omega)] at hup
      rw [marksS_mk hg, hup] at UN
      unfold pv at *
      generalize str (mk (newS N)) = s at *
      have e1 : IntKind.i64.wrap ((N : Int) - 2) = (N : Int) - 2 := IntWalk.i64_in _ (by omega)
      have q1 : (8 : Int) ≤ N := by omega
      have q2 : (N : Int) ≤ 64 := by omega
      have d1 : decide ((8 : Int) ≤ N) = true := decide_eq_true q1
      have d2 : decide ((N : Int) ≤ 64) = true := decide_eq_true q2
      clear hg hup
      go_enter Tryd.func8, Tryd.ntmps8
      go_wp2_with fail
      refine (AL.out _).mono ?_; rintro e w1 ⟨rfl, hb⟩
      have HB1 := Lib.hid (HB0.out.trans (hb.mono (Below.size HB0.out)))
      clear hb HB0 
      go_wp2_with fail
      refine (NE.out _).mono ?_; rintro e w2 ⟨rfl, hb⟩
      have HB2 := Lib.hid (HB1.out.trans (hb.mono (Below.size HB1.out)))
      clear hb HB1 
      have hal := (Below.refl (w2).heap.size (w2)).alloc (Nat.le_refl _) (.cells #[.int .i64 2, .int .i64 0, .int .i64 0, .string s] 23)
      have P2 := Lib.hid (PBox.new (w2) (2) (0) (0) (s))
      replace HB2 := Lib.hid (HB2.out.trans (hal.mono (Below.size HB2.out)))
      clear hal
      go_wp2_with fail
      obtain ⟨bP, hbP⟩ : ∃ bP, bP = (w2).heap.size := ⟨_, rfl⟩
      rw [← hbP] at P2 ⊢
      have HLP := Lib.hid hbP
      clear hbP
      generalize (w2).alloc (.cells #[.int .i64 2, .int .i64 0, .int .i64 0, .string s] 23) = v2 at *
      refine (G0.out _).mono ?_; rintro e w3 ⟨rfl, hb⟩
      have P3 := Lib.hid (P2.out.kept hb)
      have HB3 := Lib.hid (HB2.out.trans (hb.mono (Below.size HB2.out)))
      clear hb HB2 P2
      have hal := (Below.refl (w3).heap.size (w3)).alloc (Nat.le_refl _) (.cells #[.int .i64 0, .int .i64 0, .int .i64 0, .string ⟨#[]⟩] 23)
      replace P3 := Lib.hid (P3.out.kept hal)
      have G0q3 := Lib.hid (PBox.new (w3) (0) (0) (0) (⟨#[]⟩))
      replace HB3 := Lib.hid (HB3.out.trans (hal.mono (Below.size HB3.out)))
      clear hal
      obtain ⟨oP0, oP1, oP2, oP3⟩ := P3.out.cells
      go_wp2_with fail
      clear oP0 oP1 oP2 oP3
      obtain ⟨bG0q, hbG0q⟩ : ∃ bG0q, bG0q = (w3).heap.size := ⟨_, rfl⟩
      rw [← hbG0q] at G0q3 ⊢
      have HLG0q := Lib.hid hbG0q
      clear hbG0q
      generalize (w3).alloc (.cells #[.int .i64 0, .int .i64 0, .int .i64 0, .string ⟨#[]⟩] 23) = v3 at *
      clear G0q3
      refine (G1.out _).mono ?_; rintro e w4 ⟨rfl, hb⟩
      have P4 := Lib.hid (P3.out.kept hb)
      have HB4 := Lib.hid (HB3.out.trans (hb.mono (Below.size HB3.out)))
      clear hb HB3 P3
      have hal := (Below.refl (w4).heap.size (w4)).alloc (Nat.le_refl _) (.cells #[.int .i64 0, .int .i64 0, .int .i64 0, .string ⟨#[]⟩] 23)
      replace P4 := Lib.hid (P4.out.kept hal)
      have G1q4 := Lib.hid (PBox.new (w4) (0) (0) (0) (⟨#[]⟩))
      replace HB4 := Lib.hid (HB4.out.trans (hal.mono (Below.size HB4.out)))
      clear hal
      obtain ⟨oP0, oP1, oP2, oP3⟩ := P4.out.cells
      go_wp2_with fail
      clear oP0 oP1 oP2 oP3
      obtain ⟨bG1q, hbG1q⟩ : ∃ bG1q, bG1q = (w4).heap.size := ⟨_, rfl⟩
      rw [← hbG1q] at G1q4 ⊢
      have HLG1q := Lib.hid hbG1q
      clear hbG1q
      generalize (w4).alloc (.cells #[.int .i64 0, .int .i64 0, .int .i64 0, .string ⟨#[]⟩] 23) = v4 at *
      clear G1q4
      refine (G2.out _).mono ?_; rintro e w5 ⟨rfl, hb⟩
      have P5 := Lib.hid (P4.out.kept hb)
      have HB5 := Lib.hid (HB4.out.trans (hb.mono (Below.size HB4.out)))
      clear hb HB4 P4
      have hal := (Below.refl (w5).heap.size (w5)).alloc (Nat.le_refl _) (.cells #[.int .i64 0, .int .i64 0, .int .i64 0, .string ⟨#[]⟩] 23)
      replace P5 := Lib.hid (P5.out.kept hal)
      have G2q5 := Lib.hid (PBox.new (w5) (0) (0) (0) (⟨#[]⟩))
      replace HB5 := Lib.hid (HB5.out.trans (hal.mono (Below.size HB5.out)))
      clear hal
      obtain ⟨oP0, oP1, oP2, oP3⟩ := P5.out.cells
      go_wp2_with fail
      clear oP0 oP1 oP2 oP3
      obtain ⟨bG2q, hbG2q⟩ : ∃ bG2q, bG2q = (w5).heap.size := ⟨_, rfl⟩
      rw [← hbG2q] at G2q5 ⊢
      have HLG2q := Lib.hid hbG2q
      clear hbG2q
      generalize (w5).alloc (.cells #[.int .i64 0, .int .i64 0, .int .i64 0, .string ⟨#[]⟩] 23) = v5 at *
      clear G2q5
      refine (FR.out _).mono ?_; rintro e w6 ⟨rfl, hb⟩
      have P6 := Lib.hid (P5.out.kept hb)
      have HB6 := Lib.hid (HB5.out.trans (hb.mono (Below.size HB5.out)))
      clear hb HB5 P5
      obtain ⟨oP0, oP1, oP2, oP3⟩ := P6.out.cells
      go_wp2_with fail
      clear oP0 oP1 oP2 oP3
      refine (U1.out _).mono ?_; rintro e w7 ⟨rfl, hb⟩
      have P7 := Lib.hid (P6.out.kept hb)
      have HB7 := Lib.hid (HB6.out.trans (hb.mono (Below.size HB6.out)))
      clear hb HB6 P6
      obtain ⟨oP0, oP1, oP2, oP3⟩ := P7.out.cells
      go_wp2_with fail
      clear oP0 oP1 oP2 oP3
      refine (UN.out _).mono ?_; rintro e w8 ⟨rfl, hb⟩
      have P8 := Lib.hid (P7.out.kept hb)
      have HB8 := Lib.hid (HB7.out.trans (hb.mono (Below.size HB7.out)))
      clear hb HB7 P7
      go_wp2_with fail
      go_ret
      exact ⟨rfl, HB8.out⟩
  · by_cases h8 : 8 ≤ a0
    · as_aux_lemma =>
        have NE := Lib.hid (new_no a0 hn)
        have FR := Lib.hid (free_any 0 0 0 [] (by decide))
        have PG := Lib.hid (pages_any 0 0 0 [] (by decide))
        have US := Lib.hid (used_any 0 0 0 0 [] (by decide) (by omega))
        rw [marksS_zero, show ((([] : BA).count 2 : Nat) : Int) = 0 from rfl] at FR
        rw [marksS_zero, show ((([] : BA).length : Nat) : Int) = 0 from rfl] at PG
        rw [marksS_zero, show usedS [] 0 = false from rfl] at US
        unfold pv at *
        rw [show str [] = ByteArray.mk #[] from rfl] at NE FR PG US
        have h64 : ¬ a0 ≤ 64 := fun h => hn ⟨h8, h⟩
        have d1 : decide (8 ≤ a0) = true := decide_eq_true h8
        have d2 : decide (a0 ≤ 64) = false := decide_eq_false h64
        go_enter Tryd.func8, Tryd.ntmps8
        go_wp2_with fail
        refine (AL.out _).mono ?_; rintro e w1 ⟨rfl, hb⟩
        have HB1 := Lib.hid (HB0.out.trans (hb.mono (Below.size HB0.out)))
        clear hb HB0 
        go_wp2_with fail
        refine (NE.out _).mono ?_; rintro e w2 ⟨rfl, hb⟩
        have HB2 := Lib.hid (HB1.out.trans (hb.mono (Below.size HB1.out)))
        clear hb HB1 
        have hal := (Below.refl (w2).heap.size (w2)).alloc (Nat.le_refl _) (.cells #[.int .i64 0, .int .i64 0, .int .i64 0, .string ⟨#[]⟩] 23)
        have P2 := Lib.hid (PBox.new (w2) (0) (0) (0) (⟨#[]⟩))
        replace HB2 := Lib.hid (HB2.out.trans (hal.mono (Below.size HB2.out)))
        clear hal
        go_wp2_with fail
        obtain ⟨bP, hbP⟩ : ∃ bP, bP = (w2).heap.size := ⟨_, rfl⟩
        rw [← hbP] at P2 ⊢
        have HLP := Lib.hid hbP
        clear hbP
        generalize (w2).alloc (.cells #[.int .i64 0, .int .i64 0, .int .i64 0, .string ⟨#[]⟩] 23) = v2 at *
        refine (FR.out _).mono ?_; rintro e w3 ⟨rfl, hb⟩
        have P3 := Lib.hid (P2.out.kept hb)
        have HB3 := Lib.hid (HB2.out.trans (hb.mono (Below.size HB2.out)))
        clear hb HB2 P2
        obtain ⟨oP0, oP1, oP2, oP3⟩ := P3.out.cells
        go_wp2_with fail
        clear oP0 oP1 oP2 oP3
        refine (PG.out _).mono ?_; rintro e w4 ⟨rfl, hb⟩
        have P4 := Lib.hid (P3.out.kept hb)
        have HB4 := Lib.hid (HB3.out.trans (hb.mono (Below.size HB3.out)))
        clear hb HB3 P3
        obtain ⟨oP0, oP1, oP2, oP3⟩ := P4.out.cells
        go_wp2_with fail
        clear oP0 oP1 oP2 oP3
        refine (US.out _).mono ?_; rintro e w5 ⟨rfl, hb⟩
        have P5 := Lib.hid (P4.out.kept hb)
        have HB5 := Lib.hid (HB4.out.trans (hb.mono (Below.size HB4.out)))
        clear hb HB4 P4
        go_wp2_with fail
        go_ret
        exact ⟨rfl, HB5.out⟩
    · as_aux_lemma =>
        have NE := Lib.hid (new_no a0 hn)
        have FR := Lib.hid (free_any 0 0 0 [] (by decide))
        have PG := Lib.hid (pages_any 0 0 0 [] (by decide))
        have US := Lib.hid (used_any 0 0 0 0 [] (by decide) (by omega))
        rw [marksS_zero, show ((([] : BA).count 2 : Nat) : Int) = 0 from rfl] at FR
        rw [marksS_zero, show ((([] : BA).length : Nat) : Int) = 0 from rfl] at PG
        rw [marksS_zero, show usedS [] 0 = false from rfl] at US
        unfold pv at *
        rw [show str [] = ByteArray.mk #[] from rfl] at NE FR PG US
        have d1 : decide (8 ≤ a0) = false := decide_eq_false h8
        go_enter Tryd.func8, Tryd.ntmps8
        go_wp2_with fail
        refine (AL.out _).mono ?_; rintro e w1 ⟨rfl, hb⟩
        have HB1 := Lib.hid (HB0.out.trans (hb.mono (Below.size HB0.out)))
        clear hb HB0 
        go_wp2_with fail
        refine (NE.out _).mono ?_; rintro e w2 ⟨rfl, hb⟩
        have HB2 := Lib.hid (HB1.out.trans (hb.mono (Below.size HB1.out)))
        clear hb HB1 
        have hal := (Below.refl (w2).heap.size (w2)).alloc (Nat.le_refl _) (.cells #[.int .i64 0, .int .i64 0, .int .i64 0, .string ⟨#[]⟩] 23)
        have P2 := Lib.hid (PBox.new (w2) (0) (0) (0) (⟨#[]⟩))
        replace HB2 := Lib.hid (HB2.out.trans (hal.mono (Below.size HB2.out)))
        clear hal
        go_wp2_with fail
        obtain ⟨bP, hbP⟩ : ∃ bP, bP = (w2).heap.size := ⟨_, rfl⟩
        rw [← hbP] at P2 ⊢
        have HLP := Lib.hid hbP
        clear hbP
        generalize (w2).alloc (.cells #[.int .i64 0, .int .i64 0, .int .i64 0, .string ⟨#[]⟩] 23) = v2 at *
        refine (FR.out _).mono ?_; rintro e w3 ⟨rfl, hb⟩
        have P3 := Lib.hid (P2.out.kept hb)
        have HB3 := Lib.hid (HB2.out.trans (hb.mono (Below.size HB2.out)))
        clear hb HB2 P2
        obtain ⟨oP0, oP1, oP2, oP3⟩ := P3.out.cells
        go_wp2_with fail
        clear oP0 oP1 oP2 oP3
        refine (PG.out _).mono ?_; rintro e w4 ⟨rfl, hb⟩
        have P4 := Lib.hid (P3.out.kept hb)
        have HB4 := Lib.hid (HB3.out.trans (hb.mono (Below.size HB3.out)))
        clear hb HB3 P3
        obtain ⟨oP0, oP1, oP2, oP3⟩ := P4.out.cells
        go_wp2_with fail
        clear oP0 oP1 oP2 oP3
        refine (US.out _).mono ?_; rintro e w5 ⟨rfl, hb⟩
        have P5 := Lib.hid (P4.out.kept hb)
        have HB5 := Lib.hid (HB4.out.trans (hb.mono (Below.size HB4.out)))
        clear hb HB4 P4
        go_wp2_with fail
        go_ret
        exact ⟨rfl, HB5.out⟩

/-! The row's step. -/
set_option maxRecDepth 100000 in
theorem lifted (os : Os) (started : os.Started) (H : Type) (enc : TypeId × Value → H) :
    ReturnsInHanded {} Tryd.checked os 8 .any (fun w args => (Rows.spaceEdgesSpec.pre enc Tryd.prog Tryd.f8 [] false w args ∧ laidMetH Tryd.prog laidL w) ∧ sizedMet enc Tryd.prog Tryd.f8 (OpenSpec.ofChange Rows.spaceEdgesSpec) false w args)
      (Rows.spaceEdgesSpec.post enc Tryd.prog Tryd.f8 false true false false) := by
  refine returnsInHanded_of_change_and (C := Tryd.checked) (X := fun w _ => laidMetH Tryd.prog laidL w) (fun _ _ _ hh h => h.of_heap hh) own started (by kernel_rfl) Tryd.func8
    (ChangeSpec.witness_shaped (enc := enc) (C := Tryd.checked) (os := os) (X := fun w _ => laidMetH Tryd.prog laidL w) false (World.laidAll Tryd.prog os laidL) #[.int .i64 0] 8 (World.laidAll_os _ _ _)
      (World.shaped_of_ZipB (by kernel_rfl) (by kernel_rfl)) (by kernel_rfl) (by kernel_rfl) (by kernel_rfl)
      (by rw [MakeChecks.laidMetH_plain _ _ _ (by kernel_rfl)]; exact laidMet_laidAll _ (by kernel_rfl) (by kernel_rfl))) ?_
  intro W base args ds gs before hval0 hW _ _ hL _
  have hval : ∀ (j : Nat) t v, Tryd.f8.params[j]? = some t → args[j]? = some v → Value.okWide Tryd.prog W .any base t v := hval0
  have hW' := hW
  obtain ⟨p, q, hA0, hV, rfl, hfz, hnd⟩ := hW
  have hA : DataW.TrodAll enc Tryd.prog W 0 (fun _ => true) true Tryd.f8.params.toList args.toList ds p := hA0
  rw [Tryd.params8] at hA hval
  obtain ⟨v0, vs0, d0, ds0, p0, q0, hargs, rfl, rfl, h0, r0⟩ := trodAll_cons hA
  obtain ⟨rfl, rfl, rfl⟩ := trodAll_nil r0
  obtain rfl : args = #[v0] := by cases args; simp_all
  obtain ⟨rfl, rfl⟩ := trodVars_none hV
  obtain ⟨a0, rfl, rfl, rfl, w0⟩ := open_int Tryd.underlying3 (hval 0 3 v0 rfl rfl) h0
  clear hA0 hval0
  refine (walk a0 W w0).mono fun e W' ⟨he, bel⟩ => ?_
  subst he
  exact ⟨_, rfl, _, _, _, [], _, [], hW', trodAll_mk1 (shut_bool Tryd.underlying4 _), (trodAll_cons_mk (shut_int Tryd.underlying3 w0) trodAll_mk0), rfl, bel.frame _, fun h => by cases h⟩

/-- The row's statement. -/
theorem over : Rows.SpaceEdgesSaid :=
  OpenClaim.holds_of_wide 8 Tryd.f8 rfl rfl rfl rfl rfl rfl rfl ⟨rfl, rfl, rfl, rfl, rfl⟩ rfl rfl rfl rfl rfl (by kernel_rfl) Tryd.func8 (by kernel_rfl)
    (of_decide_eq_true (by kernel_rfl)) (by unfold Func.isWrapper; first | (rw [if_pos (by decide +kernel)]; kernel_rfl) | (rw [if_neg (by decide +kernel)]; exact ⟨rfl, rfl⟩))
    (fun os started H enc _ => lifted os started H enc)

/-- The card. -/
theorem proved : Rows.SpaceEdgesCardSaid :=
  Claim7.holds_tied_plain_at .later [] [.data, .pinned] true Rows.spaceEdgesCard.stood.harness false
    over (fun _ h => by cases h) (by kernel_rfl) (fun _ h => by cases h) spaceEdges_row_tie rfl ⟨rfl, rfl⟩ (by kernel_rfl) rfl
    (fun f fn hf hfn => by
      obtain rfl : f = 8 := Option.some.inj ((show Tryd.prog.funcNamed "honeycomb/honeycomblaw9.SpaceEdges" = some 8 by kernel_rfl).symm.trans hf) |>.symm
      obtain rfl : fn = Tryd.f8 := (Option.some.inj (Tryd.func8.symm.trans hfn)).symm
      exact ⟨by kernel_rfl, fun j t ht => by
        rw [Tryd.params8] at ht
        have hm : t ∈ [3] := by simpa using Array.mem_of_getElem? ht
        have hall : ([3].all fun u => !Tryd.prog.wantsStandIn u) = true := by kernel_rfl
        exact (show Tryd.prog.wantsStandIn t = false by simpa using List.all_eq_true.1 hall t hm)⟩)
    (by kernel_rfl)
end Go.Proofs.YtkbbpdpalfpchaaDoor.spaceEdges
