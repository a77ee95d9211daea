/- All pages but two may be taken, each once; given back they are free again. -/
import Derived.Test.YtkbbpdpalfpchaaDoorRows
import Derived.Test.YtkbbpdpalfpchaaDoorCards
import Derived.Test.YtkbbpdpalfpchaaDoorTie
import Derived.Test.YtkbbpdpalfpchaaDoorLaws
import Derived.LoopTactic
import Derived.StillTailTactics
import Derived.BigQuiet
import Derived.Deep.DeepCutAuto
import Derived.Deep.RegionLaw
import Derived.Deep.CutBlock
import Derived.Lib.Hide
import Derived.WalkKit
import Derived.ProofKit
import Derived.OpenShut
import Derived.ChangeOld
import Derived.Below
import Derived.Carry
import Derived.LaidMore
import Derived.Lay
import Derived.SevenTiedAt
namespace Go.Proofs.YtkbbpdpalfpchaaDoor.spaceAll
open Go.ChangeShapes Go.WideShapes Go.ChangeAt Go.RowKit
set_option linter.unusedVariables false
set_option linter.unusedSimpArgs false

set_option maxRecDepth 100000 in
set_option maxHeartbeats 16000000 in
theorem walk (a0 : Int) (w : World) (w0 : (Lit.int .i64 a0).wf = true) :
    Calls Tryd.prog 4 #[.int .i64 a0] w fun e w' => e = .returned (.bool true) ∧ Below w.heap.size w w' := by
  have AL := Lib.hid alive_yes
  by_cases c0 : a0 < 8
  · as_aux_lemma =>
      have d0 : decide (a0 < 8) = true := decide_eq_true c0
      have HB0 := Lib.hid (Below.refl w.heap.size w)
      go_enter Tryd.func4, Tryd.ntmps4
      go_wp2_with fail
      refine (AL.out _).mono ?_; rintro e w1 ⟨rfl, hb⟩
      have HB1 := Lib.hid (HB0.out.trans (hb.mono (Below.size HB0.out)))
      clear hb HB0 
      go_wp2_with fail
      go_ret
      exact ⟨rfl, HB1.out⟩
  · have d0 : decide (a0 < 8) = false := decide_eq_false c0
    by_cases c1 : 64 < a0
    · as_aux_lemma =>
        have d1 : decide (64 < a0) = true := decide_eq_true c1
        have d1b : decide (a0 > 64) = true := decide_eq_true c1
        have HB0 := Lib.hid (Below.refl w.heap.size w)
        go_enter Tryd.func4, Tryd.ntmps4
        go_wp2_with fail
        refine (AL.out _).mono ?_; rintro e w1 ⟨rfl, hb⟩
        have HB1 := Lib.hid (HB0.out.trans (hb.mono (Below.size HB0.out)))
        clear hb HB0 
        go_wp2_with fail
        go_ret
        exact ⟨rfl, HB1.out⟩
    · have d1 : decide (64 < a0) = false := decide_eq_false c1
      have d1b : decide (a0 > 64) = false := decide_eq_false c1
      obtain ⟨N, rfl⟩ : ∃ N : Nat, a0 = (N : Int) := ⟨a0.toNat, by omega⟩
      have h8 : 8 ≤ N := by omega
      have h64 : N ≤ 64 := by omega
      have k8 : ¬ (N : Int) < 8 := by omega
      have k64 : ¬ 64 < (N : Int) := by omega
      have NE := Lib.hid (new_yes N h8 h64)
      rw [newS_fill] at NE
      unfold pv at NE
      have HB0 := Lib.hid (Below.refl w.heap.size w)
      go_enter Tryd.func4, Tryd.ntmps4
      go_wp2_with fail
      refine (AL.out _).mono ?_; rintro e w1 ⟨rfl, hb⟩
      have HB1 := Lib.hid (HB0.out.trans (hb.mono (Below.size HB0.out)))
      clear hb HB0 
      go_wp2_with fail
      clear AL
      refine (NE.out _).mono ?_; rintro e w2 ⟨rfl, hb⟩
      have HB2 := Lib.hid (HB1.out.trans (hb.mono (Below.size HB1.out)))
      clear hb HB1 
      clear NE
      have HSZ := Lib.hid HB2.out.size
      have hal := (Below.refl (w2).heap.size (w2)).alloc (Nat.le_refl _) (.cells #[.int .i64 2, .int .i64 0, .int .i64 0, .string (str (mk (fillS N 2)))] 23)
      have P2 := Lib.hid (PBox.new (w2) (2) (0) (0) ((str (mk (fillS N 2)))))
      replace HB2 := Lib.hid (HB2.out.trans (hal.mono (Below.size HB2.out)))
      clear hal
      go_upto_region 6 with fail
      obtain ⟨bP, hbP⟩ : ∃ bP, bP = (w2).heap.size := ⟨_, rfl⟩
      rw [← hbP] at P2 ⊢
      have HLP := Lib.hid hbP
      clear hbP
      generalize (w2).alloc (.cells #[.int .i64 2, .int .i64 0, .int .i64 0, .string (str (mk (fillS N 2)))] 23) = v2 at *
      have HLE := Lib.hid (show w.heap.size ≤ bP by rw [HLP.out]; exact HSZ.out)
      have HPL := Lib.hid P2.out.lt
      have PV := Lib.hid P2.out
      have hal := (Below.refl (v2).heap.size (v2)).alloc (Nat.le_refl _) (.cells #[.int .i64 2, .int .i64 0, .int .i64 0, .string (str (mk (fillS N 2)))] 23)
      replace P2 := Lib.hid (P2.out.kept hal)
      have F2 := Lib.hid (PBox.new (v2) (2) (0) (0) ((str (mk (fillS N 2)))))
      replace HB2 := Lib.hid (HB2.out.trans (hal.mono (Below.size HB2.out)))
      clear hal
      obtain ⟨oP0, oP1, oP2, oP3⟩ := P2.out.cells
      obtain ⟨qP0, qP1, qP2, qP3⟩ := PV.out.cells
      go_wp2_with fail
      clear oP0 oP1 oP2 oP3 qP0 qP1 qP2 qP3 PV
      obtain ⟨bF, hbF⟩ : ∃ bF, bF = (v2).heap.size := ⟨_, rfl⟩
      rw [← hbF] at F2 ⊢
      have HLF := Lib.hid hbF
      clear hbF
      generalize (v2).alloc (.cells #[.int .i64 2, .int .i64 0, .int .i64 0, .string (str (mk (fillS N 2)))] 23) = v3 at *
      have HNE := Lib.hid (show bF ≠ bP by have := HPL.out; have := HLF.out; omega)
      clear HLP HSZ HPL HLF
      go_loopw [6] (fun x wr => ∃ k : Nat, 2 ≤ k ∧ k ≤ N ∧ x = .int .i64 k ∧ Hid (PBox wr bP 2 0 0 (str (mk (fillS N k))) ∧ PBox wr bF 2 0 0 (str (mk (fillS N 2))) ∧ Below w.heap.size w wr)) (fun x _ => N - (intOf x).toNat)
      case atStart => exact ⟨2, by omega, by omega, rfl, P2.out, F2.out, HB2.out⟩
      case round =>
        obtain ⟨k, hk2, hkN, rfl, hq⟩ := hrel
        have P0 := Lib.hid hq.out.1
        have F0 := Lib.hid hq.out.2.1
        have HB0 := Lib.hid hq.out.2.2
        clear hq P2 F2 HB2
        have k0 : (0 : Int) ≤ (k : Int) := by omega
        by_cases hlt : k < N
        · as_aux_lemma =>
            have k1 : (k : Int) < (N : Int) := by omega
            have e1 : IntKind.i64.wrap ((k : Int) + 1) = (k : Int) + 1 := IntWalk.i64_in _ (by omega)
            have TK := Lib.hid (take_some 0 0 (fillS N k) (fillS_good h8 h64 hk2 hkN) (by rw [fillS_fst hlt, fillS_length hkN]; exact hlt))
            rw [fillS_fst hlt, fillS_set1 hlt] at TK
            unfold pv at TK
            obtain ⟨s1, hs1⟩ : ∃ s, s = str (mk (fillS N k)) := ⟨_, rfl⟩
            obtain ⟨s2, hs2⟩ : ∃ s, s = str (mk (fillS N (k + 1))) := ⟨_, rfl⟩
            rw [← hs1, ← hs2] at TK
            rw [← hs1] at P0
            have HS2 := Lib.hid hs2
            clear hs1 hs2
            obtain ⟨oP0, oP1, oP2, oP3⟩ := P0.out.cells
            go_wp2_with fail
            clear oP0 oP1 oP2 oP3
            refine (TK.out _).mono ?_; rintro e w1 ⟨rfl, hb⟩
            have P1 := Lib.hid (P0.out.kept hb)
            have F1 := Lib.hid (F0.out.kept hb)
            have HB1 := Lib.hid (HB0.out.trans (hb.mono (Below.size HB0.out)))
            clear hb HB0 P0 F0
            have hal := (Below.refl (w1).heap.size (w1)).alloc (Nat.le_refl _) (.cells #[.int .i64 2, .int .i64 0, .int .i64 0, .string s2] 23)
            replace P1 := Lib.hid (P1.out.kept hal)
            replace F1 := Lib.hid (F1.out.kept hal)
            have Q1 := Lib.hid (PBox.new (w1) (2) (0) (0) (s2))
            replace HB1 := Lib.hid (HB1.out.trans (hal.mono (Below.size HB1.out)))
            clear hal
            obtain ⟨⟨oP0, oP1, oP2, oP3⟩, fP0, fP1, fP2, fP3⟩ := And.intro P1.out.cells P1.out.free
            go_wp2_with fail
            go_roundw
            case rel => exact ⟨k + 1, by omega, by omega, by go_num, by rw [← HS2.out]; exact P1.out.set4 _ _ _ _, F1.out.heap (heap_set4 _ _ _ _ _ _ _ HNE.out), below_set4 HB1.out HLE.out⟩
            case measure => simp [intOf]; omega
        · obtain rfl : N = k := by omega
          have k1 : ¬ (N : Int) < (N : Int) := by omega
          have TF := Lib.hid (take_full 0 0 (fillS N N) (fillS_good h8 h64 hk2 hkN) (fillS_full N))
          have e2 : IntKind.i64.wrap ((N : Int) - 1) = (N : Int) - 1 := IntWalk.i64_in _ (by omega)
          rw [show pv 0 0 0 [] = .agg #[.int .i64 0, .int .i64 0, .int .i64 0, .string ⟨#[]⟩] from rfl] at TF
          unfold pv at TF
          obtain ⟨oP0, oP1, oP2, oP3⟩ := P0.out.cells
          go_wp2_with fail
          clear oP0 oP1 oP2 oP3
          refine (TF.out _).mono ?_; rintro e w1 ⟨rfl, hb⟩
          have P1 := Lib.hid (P0.out.kept hb)
          have F1 := Lib.hid (F0.out.kept hb)
          have HB1 := Lib.hid (HB0.out.trans (hb.mono (Below.size HB0.out)))
          clear hb HB0 P0 F0
          have hal := (Below.refl (w1).heap.size (w1)).alloc (Nat.le_refl _) (.cells #[.int .i64 0, .int .i64 0, .int .i64 0, .string ⟨#[]⟩] 23)
          replace P1 := Lib.hid (P1.out.kept hal)
          replace F1 := Lib.hid (F1.out.kept hal)
          have Q1 := Lib.hid (PBox.new (w1) (0) (0) (0) (⟨#[]⟩))
          replace HB1 := Lib.hid (HB1.out.trans (hal.mono (Below.size HB1.out)))
          clear hal
          go_wp2_with fail
          obtain ⟨bQ, hbQ⟩ : ∃ bQ, bQ = (w1).heap.size := ⟨_, rfl⟩
          rw [← hbQ] at Q1 ⊢
          have HLQ := Lib.hid hbQ
          clear hbQ
          generalize (w1).alloc (.cells #[.int .i64 0, .int .i64 0, .int .i64 0, .string ⟨#[]⟩] 23) = v8 at *
          clear Q1
          go_loopw [13] (fun x wr => ∃ k : Nat, 1 ≤ k ∧ k < N ∧ x = .int .i64 k ∧ Hid (PBox wr bP 2 0 0 (str (mk (fillS N (k + 1)))) ∧ PBox wr bF 2 0 0 (str (mk (fillS N 2))) ∧ Below w.heap.size w wr)) (fun x _ => (intOf x).toNat)
          case atStart => exact ⟨N - 1, by omega, by omega, by rw [show ((N - 1 : Nat) : Int) = (N : Int) - 1 by omega], by rw [show N - 1 + 1 = N by omega]; exact P1.out, F1.out, HB1.out⟩
          case round =>
            obtain ⟨k, hk1, hkl, rfl, hq⟩ := hrel
            have P0 := Lib.hid hq.out.1
            have F0 := Lib.hid hq.out.2.1
            have HB0 := Lib.hid hq.out.2.2
            clear hq P1 F1 HB1
            have k0 : (0 : Int) ≤ (k : Int) := by omega
            by_cases hlt : 2 ≤ k
            · as_aux_lemma =>
                have k1 : 2 ≤ (k : Int) := by omega
                have k2 : ¬ (k : Int) < 2 := by omega
                have d1 : decide (2 ≤ (k : Int)) = true := decide_eq_true k1
                have e1 : IntKind.i64.wrap ((k : Int) - 1) = (k : Int) - 1 := IntWalk.i64_in _ (by omega)
                have GV := Lib.hid (give_used 0 0 k (fillS N (k + 1)) (fillS_good h8 h64 (by omega) (by omega)) hlt (fillS_used hkl))
                rw [fillS_set2 hkl] at GV
                unfold pv at GV
                obtain ⟨s1, hs1⟩ : ∃ s, s = str (mk (fillS N (k + 1))) := ⟨_, rfl⟩
                obtain ⟨s2, hs2⟩ : ∃ s, s = str (mk (fillS N k)) := ⟨_, rfl⟩
                rw [← hs1, ← hs2] at GV
                rw [← hs1] at P0
                have HS2 := Lib.hid hs2
                clear hs1 hs2
                obtain ⟨oP0, oP1, oP2, oP3⟩ := P0.out.cells
                go_wp2_with fail
                clear oP0 oP1 oP2 oP3
                refine (GV.out _).mono ?_; rintro e w1 ⟨rfl, hb⟩
                have P1 := Lib.hid (P0.out.kept hb)
                have F1 := Lib.hid (F0.out.kept hb)
                have HB1 := Lib.hid (HB0.out.trans (hb.mono (Below.size HB0.out)))
                clear hb HB0 P0 F0
                have hal := (Below.refl (w1).heap.size (w1)).alloc (Nat.le_refl _) (.cells #[.int .i64 2, .int .i64 0, .int .i64 0, .string s2] 23)
                replace P1 := Lib.hid (P1.out.kept hal)
                replace F1 := Lib.hid (F1.out.kept hal)
                have Q1 := Lib.hid (PBox.new (w1) (2) (0) (0) (s2))
                replace HB1 := Lib.hid (HB1.out.trans (hal.mono (Below.size HB1.out)))
                clear hal
                obtain ⟨⟨oP0, oP1, oP2, oP3⟩, fP0, fP1, fP2, fP3⟩ := And.intro P1.out.cells P1.out.free
                go_wp2_with fail
                go_roundw
                case rel => exact ⟨k - 1, by omega, by omega, by rw [show ((k - 1 : Nat) : Int) = (k : Int) - 1 by omega], by rw [show k - 1 + 1 = k by omega, ← HS2.out]; exact P1.out.set4 _ _ _ _, F1.out.heap (heap_set4 _ _ _ _ _ _ _ HNE.out), below_set4 HB1.out HLE.out⟩
                case measure => simp [intOf]; omega
            · obtain rfl : k = 1 := by omega
              have k1 : ¬ 2 ≤ ((1 : Nat) : Int) := by omega
              have P9 := Lib.hid (show PBox wr bP 2 0 0 (str (mk (fillS N 2))) from P0.out)
              have EQ := Lib.hid (eq_same 2 0 0 (str (mk (fillS N 2))))
              generalize str (mk (fillS N 2)) = s at *
              have ez := EQ.out
              obtain ⟨p0, p1, p2, p3⟩ := P9.out.cells
              obtain ⟨g0, g1, g2, g3⟩ := F0.out.cells
              go_wp2_with fail
              go_ret
              exact ⟨rfl, HB0.out⟩

/-! The row's step. -/
set_option maxRecDepth 100000 in
theorem lifted (os : Os) (started : os.Started) (H : Type) (enc : TypeId × Value → H) :
    ReturnsInHanded {} Tryd.checked os 4 .any (fun w args => (Rows.spaceAllSpec.pre enc Tryd.prog Tryd.f4 [] false w args ∧ laidMetH Tryd.prog laidL w) ∧ sizedMet enc Tryd.prog Tryd.f4 (OpenSpec.ofChange Rows.spaceAllSpec) false w args)
      (Rows.spaceAllSpec.post enc Tryd.prog Tryd.f4 false true false false) := by
  refine returnsInHanded_of_change_and (C := Tryd.checked) (X := fun w _ => laidMetH Tryd.prog laidL w) (fun _ _ _ hh h => h.of_heap hh) own started (by kernel_rfl) Tryd.func4
    (ChangeSpec.witness_shaped (enc := enc) (C := Tryd.checked) (os := os) (X := fun w _ => laidMetH Tryd.prog laidL w) false (World.laidAll Tryd.prog os laidL) #[.int .i64 0] 8 (World.laidAll_os _ _ _)
      (World.shaped_of_ZipB (by kernel_rfl) (by kernel_rfl)) (by kernel_rfl) (by kernel_rfl) (by kernel_rfl)
      (by rw [MakeChecks.laidMetH_plain _ _ _ (by kernel_rfl)]; exact laidMet_laidAll _ (by kernel_rfl) (by kernel_rfl))) ?_
  intro W base args ds gs before hval0 hW _ _ hL _
  have hval : ∀ (j : Nat) t v, Tryd.f4.params[j]? = some t → args[j]? = some v → Value.okWide Tryd.prog W .any base t v := hval0
  have hW' := hW
  obtain ⟨p, q, hA0, hV, rfl, hfz, hnd⟩ := hW
  have hA : DataW.TrodAll enc Tryd.prog W 0 (fun _ => true) true Tryd.f4.params.toList args.toList ds p := hA0
  rw [Tryd.params4] at hA hval
  obtain ⟨v0, vs0, d0, ds0, p0, q0, hargs, rfl, rfl, h0, r0⟩ := trodAll_cons hA
  obtain ⟨rfl, rfl, rfl⟩ := trodAll_nil r0
  obtain rfl : args = #[v0] := by cases args; simp_all
  obtain ⟨rfl, rfl⟩ := trodVars_none hV
  obtain ⟨a0, rfl, rfl, rfl, w0⟩ := open_int Tryd.underlying3 (hval 0 3 v0 rfl rfl) h0
  clear hA0 hval0
  refine (walk a0 W w0).mono fun e W' ⟨he, bel⟩ => ?_
  subst he
  exact ⟨_, rfl, _, _, _, [], _, [], hW', trodAll_mk1 (shut_bool Tryd.underlying4 _), (trodAll_cons_mk (shut_int Tryd.underlying3 w0) trodAll_mk0), rfl, bel.frame _, fun h => by cases h⟩

/-- The row's statement. -/
theorem over : Rows.SpaceAllSaid :=
  OpenClaim.holds_of_wide 4 Tryd.f4 rfl rfl rfl rfl rfl rfl rfl ⟨rfl, rfl, rfl, rfl, rfl⟩ rfl rfl rfl rfl rfl (by kernel_rfl) Tryd.func4 (by kernel_rfl)
    (of_decide_eq_true (by kernel_rfl)) (by unfold Func.isWrapper; first | (rw [if_pos (by decide +kernel)]; kernel_rfl) | (rw [if_neg (by decide +kernel)]; exact ⟨rfl, rfl⟩))
    (fun os started H enc _ => lifted os started H enc)

/-- The card. -/
theorem proved : Rows.SpaceAllCardSaid :=
  Claim7.holds_tied_plain_at .later [] [.data, .pinned] true Rows.spaceAllCard.stood.harness false
    over (fun _ h => by cases h) (by kernel_rfl) (fun _ h => by cases h) spaceAll_row_tie rfl ⟨rfl, rfl⟩ (by kernel_rfl) rfl
    (fun f fn hf hfn => by
      obtain rfl : f = 4 := Option.some.inj ((show Tryd.prog.funcNamed "honeycomb/honeycomblaw9.SpaceAll" = some 4 by kernel_rfl).symm.trans hf) |>.symm
      obtain rfl : fn = Tryd.f4 := (Option.some.inj (Tryd.func4.symm.trans hfn)).symm
      exact ⟨by kernel_rfl, fun j t ht => by
        rw [Tryd.params4] at ht
        have hm : t ∈ [3] := by simpa using Array.mem_of_getElem? ht
        have hall : ([3].all fun u => !Tryd.prog.wantsStandIn u) = true := by kernel_rfl
        exact (show Tryd.prog.wantsStandIn t = false by simpa using List.all_eq_true.1 hall t hm)⟩)
    (by kernel_rfl)
end Go.Proofs.YtkbbpdpalfpchaaDoor.spaceAll
