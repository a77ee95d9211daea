/- A value has as many pages as it takes, each but the last full; one that has room by its key, or is too long, has none; with a page less it is not read. -/
import Derived.Test.YtoladghpoddlgaaRows
import Derived.Test.YtoladghpoddlgaaOwnI
import Derived.LoopTactic
import Derived.StillTailTactics
import Derived.BigQuiet
import Derived.Deep.DeepCutAuto
import Derived.Deep.RegionLaw
import Derived.Deep.CutBlock
import Derived.Lib.Hide
import Derived.WalkKit
import Derived.ProofKit
import Derived.OpenShut
import Derived.ChangeOld
import Derived.Below
import Derived.Carry
namespace Go.Proofs.Ytoladghpoddlgaa.blobSizes
open Go.ChangeShapes Go.WideShapes Go.ChangeAt Go.RowKit
set_option linter.unusedVariables false

theorem own : ownKnob Try.prog.godebug = none := by kernel_rfl
theorem laidOut : laidOutB Try.prog = true := by kernel_rfl


set_option maxRecDepth 100000 in
set_option maxHeartbeats 100000000 in
theorem walk (a0 : Int) (w : World) (w0 : (Lit.int .i64 a0).wf = true) :
    Calls Try.prog 4 #[.int .i64 a0] w fun e w' => e = .returned (.bool true) ∧ Below w.heap.size w w' := by
  have AL := Lib.hid alive_yes
  by_cases c0 : a0 < 0
  · as_aux_lemma =>
      have g0 : decide (a0 < 0) = true := decide_eq_true c0
      have HB0 := Lib.hid (Below.refl w.heap.size w)
      go_enter Try.func4, Try.ntmps4
      go_wp2_with fail
      refine (AL.out _).mono ?_; rintro e w1 ⟨rfl, hb⟩
      have HB1 := Lib.hid (HB0.out.trans (hb.mono (Below.size HB0.out)))
      clear hb HB0 
      go_wp2_with fail
      go_ret
      exact ⟨rfl, HB1.out⟩
  · by_cases c1 : a0 > 600
    · as_aux_lemma =>
        have g0 : decide (a0 < 0) = false := decide_eq_false c0
        have g1 : decide (a0 > 600) = true := decide_eq_true c1
        have g2 : decide (600 < a0) = true := decide_eq_true c1
        have HB0 := Lib.hid (Below.refl w.heap.size w)
        go_enter Try.func4, Try.ntmps4
        go_wp2_with fail
        refine (AL.out _).mono ?_; rintro e w1 ⟨rfl, hb⟩
        have HB1 := Lib.hid (HB0.out.trans (hb.mono (Below.size HB0.out)))
        clear hb HB0 
        go_wp2_with fail
        go_ret
        exact ⟨rfl, HB1.out⟩
    · obtain ⟨N, hN⟩ : ∃ N : Nat, a0 = (N : Int) := ⟨a0.toNat, by omega⟩
      subst hN
      have n6 : N ≤ 600 := by omega
      have g0 : decide ((N : Int) < 0) = false := decide_eq_false (by omega)
      have g1 : decide ((N : Int) > 600) = false := decide_eq_false (by omega)
      have ZE := Lib.hid (fun w => zeros_ok N (by omega) w)
      by_cases c2 : (N : Int) ≤ 40
      · as_aux_lemma =>
          have PG := Lib.hid (fun w => pages_any (N : Int) w)
          rw [pagesN_small c2] at PG
          have P0 := Lib.hid (fun w => put_ask0 (zs N) w)
          generalize str (zs N) = s at *
          have g2 : decide ((N : Int) ≤ 40) = true := decide_eq_true c2
          clear n6 c0 c1
          have HB0 := Lib.hid (Below.refl w.heap.size w)
          go_enter Try.func4, Try.ntmps4
          go_wp2_with fail
          refine (AL.out _).mono ?_; rintro e w1 ⟨rfl, hb⟩
          have HB1 := Lib.hid (HB0.out.trans (hb.mono (Below.size HB0.out)))
          clear hb HB0 
          go_wp2_with fail
          refine (PG.out _).mono ?_; rintro e wx ⟨rfl, rfl⟩
          go_wp2_with fail
          refine (ZE.out _).mono ?_; rintro e w2 ⟨rfl, hb⟩
          have HB2 := Lib.hid (HB1.out.trans (hb.mono (Below.size HB1.out)))
          clear hb HB1 
          go_wp2_with fail
          refine (P0.out _).mono ?_; rintro e w3 ⟨A3, k3, c3, rfl, hb⟩
          have HB3 := Lib.hid (HB2.out.trans (hb.mono (Below.size HB2.out)))
          clear hb HB2
          go_wp2_with fail
          go_ret
          exact ⟨rfl, HB3.out⟩
      · by_cases c3 : (N : Int) > 400
        · as_aux_lemma =>
            have PG := Lib.hid (fun w => pages_any (N : Int) w)
            rw [pagesN_big c3] at PG
            have P0 := Lib.hid (fun w => put_ask0 (zs N) w)
            generalize str (zs N) = s at *
            have g2 : decide ((N : Int) ≤ 40) = false := decide_eq_false c2
            have g3 : decide ((N : Int) > 400) = true := decide_eq_true c3
            have g4 : decide ((400 : Int) < (N : Int)) = true := decide_eq_true c3
            clear n6 c0 c1
            have HB0 := Lib.hid (Below.refl w.heap.size w)
            go_enter Try.func4, Try.ntmps4
            go_wp2_with fail
            refine (AL.out _).mono ?_; rintro e w1 ⟨rfl, hb⟩
            have HB1 := Lib.hid (HB0.out.trans (hb.mono (Below.size HB0.out)))
            clear hb HB0 
            go_wp2_with fail
            refine (PG.out _).mono ?_; rintro e wx ⟨rfl, rfl⟩
            go_wp2_with fail
            refine (ZE.out _).mono ?_; rintro e w2 ⟨rfl, hb⟩
            have HB2 := Lib.hid (HB1.out.trans (hb.mono (Below.size HB1.out)))
            clear hb HB1 
            go_wp2_with fail
            refine (P0.out _).mono ?_; rintro e w3 ⟨A3, k3, c3, rfl, hb⟩
            have HB3 := Lib.hid (HB2.out.trans (hb.mono (Below.size HB2.out)))
            clear hb HB2
            go_wp2_with fail
            go_ret
            exact ⟨rfl, HB3.out⟩
        · obtain ⟨K, hK⟩ : ∃ K, K = pagesN (N : Int) := ⟨_, rfl⟩
          have hK2 : (K = 1 ∧ N ≤ 200) ∨ (K = 2 ∧ 200 < N) := by
            rcases pagesN_is (N : Int) with ⟨e, _⟩ | ⟨e, _, _⟩ | ⟨e, _, _⟩ <;> omega
          obtain ⟨K1, hK1⟩ : ∃ K1, K = K1 + 1 := ⟨K - 1, by omega⟩
          have hk12 : K = 1 ∨ K = 2 := by omega
          have hpg : pagesN (zs N).length = K := by rw [zs_length, hK]
          have PG := Lib.hid (fun w => pages_any (N : Int) w)
          rw [← hK] at PG
          have PT := Lib.hid (fun (B c : Nat) (A : Option Addr) w (ho : World.ownsRow w B 3 1 (.slice A K c) K ((tens K).map (Value.int .i64))) => put_tens (zs N) hpg hk12 w ho)
          have PN := Lib.hid (fun (B c : Nat) (A : Option Addr) w (ho : World.ownsRow w B 3 1 (.slice A (K + 1) c) (K + 1) ((tens K).map (Value.int .i64) ++ [.int .i64 30])) => put_own_no (n := K + 1) (B := B) (c := c) (A := A) (zs N) (tens K ++ [30]) (by rw [List.length_append, tens_length]; rfl) (by omega) (by omega) (tens_no hpg) w (by rw [List.map_append]; exact ho))
          have HPA := Lib.hid (fun i (hi : i < K) => show pageAt (zs N) (tens K) i = pgOf (if i + 1 = K then 0 else 11 + (i : Int)) (((zs N).drop (200 * i)).take 200) from by unfold pageAt; rw [tens_next hi])
          have HGT := Lib.hid (fun g c (W W' : World) (ho : Own w.heap.size W (.slice (some ⟨g, 0, none⟩) K c) (pagesL (zs N) (tens K) K)) (hb : Below W.heap.size W W') => by
            have hp := ((own_pgs ho (pagesL_length _ _ _) (by omega) pagesL_sizes).kept hb).take K1
            have := get_any (m := K1) (c := c) (N : Int) W' hp hb.size (by rw [List.length_take, pagesL_length]; omega) (by omega) (by omega)
            unfold GetP at this
            have e : getOk (N : Int) ((pagesL (zs N) (tens K) K).take K1) = false := getOk_count (by rw [List.length_take, pagesL_length, ← hK]; omega)
            rw [getS_no e, e] at this
            exact (show Calls Try.prog 13 #[.int .i64 (N : Int), .slice (some ⟨g, 0, none⟩) K1 c] W' fun e w' => e = .returned (.tuple #[.string ⟨#[]⟩, .bool false]) ∧ Below W'.heap.size W' w' from this))
          have HK12 := Lib.hid hk12
          have HK1 := Lib.hid hK1
          have HK2 := Lib.hid hK2
          obtain ⟨i0, hi0, hz0, hz1, hz2⟩ := info_parts I.infoI
          have kk : K ≤ 2 := by omega
          have b0 : (0 : Int) ≤ (K : Int) := by omega
          have b1 : (K : Int) ≤ 2 := by omega
          have g2 : decide ((N : Int) ≤ 40) = false := decide_eq_false (by omega)
          have g3 : decide ((N : Int) > 400) = false := decide_eq_false (by omega)
          have m1 : IntKind.i64.wrap ((K : Int) - 1) = (K1 : Int) := by rw [IntWalk.i64_in _ (by omega)]; omega
          have m2 : IntKind.i64.wrap ((K1 : Int) * 200) = (K1 : Int) * 200 := IntWalk.i64_in _ (by omega)
          have m3 : IntKind.i64.wrap ((K : Int) * 200) = (K : Int) * 200 := IntWalk.i64_in _ (by omega)
          have m4 : decide ((K1 : Int) * 200 ≥ (N : Int)) = false := decide_eq_false (by omega)
          have m5 : decide ((K : Int) * 200 < (N : Int)) = false := decide_eq_false (by omega)
          have k1 : K1 ≤ 1 := by omega
          clear hK hK1 hk12 hpg n6 c0 c1 c2 c3 hK2
          generalize str (zs N) = s at *
          generalize zs N = zn at *
          have HB0 := Lib.hid (Below.refl w.heap.size w)
          go_enter Try.func4, Try.ntmps4
          go_wp2_with fail
          refine (AL.out _).mono ?_; rintro e w1 ⟨rfl, hb⟩
          have HB1 := Lib.hid (HB0.out.trans (hb.mono (Below.size HB0.out)))
          clear hb HB0 
          go_wp2_with fail
          refine (PG.out _).mono ?_; rintro e wx ⟨rfl, rfl⟩
          go_wp2_with fail
          go_loopw [6, 7] (fun u y wr => ∃ i : Nat, i ≤ K ∧ y = .int .i64 i ∧ Hid (OSt w i u wr)) (fun _ y _ => K - (intOf y).toNat)
          case atStart => exact ⟨0, Nat.zero_le _, rfl, World.ownsRow_nil _ _ _ _, HB1.out⟩
          case round =>
            obtain ⟨i, hi, rfl, hq⟩ := hrel
            have HQ := Lib.hid hq.out
            clear hq
            have q0 : (0 : Int) ≤ (i : Int) := by omega
            by_cases hlt : i < K
            · as_aux_lemma =>
                have q1 : (i : Int) < (K : Int) := by omega
                have q2 : (i : Int) ≤ 2 := by omega
                have e1 : IntKind.i64.wrap (10 + (i : Int)) = 10 + (i : Int) := IntWalk.i64_in _ (by omega)
                have hown := HQ.out.1
                obtain ⟨Av, cv, rfl⟩ := own_shape hown
                go_wp2_with (at_builtin; refine wpList_append_own _ rfl _ _ 22 rfl w.heap.size 3 i0 (.int .i64 0) 1 8 Try.underlying22 hi0 hz0 hz1 hz2 rfl (by decide) _ _ _ rfl (hown.alloc _) ⟨wr.heap.size, 0, none⟩ 1 1 [.int .i64 (10 + (i : Int))] rfl rfl (cell_one_new _ _ _) (by simp [Value.oneCell']) (by unfold maxLen; omega) (by omega) (by have := HQ.out.2.size; simp; omega) ?_; intro v' w2 hown' hgrow _; obtain ⟨g', cap', rfl⟩ := ownsRow_succ hown')
                have HN := Lib.hid (show OSt w (i + 1) (.slice (some ⟨g', 0, none⟩) (i + 1) cap') w2 from by
                  refine ⟨?_, (HQ.out.2.alloc HQ.out.2.size _).grown hgrow (by have := HQ.out.2.size; simp; omega) (fun g hg => (hown.lt g hg).1)⟩
                  rw [tens_succ, List.map_append]
                  exact hown')
                clear hown hown' hgrow
                go_wp2_with fail
                go_roundw
                case rel => exact ⟨i + 1, by omega, by go_num, HN.out⟩
                case measure => simp [intOf]; omega
            · obtain rfl : K = i := by omega
              obtain ⟨Av, cv, rfl⟩ := own_shape HQ.out.1
              go_wp2_with fail
              refine (ZE.out _).mono ?_; rintro e w3 ⟨rfl, hb⟩
              have hown := owns_kept2 HQ.out.1 (fun g hg => hb.block g (HQ.out.1.lt g hg).2)
              have HB3 := Lib.hid (HQ.out.2.trans (hb.mono HQ.out.2.size))
              have HOW := Lib.hid hown
              clear hb hown
              go_wp2_with fail
              refine (PT.out _ _ _ _ HOW.out).mono ?_; rintro e w4 ⟨g, c, rfl, hgl, hge, hkc, hpg, ho, hb⟩
              have HB4 := Lib.hid (HB3.out.trans (hb.mono HB3.out.size))
              have HO4 := Lib.hid (own_base ho HB3.out.size)
              have HPG4 := Lib.hid hpg
              have HGL := Lib.hid hgl
              have HOW4 := Lib.hid (owns_kept2 HOW.out (fun g hg => hb.block g (HOW.out.lt g hg).2))
              have kc : (K1 : Int) ≤ (c : Int) := by have := HK1.out; omega
              clear hb ho hpg hgl hge HQ
              go_wp2_with fail
              refine (ZE.out _).mono ?_; rintro e w5 ⟨rfl, hb⟩
              have hown := owns_kept2 HOW4.out (fun g hg => hb.block g (HOW4.out.lt g hg).2)
              have HB5 := Lib.hid (HB4.out.trans (hb.mono HB4.out.size))
              have HX5 := Lib.hid hb
              clear hb
              go_wp2_with (at_builtin; refine wpList_append_own _ rfl _ _ 22 rfl w.heap.size 3 i0 (.int .i64 0) 1 8 Try.underlying22 hi0 hz0 hz1 hz2 rfl (by decide) _ _ _ rfl (hown.alloc _) ⟨w5.heap.size, 0, none⟩ 1 1 [.int .i64 30] rfl rfl (cell_one_new _ _ _) (by simp [Value.oneCell']) (by unfold maxLen; omega) (by omega) (by have := HB5.out.size; simp; omega) ?_; intro v' w6 hown' hgrow _; obtain ⟨g', cap', rfl⟩ := ownsRow_succ hown')
              have HW6 := Lib.hid (show w6.heap[g]? = w4.heap[g]? from by
                have h1 : w5.heap[g]? = w4.heap[g]? := HX5.out.block g HGL.out
                have h2 : g < w5.heap.size := Nat.lt_of_lt_of_le HGL.out HX5.out.size
                have h3 := hgrow.block g (by rw [World.size_alloc]; omega) (fun e => rows_apart HO4.out HOW4.out (g := g) rfl e.symm)
                exact h3.trans ((Below.heap_alloc w5 _ g h2).trans h1))
              have HB6 := Lib.hid ((HB5.out.alloc HB5.out.size (.cells #[.int .i64 30] 3)).grown hgrow (by have := HB5.out.size; simp; omega) (fun g hg => (hown.lt g hg).1))
              have HPG6 := Lib.hid (fun i (hi : i < K) => (HPG4.out i hi).block HW6.out)
              have HO6 := Lib.hid (owns_kept2 (w' := w6) HO4.out (fun q hq => by
                simp only [Value.ownBlock, Option.some.injEq] at hq
                subst hq
                exact HW6.out))
              have PN6 := Lib.hid (PN.out _ _ _ _ hown')
              clear hown hown' hgrow HW6 HOW4 HOW HX5 HPG4 HO4 HB5 HB4 HB3 PT PN
              go_wp2_with fail
              refine PN6.out.mono ?_; rintro e w7 ⟨A7, k7, c7, rfl, hb⟩
              have HB7 := Lib.hid (HB6.out.trans (hb.mono HB6.out.size))
              have HPG7 := Lib.hid (fun i (hi : i < K) => (HPG6.out i hi).kept (World.block_lt_of_cell? _ _ (HPG6.out i hi).1) hb)
              have HGT7 := Lib.hid (fun W' (hb' : Below w7.heap.size w7 W') => HGT.out g c w6 W' HO6.out (hb.trans (hb'.mono hb.size)))
              clear hb HPG6 HO6 HB6 PN6 HGT HGL
              go_wp2_with fail
              go_loopw [98] (fun y wr => ∃ i : Nat, i ≤ K ∧ y = .int .i64 i ∧ wr = w7) (fun y _ => K - (intOf y).toNat)
              case atStart => exact ⟨0, Nat.zero_le _, rfl, rfl⟩
              case round =>
                obtain ⟨i, hi, rfl, hwz⟩ := hrel
                subst hwz
                have q0 : (0 : Int) ≤ (i : Int) := by omega
                by_cases hlt : i < K
                · have q1 : (i : Int) < (K : Int) := by omega
                  obtain ⟨p0, p1, p2, p3⟩ := HPG7.out i hlt
                  rw [HPA.out i hlt] at p0 p1 p2 p3
                  unfold pgOf at p0 p1 p2 p3
                  dsimp only at p0 p1 p2 p3
                  clear p1 p3
                  by_cases hlast : i + 1 = K
                  · rw [if_pos hlast] at p2
                    have l1 : (i : Int) = (K1 : Int) := by have := HK1.out; omega
                    have l2 : ((i : Int) == (K1 : Int)) = true := by rw [beq_iff_eq]; exact l1
                    have l3 : decide ((i : Int) < (K1 : Int)) = false := decide_eq_false (by omega)
                    clear l1
                    go_wp2_with fail
                    go_roundw
                    case rel => exact ⟨i + 1, by omega, by go_num, by trivial⟩
                    case measure => simp [intOf]; omega
                  · rw [if_neg hlast] at p2
                    have l1 : (i : Int) < (K1 : Int) := by have := HK1.out; omega
                    have l2 : ((i : Int) == (K1 : Int)) = false := by rw [beq_eq_false_iff_ne]; omega
                    have l3 : decide ((i : Int) < (K1 : Int)) = true := decide_eq_true l1
                    have l4 : IntKind.i64.wrap (11 + (i : Int)) = 11 + (i : Int) := IntWalk.i64_in _ (by omega)
                    have l5 : ((11 + (i : Int)) == 0) = false := by rw [beq_eq_false_iff_ne]; omega
                    go_wp2_with fail
                    go_roundw
                    case rel => exact ⟨i + 1, by omega, by go_num, by trivial⟩
                    case measure => simp [intOf]; omega
                · obtain rfl : K = i := by omega
                  go_wp2_with fail
                  refine (HGT7.out _ (Below.refl _ _)).mono ?_; rintro e w8 ⟨rfl, hb⟩
                  have HB8 := Lib.hid (HB7.out.trans (hb.mono HB7.out.size))
                  clear hb
                  go_wp2_with fail
                  go_ret
                  exact ⟨rfl, HB8.out⟩

/-! The row's step. -/
set_option maxRecDepth 100000 in
theorem lifted (os : Os) (started : os.Started) (H : Type) (enc : TypeId × Value → H) :
    ReturnsInHanded {} Try.checked os 4 .any (Rows.blobSizesSpec.pre6 enc Try.prog Try.f4 Rows.blobSizesRow.domain false) (Rows.blobSizesSpec.post enc Try.prog Try.f4 false true false false) := by
  refine returnsInHanded_of_change (C := Try.checked) own started (by kernel_rfl) Try.func4
    (ChangeSpec.witness6 (enc := enc) (C := Try.checked) false ⟨#[], #[.int .i64 0], []⟩ 8 (by kernel_rfl) (by kernel_rfl) (by kernel_rfl) (by kernel_rfl)) ?_
  intro W base args ds gs before hval0 hW hcnd _
  have hval : ∀ (j : Nat) t v, Try.f4.params[j]? = some t → args[j]? = some v → Value.okWide Try.prog W .any base t v := hval0
  have hW' := hW
  obtain ⟨p, q, hA0, hV, rfl, hfz, hnd⟩ := hW
  have hA : DataW.TrodAll enc Try.prog W 0 (fun _ => true) true Try.f4.params.toList args.toList ds p := hA0
  rw [Try.params4] at hA hval
  obtain ⟨v0, vs0, d0, ds0, p0, q0, hargs, rfl, rfl, h0, r0⟩ := trodAll_cons hA
  obtain ⟨rfl, rfl, rfl⟩ := trodAll_nil r0
  obtain rfl : args = #[v0] := by cases args; simp_all
  obtain ⟨rfl, rfl⟩ := trodVars_none hV
  obtain ⟨a0, rfl, rfl, rfl, w0⟩ := open_int Try.underlying3 (hval 0 3 v0 rfl rfl) h0
  clear hA0 hval0
  refine (walk a0 W w0).mono fun e W' ⟨he, bel⟩ => ?_
  subst he
  exact ⟨_, rfl, _, _, _, [], _, [], hW', trodAll_mk1 (shut_bool Try.underlying4 _), (trodAll_cons_mk (shut_int Try.underlying3 w0) trodAll_mk0), rfl, bel.frame _, fun h => by cases h⟩

theorem over : Rows.blobSizesRow.holds Try.pinned (OpenSpec.ofChange Rows.blobSizesSpec) :=
  OpenClaim.holds_of_wide 4 Try.f4 rfl rfl rfl rfl rfl rfl rfl ⟨rfl, rfl, rfl, rfl, rfl⟩ rfl rfl rfl rfl rfl (by kernel_rfl) Try.func4 (by kernel_rfl)
    (of_decide_eq_true (by kernel_rfl)) (by unfold Func.isWrapper; first | (rw [if_pos (by decide +kernel)]; kernel_rfl) | (rw [if_neg (by decide +kernel)]; exact ⟨rfl, rfl⟩))
    (fun os started H enc _ => lifted os started H enc)

/-- The statement. -/
theorem proved : Rows.BlobSizesSaid := over
end Go.Proofs.Ytoladghpoddlgaa.blobSizes
