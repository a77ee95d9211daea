/- Sectors that do not stand where they say are not read, nor what is behind them. -/
import Derived.Test.YtbdpmfgphhgigaaRows
import Derived.Test.YtbdpmfgphhgigaaBase
import Derived.Deep.RegionHeld3
import Derived.Deep.QuietTactic
import Derived.LoopTactic
import Derived.StillTailTactics
import Derived.BigQuiet
import Derived.Deep.DeepCutAuto
import Derived.Deep.RegionLaw
import Derived.Deep.CutBlock
import Derived.Lib.Hide
import Derived.WalkKit
import Derived.SizedLaws
import Derived.ProofKit
import Derived.OpenShut
import Derived.ChangeOld
import Derived.Below
import Derived.Carry
namespace Go.Proofs.Ytbdpmfgphhgigaa.framePlaces
open Go.ChangeShapes Go.WideShapes Go.ChangeAt Go.RowKit
set_option linter.unusedVariables false

theorem own : ownKnob Try.prog.godebug = none := by kernel_rfl
theorem laidOut : laidOutB Try.prog = true := by kernel_rfl


set_option maxRecDepth 100000 in
set_option maxHeartbeats 100000000 in
theorem walk (A0 : Option Addr) (n0 c0 : Nat) (l0 : List BA) (a1 : Int) (w : World) (w0t : Txt w.heap.size w A0 n0 l0) (s0 : ∀ x ∈ l0, x.length ≤ 140737488351232) (w1i : (Lit.int .i64 a1).wf = true) :
    Calls Try.prog 9 #[.slice A0 n0 c0, .int .i64 a1] w fun e w' => e = .returned (.bool true) ∧ Below w.heap.size w w' := by
  have AL := Lib.hid alive_yes
  have F0 := Lib.hid (fun w' (hb : Below w.heap.size w w') => few_any (c := c0) w' (w0t.kept hb) s0)
  cases hf0 : fewB l0 with
  | false =>
    rw [hf0] at F0
    as_aux_lemma =>
      have HB0 := Lib.hid (Below.refl w.heap.size w)
      go_enter Try.func9, Try.ntmps9
      go_wp2_with fail
      refine (F0.out _ HB0.out).mono ?_; rintro e w1 ⟨rfl, q1, rfl⟩
      have HB1 := Lib.hid (below_drewN HB0.out q1)
      clear HB0
      go_wp2_with fail
      refine (AL.out _).mono ?_; rintro e w2 ⟨rfl, hb⟩
      have HB2 := Lib.hid (HB1.out.trans (hb.mono HB1.out.size))
      clear hb HB1
      go_wp2_with fail
      go_ret
      exact ⟨by trivial, HB2.out⟩
  | true =>
    rw [hf0] at F0
    by_cases d1 : a1 < 1
    · as_aux_lemma =>
        have HB0 := Lib.hid (Below.refl w.heap.size w)
        go_enter Try.func9, Try.ntmps9
        go_wp2_with fail
        refine (F0.out _ HB0.out).mono ?_; rintro e w1 ⟨rfl, q1, rfl⟩
        have HB1 := Lib.hid (below_drewN HB0.out q1)
        clear HB0
        go_wp2_with fail
        refine (AL.out _).mono ?_; rintro e w2 ⟨rfl, hb⟩
        have HB2 := Lib.hid (HB1.out.trans (hb.mono HB1.out.size))
        clear hb HB1
        go_wp2_with fail
        go_ret
        exact ⟨by trivial, HB2.out⟩
    · skip
      by_cases d2 : 20 < a1
      · as_aux_lemma =>
          have HB0 := Lib.hid (Below.refl w.heap.size w)
          go_enter Try.func9, Try.ntmps9
          go_wp2_with fail
          refine (F0.out _ HB0.out).mono ?_; rintro e w1 ⟨rfl, q1, rfl⟩
          have HB1 := Lib.hid (below_drewN HB0.out q1)
          clear HB0
          go_wp2_with fail
          refine (AL.out _).mono ?_; rintro e w2 ⟨rfl, hb⟩
          have HB2 := Lib.hid (HB1.out.trans (hb.mono HB1.out.size))
          clear hb HB1
          go_wp2_with fail
          go_ret
          exact ⟨by trivial, HB2.out⟩
      · skip
        have BA := Lib.hid (fun w' (hb : Below w.heap.size w w') => batch_few (c := c0) 4 a1 (by unfold rng; omega) (wf_rng w1i) (w0t.kept hb) hb.size hf0)
        cases hb : batOk 4 a1 l0 with
        | false =>
          rw [hb, bat_no hb] at BA
          as_aux_lemma =>
            have HB0 := Lib.hid (Below.refl w.heap.size w)
            go_enter Try.func9, Try.ntmps9
            go_wp2_with fail
            refine (F0.out _ HB0.out).mono ?_; rintro e w1 ⟨rfl, q1, rfl⟩
            have HB1 := Lib.hid (below_drewN HB0.out q1)
            clear HB0
            go_wp2_with fail
            refine (AL.out _).mono ?_; rintro e w2 ⟨rfl, hb⟩
            have HB2 := Lib.hid (HB1.out.trans (hb.mono HB1.out.size))
            clear hb HB1
            go_wp2_with fail
            refine (BA.out _ HB2.out).mono ?_; rintro e w3 ⟨A1, c1, rfl, ht, ho, hb⟩
            have HB3 := Lib.hid (HB2.out.trans (hb.mono HB2.out.size))
            have HT := Lib.hid ht
            clear ht ho
            clear hb HB2
            go_wp2_with fail
            refine bodyPost_ret (results_tmp rfl _ _ _) rfl ?_
            exact ⟨by trivial, HB3.out⟩
        | true =>
          have hsc : scan (batB 4 a1 l0) = sc0 := by have := scan_off (m := []) hb (by omega); rwa [List.append_nil] at this
          rw [hb] at BA
          as_aux_lemma =>
            have HB0 := Lib.hid (Below.refl w.heap.size w)
            go_enter Try.func9, Try.ntmps9
            go_wp2_with fail
            refine (F0.out _ HB0.out).mono ?_; rintro e w1 ⟨rfl, q1, rfl⟩
            have HB1 := Lib.hid (below_drewN HB0.out q1)
            clear HB0
            go_wp2_with fail
            refine (AL.out _).mono ?_; rintro e w2 ⟨rfl, hb⟩
            have HB2 := Lib.hid (HB1.out.trans (hb.mono HB1.out.size))
            clear hb HB1
            go_wp2_with fail
            refine (BA.out _ HB2.out).mono ?_; rintro e w3 ⟨A1, c1, rfl, ht, ho, hb⟩
            have HB3 := Lib.hid (HB2.out.trans (hb.mono HB2.out.size))
            have HT := Lib.hid ht
            clear ht ho
            clear hb HB2
            go_wp2_with fail
            have SC := Lib.hid (scan_list (c := c1) HT.out (Nat.le_refl _) (by have := (few_bat (e := 4) (i := a1) hf0).1; omega))
            rw [hsc] at SC
            refine (SC.out).mono ?_; rintro e w4 ⟨A2, c2, rfl, ho, hb⟩
            have HB4 := Lib.hid (HB3.out.trans (hb.mono HB3.out.size))
            clear ho
            clear hb HB3
            go_wp2_with fail
            go_ret
            exact ⟨by trivial, HB4.out⟩

/-! The row's step. -/
set_option maxRecDepth 100000 in
theorem lifted (os : Os) (started : os.Started) (H : Type) (enc : TypeId × Value → H) :
    ReturnsInHanded {} Try.checked os 9 .any (Rows.framePlacesSpec.pre6 enc Try.prog Try.f9 Rows.framePlacesRow.domain false) (Rows.framePlacesSpec.post enc Try.prog Try.f9 false true false false) := by
  refine returnsInHanded_of_change_sized (C := Try.checked) own started (by kernel_rfl) Try.func9
    (ChangeSpec.witness6 (enc := enc) (C := Try.checked) false ⟨#[], #[.slice none 0 0, .int .i64 0], []⟩ 8 (by kernel_rfl) (by kernel_rfl) (by kernel_rfl) (by kernel_rfl)) ?_
  intro W base args ds gs before hval0 hW hcnd hsz0 _
  have hsz : (DataW.weightsEach Try.prog (Try.f9.params.toList ++ Rows.framePlacesSpec.plain.varTypes Try.prog) (ds ++ gs)).all (· ≤ reachBytes) = true := hsz0
  have hval : ∀ (j : Nat) t v, Try.f9.params[j]? = some t → args[j]? = some v → Value.okWide Try.prog W .any base t v := hval0
  have hW' := hW
  obtain ⟨p, q, hA0, hV, rfl, hfz, hnd⟩ := hW
  have hA : DataW.TrodAll enc Try.prog W 0 (fun _ => true) true Try.f9.params.toList args.toList ds p := hA0
  rw [Try.params9] at hA hval hsz
  obtain ⟨v0, vs0, d0, ds0, p0, q0, hargs, rfl, rfl, h0, r0⟩ := trodAll_cons hA
  obtain ⟨v1, vs1, d1, ds1, p1, q1, rfl, rfl, rfl, h1, r1⟩ := trodAll_cons r0
  obtain ⟨rfl, rfl, rfl⟩ := trodAll_nil r1
  obtain rfl : args = #[v0, v1] := by cases args; simp_all
  obtain ⟨rfl, rfl⟩ := trodVars_none hV
  obtain ⟨A0, n0, c0, rfl⟩ := okWide_slice Try.underlying25 (hval 0 25 v0 rfl rfl)
  have k0 := h0
  have lt0 : ∀ x ∈ p0, x.block < W.heap.size := by obtain ⟨m, hm⟩ := k0; exact DataW.trod_lt m _ _ _ hm
  obtain ⟨l0, w0, e0, f0, z0⟩ := (by obtain ⟨fuel, hf⟩ := h0; exact txt_read hf (fun _ => rfl) : ∃ l, Txt W.heap.size W A0 n0 l ∧ n0 ≤ c0 ∧ c0 ≤ maxLen ∧ ∀ n, (∀ m ∈ DataW.weights Try.prog 25 d0, m ≤ n) → ∀ s ∈ l, s.length ≤ n)
  have s0 := txt_sized (i := 0) z0 hsz rfl rfl
  obtain ⟨a1, rfl, rfl, rfl, w1⟩ := open_int Try.underlying3 (hval 1 3 v1 rfl rfl) h1
  clear hA0 hval0
  refine (walk A0 n0 c0 l0 a1 W w0 s0 w1).mono fun e W' ⟨he, bel⟩ => ?_
  subst he
  exact ⟨_, rfl, _, _, _, [], _, [], hW', trodAll_mk1 (shut_bool Try.underlying4 _), (trodAll_cons_mk (Below.trod laidOut (by kernel_rfl) (of_decide_eq_true (by kernel_rfl)) k0 bel lt0) (trodAll_cons_mk (shut_int Try.underlying3 w1) trodAll_mk0)), rfl, bel.frame _, fun h => by cases h⟩

theorem over : Rows.framePlacesRow.holds Try.pinned (OpenSpec.ofChange Rows.framePlacesSpec) :=
  OpenClaim.holds_of_wide 9 Try.f9 rfl rfl rfl rfl rfl rfl rfl ⟨rfl, rfl, rfl, rfl, rfl⟩ rfl rfl rfl rfl rfl (by kernel_rfl) Try.func9 (by kernel_rfl)
    (of_decide_eq_true (by kernel_rfl)) (by unfold Func.isWrapper; first | (rw [if_pos (by decide +kernel)]; kernel_rfl) | (rw [if_neg (by decide +kernel)]; exact ⟨rfl, rfl⟩))
    (fun os started H enc _ => lifted os started H enc)

/-- The statement. -/
theorem proved : Rows.FramePlacesSaid := over
end Go.Proofs.Ytbdpmfgphhgigaa.framePlaces
