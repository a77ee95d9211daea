/- Sectors that are cut off at the end, however many, leave the first records, as they were. -/
import Derived.Test.YtbdpmfgphhgigaaRows
import Derived.Test.YtbdpmfgphhgigaaBase
import Derived.Deep.RegionHeld3
import Derived.Deep.QuietTactic
import Derived.LoopTactic
import Derived.StillTailTactics
import Derived.BigQuiet
import Derived.Deep.DeepCutAuto
import Derived.Deep.RegionLaw
import Derived.Deep.CutBlock
import Derived.Lib.Hide
import Derived.WalkKit
import Derived.SizedLaws
import Derived.ProofKit
import Derived.OpenShut
import Derived.ChangeOld
import Derived.Below
import Derived.Carry
namespace Go.Proofs.Ytbdpmfgphhgigaa.frameCuts
open Go.ChangeShapes Go.WideShapes Go.ChangeAt Go.RowKit
set_option linter.unusedVariables false

theorem own : ownKnob Try.prog.godebug = none := by kernel_rfl
theorem laidOut : laidOutB Try.prog = true := by kernel_rfl


set_option maxRecDepth 100000 in
set_option maxHeartbeats 100000000 in
theorem walk (A0 : Option Addr) (n0 c0 : Nat) (l0 : List BA) (a1 : Int) (w : World) (w0t : Txt w.heap.size w A0 n0 l0) (s0 : ∀ x ∈ l0, x.length ≤ 140737488351232) (w1i : (Lit.int .i64 a1).wf = true) :
    Calls Try.prog 5 #[.slice A0 n0 c0, .int .i64 a1] w fun e w' => e = .returned (.bool true) ∧ Below w.heap.size w w' := by
  have AL := Lib.hid alive_yes
  have F0 := Lib.hid (fun w' (hb : Below w.heap.size w w') => few_b (c := c0) w' (w0t.kept hb) s0)
  cases hf0 : fewB l0 with
  | false =>
    rw [hf0] at F0
    as_aux_lemma =>
      have HB0 := Lib.hid (Below.refl w.heap.size w)
      go_enter Try.func5, Try.ntmps5
      go_wp2_with fail
      refine (F0.out _ HB0.out).mono ?_; rintro e w1 ⟨rfl, hb⟩
      have HB1 := Lib.hid (HB0.out.trans (hb.mono HB0.out.size))
      clear hb HB0
      go_wp2_with fail
      refine (AL.out _).mono ?_; rintro e w2 ⟨rfl, hb⟩
      have HB2 := Lib.hid (HB1.out.trans (hb.mono HB1.out.size))
      clear hb HB1
      go_wp2_with fail
      go_ret
      exact ⟨by trivial, HB2.out⟩
  | true =>
    rw [hf0] at F0
    have BA := Lib.hid (fun w' (hb : Below w.heap.size w w') => batch_few (c := c0) 2 0 (by unfold rng; omega) (by unfold rng; omega) (w0t.kept hb) hb.size hf0)
    have HL1 := (few_bat (e := 2) (i := 0) hf0).1
    cases hb1 : batOk 2 0 l0 with
    | false =>
      rw [hb1, bat_no hb1] at BA
      as_aux_lemma =>
        have HB0 := Lib.hid (Below.refl w.heap.size w)
        go_enter Try.func5, Try.ntmps5
        go_wp2_with fail
        refine (F0.out _ HB0.out).mono ?_; rintro e w1 ⟨rfl, hb⟩
        have HB1 := Lib.hid (HB0.out.trans (hb.mono HB0.out.size))
        clear hb HB0
        go_wp2_with fail
        refine (AL.out _).mono ?_; rintro e w2 ⟨rfl, hb⟩
        have HB2 := Lib.hid (HB1.out.trans (hb.mono HB1.out.size))
        clear hb HB1
        go_wp2_with fail
        refine (BA.out _ HB2.out).mono ?_; rintro e w3 ⟨X1, g1, rfl, ht, ho, hb⟩
        have HB3 := Lib.hid (HB2.out.trans (hb.mono HB2.out.size))
        have HT1 := Lib.hid ht
        have HO1 := Lib.hid ho
        clear ht ho
        clear hb HB2
        go_wp2_with fail
        refine bodyPost_ret (results_tmp rfl _ _ _) rfl ?_
        exact ⟨by trivial, HB3.out⟩
    | true =>
      have hnl := batB_length hb1
      have hpos := np_pos hb1
      rw [← hnl] at hpos
      clear hnl
      rw [hb1] at BA
      as_aux_lemma =>
        have HB0 := Lib.hid (Below.refl w.heap.size w)
        go_enter Try.func5, Try.ntmps5
        go_wp2_with fail
        refine (F0.out _ HB0.out).mono ?_; rintro e w1 ⟨rfl, hb⟩
        have HB1 := Lib.hid (HB0.out.trans (hb.mono HB0.out.size))
        clear hb HB0
        go_wp2_with fail
        refine (AL.out _).mono ?_; rintro e w2 ⟨rfl, hb⟩
        have HB2 := Lib.hid (HB1.out.trans (hb.mono HB1.out.size))
        clear hb HB1
        go_wp2_with fail
        refine (BA.out _ HB2.out).mono ?_; rintro e w3 ⟨X1, g1, rfl, ht, ho, hb⟩
        have HB3 := Lib.hid (HB2.out.trans (hb.mono HB2.out.size))
        have HT1 := Lib.hid ht
        have HO1 := Lib.hid ho
        clear ht ho
        clear hb HB2
        have hcap := HO1.out.cap
        obtain ⟨g, rfl, -, -, -⟩ := HO1.out.at (k := 0) (by omega)
        obtain ⟨k, hk, p1, p2, p3, p4, p5, p6⟩ := place a1 (batB 2 0 l0).length (by omega)
        have sl := cutS g (batB 2 0 l0).length g1 k (by omega)
        obtain ⟨ra, rc, hr1, hr2, hr3⟩ := scan_cut hb1 (by omega) k hk
        have hr4 : (scan ((batB 2 0 l0).take k)).next ≤ k := by
          have := scan_next_le ((batB 2 0 l0).take k)
          rw [List.length_take] at this
          omega
        have SC := Lib.hid (scan_list (c := g1) (HT1.out.take hk) (Nat.le_refl _) (by omega))
        rw [hr2] at SC
        have HL0 := Lib.hid hr1
        have HFULL := Lib.hid hr3
        have hral : ra.length ≤ l0.length := by rw [hr1, List.length_append]; omega
        have HL2 := Lib.hid w0t.len
        generalize (scan ((batB 2 0 l0).take k)).next = nx at *
        generalize (scan ((batB 2 0 l0).take k)).ep = ep at *
        clear hr1 hr2 hr3 HO1 HT1 BA hcap
        generalize hNN : (batB 2 0 l0).length = N at *
        clear hNN
        go_wp2_with fail
        refine SC.out.mono ?_; rintro e y1 ⟨Y2, f2, rfl, ho2, hb2⟩
        have HY := Lib.hid (HB3.out.trans (hb2.mono HB3.out.size))
        have HO2 := Lib.hid ho2
        clear ho2 hb2 SC sl HB3
        have hn0 : n0 = l0.length := HL2.out.symm
        have h20 := (few_strm hf0).1
        have j1 : ¬ (l0.length : Int) < (ra.length : Int) := by omega
        have j2 : ¬ (k : Int) < (nx : Int) := by omega
        have j3 : ¬ (n0 : Int) < (ra.length : Int) := by omega
        go_wp2_with fail
        go_loopw [63] (fun x wr => ∃ i : Nat, i ≤ ra.length ∧ x = .int .i64 i ∧ ∃ q, wr = y1.drewN q) (fun x _ => ra.length - (intOf x).toNat)
        case atStart => exact ⟨0, Nat.zero_le _, rfl, 0, rfl⟩
        case round =>
          obtain ⟨i, hi, rfl, q, rfl⟩ := hrel
          have b0 : (0 : Int) ≤ (i : Int) := by omega
          by_cases hlt : i < ra.length
          · have b1 : (i : Int) < (ra.length : Int) := by omega
            have b2 : (i : Int) < (l0.length : Int) := by omega
            have b3 : (i : Int) < (n0 : Int) := by omega
            obtain ⟨gr, rfl, -, -, cr⟩ := HO2.out.at (k := i) hlt
            obtain ⟨bl, ol, rfl, -, cl, -⟩ := (w0t.kept HY.out).2.2 i (by omega)
            have hx : l0.getD i [] = ra.getD i [] := by rw [HL0.out, List.getD_eq_getElem?_getD, List.getElem?_append_left hlt, ← List.getD_eq_getElem?_getD]
            rw [hx] at cl
            generalize str (ra.getD i []) = sx at *
            have heq : (sx.toList == sx.toList) = true := by simp
            clear hx
            go_wp2_with fail
            go_quiet (fail)
            go_wp2_with fail
            go_roundw
            case rel => exact ⟨i + 1, by omega, by go_num, _, rfl⟩
            case measure => simp [intOf] <;> omega
          · obtain rfl : i = ra.length := by omega
            have b1 : ¬ (ra.length : Int) < (ra.length : Int) := by omega
            by_cases hkn : k < N
            · have b4 : (k : Int) < (N : Int) := by omega
              go_wp2_with fail
              go_ret
              exact ⟨by trivial, below_drewN HY.out _⟩
            · have b4 : ¬ (k : Int) < (N : Int) := by omega
              have hfull : ra = l0 := HFULL.out (by omega)
              have b5 : ra.length = n0 := by rw [hfull, hn0]
              have b6 : ((ra.length : Int) == (n0 : Int)) = true := by rw [b5]; simp
              clear hfull
              go_wp2_with fail
              go_ret
              exact ⟨by trivial, below_drewN HY.out _⟩

/-! The row's step. -/
set_option maxRecDepth 100000 in
theorem lifted (os : Os) (started : os.Started) (H : Type) (enc : TypeId × Value → H) :
    ReturnsInHanded {} Try.checked os 5 .any (Rows.frameCutsSpec.pre6 enc Try.prog Try.f5 Rows.frameCutsRow.domain false) (Rows.frameCutsSpec.post enc Try.prog Try.f5 false true false false) := by
  refine returnsInHanded_of_change_sized (C := Try.checked) own started (by kernel_rfl) Try.func5
    (ChangeSpec.witness6 (enc := enc) (C := Try.checked) false ⟨#[], #[.slice none 0 0, .int .i64 0], []⟩ 8 (by kernel_rfl) (by kernel_rfl) (by kernel_rfl) (by kernel_rfl)) ?_
  intro W base args ds gs before hval0 hW hcnd hsz0 _
  have hsz : (DataW.weightsEach Try.prog (Try.f5.params.toList ++ Rows.frameCutsSpec.plain.varTypes Try.prog) (ds ++ gs)).all (· ≤ reachBytes) = true := hsz0
  have hval : ∀ (j : Nat) t v, Try.f5.params[j]? = some t → args[j]? = some v → Value.okWide Try.prog W .any base t v := hval0
  have hW' := hW
  obtain ⟨p, q, hA0, hV, rfl, hfz, hnd⟩ := hW
  have hA : DataW.TrodAll enc Try.prog W 0 (fun _ => true) true Try.f5.params.toList args.toList ds p := hA0
  rw [Try.params5] at hA hval hsz
  obtain ⟨v0, vs0, d0, ds0, p0, q0, hargs, rfl, rfl, h0, r0⟩ := trodAll_cons hA
  obtain ⟨v1, vs1, d1, ds1, p1, q1, rfl, rfl, rfl, h1, r1⟩ := trodAll_cons r0
  obtain ⟨rfl, rfl, rfl⟩ := trodAll_nil r1
  obtain rfl : args = #[v0, v1] := by cases args; simp_all
  obtain ⟨rfl, rfl⟩ := trodVars_none hV
  obtain ⟨A0, n0, c0, rfl⟩ := okWide_slice Try.underlying25 (hval 0 25 v0 rfl rfl)
  have k0 := h0
  have lt0 : ∀ x ∈ p0, x.block < W.heap.size := by obtain ⟨m, hm⟩ := k0; exact DataW.trod_lt m _ _ _ hm
  obtain ⟨l0, w0, e0, f0, z0⟩ := (by obtain ⟨fuel, hf⟩ := h0; exact txt_read hf (fun _ => rfl) : ∃ l, Txt W.heap.size W A0 n0 l ∧ n0 ≤ c0 ∧ c0 ≤ maxLen ∧ ∀ n, (∀ m ∈ DataW.weights Try.prog 25 d0, m ≤ n) → ∀ s ∈ l, s.length ≤ n)
  have s0 := txt_sized (i := 0) z0 hsz rfl rfl
  obtain ⟨a1, rfl, rfl, rfl, w1⟩ := open_int Try.underlying3 (hval 1 3 v1 rfl rfl) h1
  clear hA0 hval0
  refine (walk A0 n0 c0 l0 a1 W w0 s0 w1).mono fun e W' ⟨he, bel⟩ => ?_
  subst he
  exact ⟨_, rfl, _, _, _, [], _, [], hW', trodAll_mk1 (shut_bool Try.underlying4 _), (trodAll_cons_mk (Below.trod laidOut (by kernel_rfl) (of_decide_eq_true (by kernel_rfl)) k0 bel lt0) (trodAll_cons_mk (shut_int Try.underlying3 w1) trodAll_mk0)), rfl, bel.frame _, fun h => by cases h⟩

theorem over : Rows.frameCutsRow.holds Try.pinned (OpenSpec.ofChange Rows.frameCutsSpec) :=
  OpenClaim.holds_of_wide 5 Try.f5 rfl rfl rfl rfl rfl rfl rfl ⟨rfl, rfl, rfl, rfl, rfl⟩ rfl rfl rfl rfl rfl (by kernel_rfl) Try.func5 (by kernel_rfl)
    (of_decide_eq_true (by kernel_rfl)) (by unfold Func.isWrapper; first | (rw [if_pos (by decide +kernel)]; kernel_rfl) | (rw [if_neg (by decide +kernel)]; exact ⟨rfl, rfl⟩))
    (fun os started H enc _ => lifted os started H enc)

/-- The statement. -/
theorem proved : Rows.FrameCutsSaid := over
end Go.Proofs.Ytbdpmfgphhgigaa.frameCuts
