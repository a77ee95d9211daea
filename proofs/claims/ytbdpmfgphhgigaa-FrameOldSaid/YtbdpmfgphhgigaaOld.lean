/- Sectors of an older epoch behind newer ones are not read, whatever is in them. -/
import Derived.Test.YtbdpmfgphhgigaaRows
import Derived.Test.YtbdpmfgphhgigaaBase
import Derived.Deep.RegionHeld3
import Derived.Deep.QuietTactic
import Derived.LoopTactic
import Derived.StillTailTactics
import Derived.BigQuiet
import Derived.Deep.DeepCutAuto
import Derived.Deep.RegionLaw
import Derived.Deep.CutBlock
import Derived.Lib.Hide
import Derived.WalkKit
import Derived.SizedLaws
import Derived.ProofKit
import Derived.OpenShut
import Derived.ChangeOld
import Derived.Below
import Derived.Carry
namespace Go.Proofs.Ytbdpmfgphhgigaa.frameOld
open Go.ChangeShapes Go.WideShapes Go.ChangeAt Go.RowKit
set_option linter.unusedVariables false

theorem own : ownKnob Try.prog.godebug = none := by kernel_rfl
theorem laidOut : laidOutB Try.prog = true := by kernel_rfl


set_option maxRecDepth 100000 in
set_option maxHeartbeats 100000000 in
theorem walk (A0 : Option Addr) (n0 c0 : Nat) (l0 : List BA) (A1 : Option Addr) (n1 c1 : Nat) (l1 : List BA) (a2 : Int) (a3 : Int) (w : World) (w0t : Txt w.heap.size w A0 n0 l0) (s0 : ∀ x ∈ l0, x.length ≤ 140737488351232) (w1t : Txt w.heap.size w A1 n1 l1) (s1 : ∀ x ∈ l1, x.length ≤ 140737488351232) (w2i : (Lit.int .i64 a2).wf = true) (w3i : (Lit.int .i64 a3).wf = true) :
    Calls Try.prog 6 #[.slice A0 n0 c0, .slice A1 n1 c1, .int .i64 a2, .int .i64 a3] w fun e w' => e = .returned (.bool true) ∧ Below w.heap.size w w' := by
  have AL := Lib.hid alive_yes
  have F0 := Lib.hid (fun w' (hb : Below w.heap.size w w') => few_b (c := c0) w' (w0t.kept hb) s0)
  have F1 := Lib.hid (fun w' (hb : Below w.heap.size w w') => few_b (c := c1) w' (w1t.kept hb) s1)
  cases hf0 : fewB l0 with
  | false =>
    rw [hf0] at F0
    as_aux_lemma =>
      have HB0 := Lib.hid (Below.refl w.heap.size w)
      go_enter Try.func6, Try.ntmps6
      go_wp2_with fail
      refine (F0.out _ HB0.out).mono ?_; rintro e w1 ⟨rfl, hb⟩
      have HB1 := Lib.hid (HB0.out.trans (hb.mono HB0.out.size))
      clear hb HB0
      go_wp2_with fail
      refine (AL.out _).mono ?_; rintro e w2 ⟨rfl, hb⟩
      have HB2 := Lib.hid (HB1.out.trans (hb.mono HB1.out.size))
      clear hb HB1
      go_wp2_with fail
      go_ret
      exact ⟨by trivial, HB2.out⟩
  | true =>
    rw [hf0] at F0
    cases hf1 : fewB l1 with
    | false =>
      rw [hf1] at F1
      as_aux_lemma =>
        have HB0 := Lib.hid (Below.refl w.heap.size w)
        go_enter Try.func6, Try.ntmps6
        go_wp2_with fail
        refine (F0.out _ HB0.out).mono ?_; rintro e w1 ⟨rfl, hb⟩
        have HB1 := Lib.hid (HB0.out.trans (hb.mono HB0.out.size))
        clear hb HB0
        go_wp2_with fail
        refine (F1.out _ HB1.out).mono ?_; rintro e w2 ⟨rfl, hb⟩
        have HB2 := Lib.hid (HB1.out.trans (hb.mono HB1.out.size))
        clear hb HB1
        go_wp2_with fail
        refine (AL.out _).mono ?_; rintro e w3 ⟨rfl, hb⟩
        have HB3 := Lib.hid (HB2.out.trans (hb.mono HB2.out.size))
        clear hb HB2
        go_wp2_with fail
        go_ret
        exact ⟨by trivial, HB3.out⟩
    | true =>
      rw [hf1] at F1
      by_cases d1 : a2 < 1
      · as_aux_lemma =>
          have HB0 := Lib.hid (Below.refl w.heap.size w)
          go_enter Try.func6, Try.ntmps6
          go_wp2_with fail
          refine (F0.out _ HB0.out).mono ?_; rintro e w1 ⟨rfl, hb⟩
          have HB1 := Lib.hid (HB0.out.trans (hb.mono HB0.out.size))
          clear hb HB0
          go_wp2_with fail
          refine (F1.out _ HB1.out).mono ?_; rintro e w2 ⟨rfl, hb⟩
          have HB2 := Lib.hid (HB1.out.trans (hb.mono HB1.out.size))
          clear hb HB1
          go_wp2_with fail
          refine (AL.out _).mono ?_; rintro e w3 ⟨rfl, hb⟩
          have HB3 := Lib.hid (HB2.out.trans (hb.mono HB2.out.size))
          clear hb HB2
          go_wp2_with fail
          go_ret
          exact ⟨by trivial, HB3.out⟩
      · skip
        by_cases d2 : 1000 < a2
        · as_aux_lemma =>
            have HB0 := Lib.hid (Below.refl w.heap.size w)
            go_enter Try.func6, Try.ntmps6
            go_wp2_with fail
            refine (F0.out _ HB0.out).mono ?_; rintro e w1 ⟨rfl, hb⟩
            have HB1 := Lib.hid (HB0.out.trans (hb.mono HB0.out.size))
            clear hb HB0
            go_wp2_with fail
            refine (F1.out _ HB1.out).mono ?_; rintro e w2 ⟨rfl, hb⟩
            have HB2 := Lib.hid (HB1.out.trans (hb.mono HB1.out.size))
            clear hb HB1
            go_wp2_with fail
            refine (AL.out _).mono ?_; rintro e w3 ⟨rfl, hb⟩
            have HB3 := Lib.hid (HB2.out.trans (hb.mono HB2.out.size))
            clear hb HB2
            go_wp2_with fail
            go_ret
            exact ⟨by trivial, HB3.out⟩
        · skip
          by_cases d3 : a3 < 1
          · as_aux_lemma =>
              have HB0 := Lib.hid (Below.refl w.heap.size w)
              go_enter Try.func6, Try.ntmps6
              go_wp2_with fail
              refine (F0.out _ HB0.out).mono ?_; rintro e w1 ⟨rfl, hb⟩
              have HB1 := Lib.hid (HB0.out.trans (hb.mono HB0.out.size))
              clear hb HB0
              go_wp2_with fail
              refine (F1.out _ HB1.out).mono ?_; rintro e w2 ⟨rfl, hb⟩
              have HB2 := Lib.hid (HB1.out.trans (hb.mono HB1.out.size))
              clear hb HB1
              go_wp2_with fail
              refine (AL.out _).mono ?_; rintro e w3 ⟨rfl, hb⟩
              have HB3 := Lib.hid (HB2.out.trans (hb.mono HB2.out.size))
              clear hb HB2
              go_wp2_with fail
              go_ret
              exact ⟨by trivial, HB3.out⟩
          · skip
            by_cases d4 : a2 ≤ a3
            · as_aux_lemma =>
                have HB0 := Lib.hid (Below.refl w.heap.size w)
                go_enter Try.func6, Try.ntmps6
                go_wp2_with fail
                refine (F0.out _ HB0.out).mono ?_; rintro e w1 ⟨rfl, hb⟩
                have HB1 := Lib.hid (HB0.out.trans (hb.mono HB0.out.size))
                clear hb HB0
                go_wp2_with fail
                refine (F1.out _ HB1.out).mono ?_; rintro e w2 ⟨rfl, hb⟩
                have HB2 := Lib.hid (HB1.out.trans (hb.mono HB1.out.size))
                clear hb HB1
                go_wp2_with fail
                refine (AL.out _).mono ?_; rintro e w3 ⟨rfl, hb⟩
                have HB3 := Lib.hid (HB2.out.trans (hb.mono HB2.out.size))
                clear hb HB2
                go_wp2_with fail
                go_ret
                exact ⟨by trivial, HB3.out⟩
            · skip
              have BA := Lib.hid (fun w' (hb : Below w.heap.size w w') => batch_few (c := c0) a2 0 (wf_rng w2i) (by unfold rng; omega) (w0t.kept hb) hb.size hf0)
              have B2 := Lib.hid (fun (i : Int) (hi : rng i) w' (hb : Below w.heap.size w w') => batch_few (c := c1) a3 i (wf_rng w3i) hi (w1t.kept hb) hb.size hf1)
              have HL1 := (few_bat (e := a2) (i := 0) hf0)
              have HX := Lib.hid HL1.2
              have hx28 := HL1.1
              clear HL1
              cases hb1 : batOk a2 0 l0 with
              | false =>
                rw [hb1] at BA
                as_aux_lemma =>
                  have HB0 := Lib.hid (Below.refl w.heap.size w)
                  go_enter Try.func6, Try.ntmps6
                  go_wp2_with fail
                  refine (F0.out _ HB0.out).mono ?_; rintro e w1 ⟨rfl, hb⟩
                  have HB1 := Lib.hid (HB0.out.trans (hb.mono HB0.out.size))
                  clear hb HB0
                  go_wp2_with fail
                  refine (F1.out _ HB1.out).mono ?_; rintro e w2 ⟨rfl, hb⟩
                  have HB2 := Lib.hid (HB1.out.trans (hb.mono HB1.out.size))
                  clear hb HB1
                  go_wp2_with fail
                  refine (AL.out _).mono ?_; rintro e w3 ⟨rfl, hb⟩
                  have HB3 := Lib.hid (HB2.out.trans (hb.mono HB2.out.size))
                  clear hb HB2
                  go_wp2_with fail
                  refine (BA.out _ HB3.out).mono ?_; rintro e w4 ⟨X1, g1, rfl, ht, ho, hb⟩
                  have HB4 := Lib.hid (HB3.out.trans (hb.mono HB3.out.size))
                  have HT1 := Lib.hid ht
                  clear ht ho
                  clear hb HB3
                  go_wp2_with fail
                  go_ret
                  exact ⟨by trivial, HB4.out⟩
              | true =>
                rw [hb1] at BA
                have hi : rng (((batB a2 0 l0).length : Nat) : Int) := by unfold rng; omega
                have HL2 := (few_bat (e := a3) (i := (((batB a2 0 l0).length : Nat) : Int)) hf1)
                have HY := Lib.hid HL2.2
                have hy28 := HL2.1
                clear HL2
                have hso : batOk a3 (((batB a2 0 l0).length : Nat) : Int) l1 = true → _ := fun hb2 => scan_old hb1 (by omega) hb2 (by omega)
                cases hb2 : batOk a3 (((batB a2 0 l0).length : Nat) : Int) l1 with
                | false =>
                  replace B2 := Lib.hid (B2.out (((batB a2 0 l0).length : Nat) : Int) hi)
                  rw [hb2] at B2
                  as_aux_lemma =>
                    have HB0 := Lib.hid (Below.refl w.heap.size w)
                    go_enter Try.func6, Try.ntmps6
                    go_wp2_with fail
                    refine (F0.out _ HB0.out).mono ?_; rintro e w1 ⟨rfl, hb⟩
                    have HB1 := Lib.hid (HB0.out.trans (hb.mono HB0.out.size))
                    clear hb HB0
                    go_wp2_with fail
                    refine (F1.out _ HB1.out).mono ?_; rintro e w2 ⟨rfl, hb⟩
                    have HB2 := Lib.hid (HB1.out.trans (hb.mono HB1.out.size))
                    clear hb HB1
                    go_wp2_with fail
                    refine (AL.out _).mono ?_; rintro e w3 ⟨rfl, hb⟩
                    have HB3 := Lib.hid (HB2.out.trans (hb.mono HB2.out.size))
                    clear hb HB2
                    go_wp2_with fail
                    refine (BA.out _ HB3.out).mono ?_; rintro e w4 ⟨X1, g1, rfl, ht, ho, hb⟩
                    have HB4 := Lib.hid (HB3.out.trans (hb.mono HB3.out.size))
                    have HT1 := Lib.hid ht
                    clear ht ho
                    clear hb HB3
                    go_wp2_with fail
                    refine (B2.out _ HB4.out).mono ?_; rintro e w5 ⟨X2, g2, rfl, ht, ho, hb⟩
                    have HB5 := Lib.hid (HB4.out.trans (hb.mono HB4.out.size))
                    have HT2 := Lib.hid ht
                    have HT3 := Lib.hid (HT1.out.kept hb)
                    clear ht ho
                    clear hb HB4
                    go_wp2_with fail
                    go_ret
                    exact ⟨by trivial, HB5.out⟩
                | true =>
                  replace hso := hso hb2
                  replace B2 := Lib.hid (B2.out (((batB a2 0 l0).length : Nat) : Int) hi)
                  rw [hb2] at B2
                  as_aux_lemma =>
                    have HB0 := Lib.hid (Below.refl w.heap.size w)
                    go_enter Try.func6, Try.ntmps6
                    go_wp2_with fail
                    refine (F0.out _ HB0.out).mono ?_; rintro e w1 ⟨rfl, hb⟩
                    have HB1 := Lib.hid (HB0.out.trans (hb.mono HB0.out.size))
                    clear hb HB0
                    go_wp2_with fail
                    refine (F1.out _ HB1.out).mono ?_; rintro e w2 ⟨rfl, hb⟩
                    have HB2 := Lib.hid (HB1.out.trans (hb.mono HB1.out.size))
                    clear hb HB1
                    go_wp2_with fail
                    refine (AL.out _).mono ?_; rintro e w3 ⟨rfl, hb⟩
                    have HB3 := Lib.hid (HB2.out.trans (hb.mono HB2.out.size))
                    clear hb HB2
                    go_wp2_with fail
                    refine (BA.out _ HB3.out).mono ?_; rintro e w4 ⟨X1, g1, rfl, ht, ho, hb⟩
                    have HB4 := Lib.hid (HB3.out.trans (hb.mono HB3.out.size))
                    have HT1 := Lib.hid ht
                    clear ht ho
                    clear hb HB3
                    go_wp2_with fail
                    refine (B2.out _ HB4.out).mono ?_; rintro e w5 ⟨X2, g2, rfl, ht, ho, hb⟩
                    have HB5 := Lib.hid (HB4.out.trans (hb.mono HB4.out.size))
                    have HT2 := Lib.hid ht
                    have HT3 := Lib.hid (HT1.out.kept hb)
                    clear ht ho
                    clear hb HB4
                    obtain ⟨j0, hj0, hy0, hy1, hy2⟩ := info_parts info_s
                    have hn0 : (w5).ownsRow w.heap.size 9 1 (.slice none 0 0) 0 [] := World.ownsRow_nil _ _ _ _
                    go_wp2_with (at_builtin; refine wpList_append_src _ rfl (.const (.slice none 0 0)) (.tmp 65) 25 rfl 9 j0 (.string ⟨#[]⟩) 1 16 Try.underlying25 hj0 hy0 hy1 hy2 rfl (by decide) w.heap.size (.slice none 0 0) 0 [] rfl hn0 X1 (batB a2 0 l0).length g1 (tcs (batB a2 0 l0)) rfl HT3.out.src (tcs_one _) ?e1 ?e2 HB5.out.size ?_)
                    case e1 => unfold maxLen; omega
                    case e2 => omega
                    intro v5 y5 hown5 hgrow5 hblk5
                    have HC5 := Lib.hid (HB5.out.grown hgrow5 HB5.out.size (fun g hg => by simp [Value.ownBlock] at hg))
                    have HT5 := Lib.hid (HT2.out.kept (Below.grown (Below.refl (w5).heap.size w5) hgrow5 (Nat.le_refl _) (fun g hg => by simp [Value.ownBlock] at hg)))
                    clear hgrow5 hblk5 hn0
                    go_wp2_with (at_builtin; refine wpList_append_src _ rfl (.tmp 66) (.tmp 67) 25 rfl 9 j0 (.string ⟨#[]⟩) 1 16 Try.underlying25 hj0 hy0 hy1 hy2 rfl (by decide) w.heap.size v5 (batB a2 0 l0).length (tcs (batB a2 0 l0)) rfl hown5 X2 (batB a3 ((batB a2 0 l0).length : Nat) l1).length g2 (tcs (batB a3 ((batB a2 0 l0).length : Nat) l1)) rfl HT5.out.src (tcs_one _) ?e3 ?e4 HC5.out.size ?_)
                    case e3 => unfold maxLen; omega
                    case e4 => omega
                    intro v6 y6 hown6 hgrow6 hblk6
                    have HC6 := Lib.hid (HC5.out.grown hgrow6 HC5.out.size (fun g hg => (hown5.lt g hg).1))
                    rw [← tcs_append] at hown6
                    obtain ⟨A6, c6, rfl⟩ := own_shape hown6
                    have HT6 := row_txt hown6 (by rw [List.length_append]) (fun x hx => by
                      rcases List.mem_append.1 hx with hx | hx
                      · rw [HX.out x hx]; omega
                      · rw [HY.out x hx]; omega) (by omega)
                    have SC := Lib.hid (scan_list (c := c6) HT6 (Nat.le_refl _) (by omega))
                    rw [hso.1, hso.2.1, hso.2.2] at SC
                    clear hown5 hown6 hgrow6 hblk6 HT6 HT5 HC5 HB5 HT2 HT1 HT3
                    go_wp2_with fail
                    refine SC.out.mono ?_; rintro e y7 ⟨A7, c7, rfl, ho7, hb7⟩
                    have HC7 := Lib.hid (HC6.out.trans (hb7.mono HC6.out.size))
                    have SM := Lib.hid (same_b (c := c7) (d := c0) y7 (few_row hf0 ho7).2 (w0t.kept HC7.out))
                    rw [decide_eq_true (show l0 = l0 from rfl)] at SM
                    clear ho7 hb7 HC6 SC
                    go_wp2_with fail
                    refine SM.out.mono ?_; rintro e y8 ⟨rfl, hb⟩
                    have HC8 := Lib.hid (HC7.out.trans (hb.mono HC7.out.size))
                    clear hb HC7
                    go_wp2_with fail
                    go_ret
                    exact ⟨by trivial, HC8.out⟩

/-! The row's step. -/
set_option maxRecDepth 100000 in
theorem lifted (os : Os) (started : os.Started) (H : Type) (enc : TypeId × Value → H) :
    ReturnsInHanded {} Try.checked os 6 .any (Rows.frameOldSpec.pre6 enc Try.prog Try.f6 Rows.frameOldRow.domain false) (Rows.frameOldSpec.post enc Try.prog Try.f6 false true false false) := by
  refine returnsInHanded_of_change_sized (C := Try.checked) own started (by kernel_rfl) Try.func6
    (ChangeSpec.witness6 (enc := enc) (C := Try.checked) false ⟨#[], #[.slice none 0 0, .slice none 0 0, .int .i64 0, .int .i64 0], []⟩ 8 (by kernel_rfl) (by kernel_rfl) (by kernel_rfl) (by kernel_rfl)) ?_
  intro W base args ds gs before hval0 hW hcnd hsz0 _
  have hsz : (DataW.weightsEach Try.prog (Try.f6.params.toList ++ Rows.frameOldSpec.plain.varTypes Try.prog) (ds ++ gs)).all (· ≤ reachBytes) = true := hsz0
  have hval : ∀ (j : Nat) t v, Try.f6.params[j]? = some t → args[j]? = some v → Value.okWide Try.prog W .any base t v := hval0
  have hW' := hW
  obtain ⟨p, q, hA0, hV, rfl, hfz, hnd⟩ := hW
  have hA : DataW.TrodAll enc Try.prog W 0 (fun _ => true) true Try.f6.params.toList args.toList ds p := hA0
  rw [Try.params6] at hA hval hsz
  obtain ⟨v0, vs0, d0, ds0, p0, q0, hargs, rfl, rfl, h0, r0⟩ := trodAll_cons hA
  obtain ⟨v1, vs1, d1, ds1, p1, q1, rfl, rfl, rfl, h1, r1⟩ := trodAll_cons r0
  obtain ⟨v2, vs2, d2, ds2, p2, q2, rfl, rfl, rfl, h2, r2⟩ := trodAll_cons r1
  obtain ⟨v3, vs3, d3, ds3, p3, q3, rfl, rfl, rfl, h3, r3⟩ := trodAll_cons r2
  obtain ⟨rfl, rfl, rfl⟩ := trodAll_nil r3
  obtain rfl : args = #[v0, v1, v2, v3] := by cases args; simp_all
  obtain ⟨rfl, rfl⟩ := trodVars_none hV
  obtain ⟨A0, n0, c0, rfl⟩ := okWide_slice Try.underlying25 (hval 0 25 v0 rfl rfl)
  have k0 := h0
  have lt0 : ∀ x ∈ p0, x.block < W.heap.size := by obtain ⟨m, hm⟩ := k0; exact DataW.trod_lt m _ _ _ hm
  obtain ⟨l0, w0, e0, f0, z0⟩ := (by obtain ⟨fuel, hf⟩ := h0; exact txt_read hf (fun _ => rfl) : ∃ l, Txt W.heap.size W A0 n0 l ∧ n0 ≤ c0 ∧ c0 ≤ maxLen ∧ ∀ n, (∀ m ∈ DataW.weights Try.prog 25 d0, m ≤ n) → ∀ s ∈ l, s.length ≤ n)
  have s0 := txt_sized (i := 0) z0 hsz rfl rfl
  obtain ⟨A1, n1, c1, rfl⟩ := okWide_slice Try.underlying25 (hval 1 25 v1 rfl rfl)
  have k1 := h1
  have lt1 : ∀ x ∈ p1, x.block < W.heap.size := by obtain ⟨m, hm⟩ := k1; exact DataW.trod_lt m _ _ _ hm
  obtain ⟨l1, w1, e1, f1, z1⟩ := (by obtain ⟨fuel, hf⟩ := h1; exact txt_read hf (fun _ => rfl) : ∃ l, Txt W.heap.size W A1 n1 l ∧ n1 ≤ c1 ∧ c1 ≤ maxLen ∧ ∀ n, (∀ m ∈ DataW.weights Try.prog 25 d1, m ≤ n) → ∀ s ∈ l, s.length ≤ n)
  have s1 := txt_sized (i := 1) z1 hsz rfl rfl
  obtain ⟨a2, rfl, rfl, rfl, w2⟩ := open_int Try.underlying3 (hval 2 3 v2 rfl rfl) h2
  obtain ⟨a3, rfl, rfl, rfl, w3⟩ := open_int Try.underlying3 (hval 3 3 v3 rfl rfl) h3
  clear hA0 hval0
  refine (walk A0 n0 c0 l0 A1 n1 c1 l1 a2 a3 W w0 s0 w1 s1 w2 w3).mono fun e W' ⟨he, bel⟩ => ?_
  subst he
  exact ⟨_, rfl, _, _, _, [], _, [], hW', trodAll_mk1 (shut_bool Try.underlying4 _), (trodAll_cons_mk (Below.trod laidOut (by kernel_rfl) (of_decide_eq_true (by kernel_rfl)) k0 bel lt0) (trodAll_cons_mk (Below.trod laidOut (by kernel_rfl) (of_decide_eq_true (by kernel_rfl)) k1 bel lt1) (trodAll_cons_mk (shut_int Try.underlying3 w2) (trodAll_cons_mk (shut_int Try.underlying3 w3) trodAll_mk0)))), rfl, bel.frame _, fun h => by cases h⟩

theorem over : Rows.frameOldRow.holds Try.pinned (OpenSpec.ofChange Rows.frameOldSpec) :=
  OpenClaim.holds_of_wide 6 Try.f6 rfl rfl rfl rfl rfl rfl rfl ⟨rfl, rfl, rfl, rfl, rfl⟩ rfl rfl rfl rfl rfl (by kernel_rfl) Try.func6 (by kernel_rfl)
    (of_decide_eq_true (by kernel_rfl)) (by unfold Func.isWrapper; first | (rw [if_pos (by decide +kernel)]; kernel_rfl) | (rw [if_neg (by decide +kernel)]; exact ⟨rfl, rfl⟩))
    (fun os started H enc _ => lifted os started H enc)

/-- The statement. -/
theorem proved : Rows.FrameOldSaid := over
end Go.Proofs.Ytbdpmfgphhgigaa.frameOld
