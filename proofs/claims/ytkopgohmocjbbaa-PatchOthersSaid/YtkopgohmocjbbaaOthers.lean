/- For every text, page and list of patches: patches of other pages do nothing to a page. -/
import Derived.Test.YtkopgohmocjbbaaRows
import Derived.Test.YtkopgohmocjbbaaRow
import Derived.Deep.RegionHeld3
import Derived.StillTailTactics
import Derived.BigQuiet
import Derived.Laws.MakeOwn
import Derived.Lib.Hide
import Derived.WalkKit
import Derived.ProofKit
import Derived.OpenShut
import Derived.ChangeOld
import Derived.Below
import Derived.Carry
namespace Go.Proofs.Ytkopgohmocjbbaa.patchOthers
open Go.ChangeShapes Go.WideShapes Go.ChangeAt Go.RowKit
set_option linter.unusedVariables false

theorem own : ownKnob Try.prog.godebug = none := by kernel_rfl
theorem laidOut : laidOutB Try.prog = true := by kernel_rfl


set_option maxRecDepth 100000 in
set_option maxHeartbeats 16000000 in
theorem walk (s : ByteArray) (pg : Int) (A : Option Addr) (n c : Nat) (l : List Pt) (w : World) (ws : s.size ≤ maxLen) (wp : (Lit.int .i64 pg).wf = true) (hl0 : PtsL w A n l) (hm : n ≤ maxLen) :
    Calls Try.prog 6 #[.string s, .int .i64 pg, .slice A n c] w fun e w' => e = .returned (.bool true) ∧ Below w.heap.size w w' := by
  clear wp
  by_cases c0 : (200 : Int) < s.size
  · as_aux_lemma =>
      have HB0 := Lib.hid (Below.refl w.heap.size w)
      have AL := Lib.hid alive_yes
      go_enter Try.func6, Try.ntmps6
      go_wp2_with fail
      refine (AL.out _).mono ?_; rintro e w1 ⟨rfl, hb⟩
      have HB1 := Lib.hid (HB0.out.trans (hb.mono (Below.size HB0.out)))
      clear hb HB0 
      go_wp2_with fail
      go_ret
      exact ⟨rfl, HB1.out⟩
  · by_cases c1 : pg < 0
    · as_aux_lemma =>
        have HB0 := Lib.hid (Below.refl w.heap.size w)
        have AL := Lib.hid alive_yes
        go_enter Try.func6, Try.ntmps6
        go_wp2_with fail
        refine (AL.out _).mono ?_; rintro e w1 ⟨rfl, hb⟩
        have HB1 := Lib.hid (HB0.out.trans (hb.mono (Below.size HB0.out)))
        clear hb HB0 
        go_wp2_with fail
        go_ret
        exact ⟨rfl, HB1.out⟩
    · by_cases c2 : 64 ≤ pg
      · as_aux_lemma =>
          have c2' : ¬ pg < 64 := by omega
          have HB0 := Lib.hid (Below.refl w.heap.size w)
          have AL := Lib.hid alive_yes
          go_enter Try.func6, Try.ntmps6
          go_wp2_with fail
          refine (AL.out _).mono ?_; rintro e w1 ⟨rfl, hb⟩
          have HB1 := Lib.hid (HB0.out.trans (hb.mono (Below.size HB0.out)))
          clear hb HB0 
          go_wp2_with fail
          go_ret
          exact ⟨rfl, HB1.out⟩
      · by_cases c3 : (20 : Int) < (n : Int)
        · as_aux_lemma =>
            have HB0 := Lib.hid (Below.refl w.heap.size w)
            have AL := Lib.hid alive_yes
            go_enter Try.func6, Try.ntmps6
            go_wp2_with fail
            refine (AL.out _).mono ?_; rintro e w1 ⟨rfl, hb⟩
            have HB1 := Lib.hid (HB0.out.trans (hb.mono (Below.size HB0.out)))
            clear hb HB0 
            go_wp2_with fail
            go_ret
            exact ⟨rfl, HB1.out⟩
        · have c3' : ¬ (20 : Int) < (n : Int) := c3
          have hk : 0 ≤ pg ∧ pg ≤ 63 := by omega
          have PG := Lib.hid (fun w => page_any s ws w)
          have hl := pageOf_length s.data.toList
          generalize pageOf s.data.toList = p at *
          clear ws
          obtain ⟨hn, hp⟩ := hl0
          have HN := Lib.hid hn
          have HP := Lib.hid hp
          have HL := Lib.hid hl
          have hN : (n : Int) ≤ 20 := by omega
          obtain ⟨i0, hi0, hz0, hz1, hz2⟩ := info_parts info_p
          have k0 := hk.1
          have k1 : pg < 64 := by omega
          clear hk hn hp hl hm
          as_aux_lemma =>
            have HB0 := Lib.hid (Below.refl w.heap.size w)
            have AL := Lib.hid alive_yes
            go_enter Try.func6, Try.ntmps6
            go_wp2_with fail
            refine (AL.out _).mono ?_; rintro e w1 ⟨rfl, hb⟩
            have HB1 := Lib.hid (HB0.out.trans (hb.mono (Below.size HB0.out)))
            clear hb HB0 
            go_wp2_with fail
            have HS1 := Lib.hid (Below.size HB1.out)
            go_loopw [7, 37] (fun mv x wr => ∃ k : Nat, k ≤ n ∧ x = .int .i64 k ∧ Hid (Own w.heap.size wr mv (mineOf pg (l.take k)) ∧ Below w.heap.size w wr ∧ (l.take k).all okP = true)) (fun _ x _ => n - (intOf x).toNat)
            case atStart => exact ⟨0, Nat.zero_le _, rfl, Own.nil _ _, HB1.out, rfl⟩
            case round =>
              obtain ⟨k, hk, rfl, hq⟩ := hrel
              have HQ := Lib.hid hq.out
              clear hq
              by_cases hlt : k < n
              · have hkl : k < l.length := by rw [HN.out]; exact hlt
                obtain ⟨bl, off, rfl, hbl, hpp⟩ := HP.out.1 k hkl
                obtain ⟨c0, c1, c2⟩ := hpp.kept (w' := wr) hbl HQ.out.2.1
                have HMT := Lib.hid (mine_take pg l k hkl)
                have HAT := Lib.hid (all_take l k hkl)
                have HSZ := Lib.hid (HP.out.size k hkl)
                have HML := Lib.hid (Nat.le_trans (mine_le pg (l.take k)) (show (l.take k).length ≤ k by rw [List.length_take]; omega))
                generalize (l.getD k nilP) = q at *
                obtain ⟨qk, qo, qb⟩ := q
                obtain ⟨mA, mc, hmv⟩ := own_shape HQ.out.1
                subst hmv
                have HR := Lib.hid (fun r => right_any qk qo qb HSZ.out r)
                unfold pv at HR
                dsimp only at c0 c1 c2
                have HX := Lib.hid (Box.new wr (.int .i64 qk) (.int .i64 qo) (.string qb))
                have hA := (Below.refl wr.heap.size wr).alloc (Nat.le_refl _) (.cells #[.int .i64 qk, .int .i64 qo, .string qb] 26)
                have HOW := Lib.hid (HQ.out.1.kept (D := 0) hA)
                have HBW := Lib.hid (HQ.out.2.1.trans (hA.mono HQ.out.2.1.size))
                have hsz : (wr.alloc (.cells #[.int .i64 qk, .int .i64 qo, .string qb] 26)).heap.size = wr.heap.size + 1 := by simp
                have HAL := Lib.hid HQ.out.2.2
                clear hbl hpp hA
                have b1 : (0 : Int) ≤ (k : Int) := by omega
                have b2 : (k : Int) < (n : Int) := by omega
                obtain ⟨g, hg⟩ : ∃ g, g = okP ⟨qk, qo, qb⟩ := ⟨_, rfl⟩
                rw [← hg] at HR HAT
                clear hg
                go_wp2_with fail
                clear c0 c1 c2
                generalize wr.alloc (.cells #[.int .i64 qk, .int .i64 qo, .string qb] 26) = W at *
                refine (HR.out _).mono ?_; rintro e w1 ⟨rfl, hb⟩
                have HX1 := Lib.hid (HX.out.kept hb)
                have HO1 := Lib.hid (HOW.out.kept (D := 0) hb)
                have HB2 := Lib.hid (HBW.out.trans (hb.mono HBW.out.size))
                clear hb HX HOW HBW HQ hsz
                obtain ⟨x0, x1, x2⟩ := HX1.out.cells
                cases g with
                | false =>
                  go_wp2_with fail
                  go_ret
                  exact ⟨rfl, HB2.out⟩
                | true =>
                  by_cases hpg : qk = pg
                  · have e1 : (qk == pg) = true := by simpa using hpg
                    have HM2 := Lib.hid (show mineOf pg (l.take (k + 1)) = mineOf pg (l.take k) ++ [⟨qk, qo, qb⟩] by rw [HMT.out, if_pos hpg])
                    have hown := HO1.out
                    unfold Own at hown
                    have hS := HB2.out.size
                    clear HMT hpg
                    go_wp2_with (at_builtin; refine wpList_append_own _ rfl _ _ 22 rfl w.heap.size 26 i0 (.agg #[.int .i64 0, .int .i64 0, .string ⟨#[]⟩]) 3 32 Try.underlying22 hi0 hz0 hz1 hz2 rfl (by decide) _ _ _ rfl (World.ownsRow.alloc hown _) ⟨w1.heap.size, 0, none⟩ 1 1 [.int .i64 qk, .int .i64 qo, .string qb] rfl rfl (news_three _ _ _ _ _) (by simp [Value.oneCell']) (by have := HML.out; unfold maxLen; omega) (by have := HML.out; omega) (by simp; omega) ?_; intro v' w2 hown2 hgrow _)
                    have HW2 := Lib.hid ((HB2.out.alloc hS (.cells #[.int .i64 qk, .int .i64 qo, .string qb] 26)).grown hgrow (by simp; omega) (fun j hj => (HO1.out.lt j hj).1))
                    have HO2 := Lib.hid (show Own w.heap.size w2 v' (mineOf pg (l.take (k + 1))) from by unfold Own; rw [HM2.out, List.length_append, pcs_append]; exact hown2)
                    refine ⟨⟨k + 1, by omega, by go_num, HO2.out, HW2.out, by rw [HAT.out, HAL.out]; rfl⟩, by simp [intOf]; omega⟩
                  · have e1 : (qk == pg) = false := by simpa using hpg
                    have HM2 := Lib.hid (show mineOf pg (l.take (k + 1)) = mineOf pg (l.take k) by rw [HMT.out, if_neg hpg, List.append_nil])
                    clear HMT hpg
                    go_wp2_with fail
                    go_roundw
                    case rel => exact ⟨k + 1, by omega, by go_num, by rw [HM2.out]; exact HO1.out, HB2.out, by rw [HAT.out, HAL.out]; rfl⟩
                    case measure => simp [intOf]; omega
              · obtain rfl : n = k := by omega
                have HTK := Lib.hid (show l.take n = l from List.take_of_length_le (by rw [HN.out]; omega))
                have HO := Lib.hid (show Own w.heap.size wr _ (mineOf pg l) from by have := HQ.out.1; rwa [HTK.out] at this)
                have HALL := Lib.hid (show l.all okP = true from by have := HQ.out.2.2; rwa [HTK.out] at this)
                have HB1 := Lib.hid HQ.out.2.1
                obtain ⟨mA, mc, hmv⟩ := own_shape HO.out
                subst hmv
                have HLM := Lib.hid (show (mineOf pg l).length ≤ 20 from Nat.le_trans (mine_le pg l) (by rw [HN.out]; omega))
                have HPQ := Lib.hid (HP.out.kept HB1.out)
                have HSM := Lib.hid (fun q (hq : q ∈ mineOf pg l) => HP.out.2.1 q (mine_mem hq))
                have hF1 : allS pg p l = folds pg p l := by unfold allS allOk; rw [HALL.out, decide_eq_true HL.out]; rfl
                have hF2 : allOk p l = true := by unfold allOk; rw [HALL.out, decide_eq_true HL.out]; rfl
                have hmall : (mineOf pg l).all okP = true := List.all_eq_true.2 fun q hq => List.all_eq_true.1 HALL.out q (mine_mem hq)
                have hF3 : allS pg p (mineOf pg l) = folds pg p l := by unfold allS allOk; rw [hmall, decide_eq_true HL.out]; exact folds_mine pg l p
                have hF4 : allOk p (mineOf pg l) = true := by unfold allOk; rw [hmall, decide_eq_true HL.out]; rfl
                have HZ := Lib.hid (show (mineOf pg l).length = 0 → str (folds pg p l) = str p from fun h0 => by rw [← folds_mine pg l p, List.eq_nil_of_length_eq_zero h0]; rfl)
                have AW := Lib.hid (fun (r : World) (h : Pts w.heap.size r A l) (hs : w.heap.size ≤ r.heap.size) => all_walk (lc := c) (page := pg) (b := str p) r h HN.out hs (str_max _ HL.out))
                have AM := Lib.hid (fun (r : World) (h : Own w.heap.size r (.slice mA (mineOf pg l).length mc) (mineOf pg l)) => all_walk (lc := mc) (page := pg) (b := str p) r (Own.pts h rfl HSM.out (by have := HLM.out; unfold maxLen; omega)) rfl (Nat.le_refl _) (str_max _ HL.out))
                rw [str_toList, hF1, hF2] at AW
                rw [str_toList, hF3, hF4] at AM
                clear hF1 hF2 hF3 hF4 hmall HQ HALL HTK
                generalize mineOf pg l = M at *
                generalize str (folds pg p l) = FS at *
                generalize str p = P at *
                have hse : (FS.toList == FS.toList) = true := by simp
                have hse2 : (P.toList == P.toList) = true := by simp
                go_wp2_with fail
                refine (PG.out _).mono ?_; rintro e w2 ⟨rfl, hb⟩
                have HO2 := Lib.hid (HO.out.kept (D := 0) hb)
                have HB2 := Lib.hid (HB1.out.trans (hb.mono HB1.out.size))
                have HP2 := Lib.hid (HP.out.kept HB2.out)
                clear hb HO HB1 HPQ
                go_wp2_with fail
                refine (AW.out _ HP2.out HB2.out.size).mono ?_; rintro e w3 ⟨rfl, hb⟩
                have HO3 := Lib.hid (HO2.out.kept (D := 0) hb)
                have HB3 := Lib.hid (HB2.out.trans (hb.mono HB2.out.size))
                clear hb HO2 HB2 HP2
                go_wp2_with fail
                refine (PG.out _).mono ?_; rintro e w4 ⟨rfl, hb⟩
                have HO4 := Lib.hid (HO3.out.kept (D := 0) hb)
                have HB4 := Lib.hid (HB3.out.trans (hb.mono HB3.out.size))
                clear hb HO3 HB3
                go_wp2_with fail
                refine (AM.out _ HO4.out).mono ?_; rintro e w5 ⟨rfl, hb⟩
                have HB5 := Lib.hid (HB4.out.trans (hb.mono HB4.out.size))
                clear hb HO4 HB4 AM AW
                by_cases hm0 : M.length = 0
                · have hF := HZ.out hm0
                  subst hF
                  have z1 : ¬ (0 : Int) < (M.length : Int) := by omega
                  clear hm0 HZ
                  generalize M.length = ml at *
                  go_wp2_with fail
                  refine (PG.out _).mono ?_; rintro e w6 ⟨rfl, hb⟩
                  have HB6 := Lib.hid (HB5.out.trans (hb.mono HB5.out.size))
                  clear hb
                  go_wp2_with fail
                  go_ret
                  exact ⟨rfl, HB6.out⟩
                · have z1 : (0 : Int) < (M.length : Int) := by omega
                  clear hm0 HZ
                  generalize M.length = ml at *
                  go_wp2_with fail
                  go_ret
                  exact ⟨rfl, HB5.out⟩

/-! The row's step. -/
set_option maxRecDepth 100000 in
theorem lifted (os : Os) (started : os.Started) (H : Type) (enc : TypeId × Value → H) :
    ReturnsInHanded {} Try.checked os 6 .any (Rows.patchOthersSpec.pre6 enc Try.prog Try.f6 Rows.patchOthersRow.domain false) (Rows.patchOthersSpec.post enc Try.prog Try.f6 false true false false) := by
  refine returnsInHanded_of_change (C := Try.checked) own started (by kernel_rfl) Try.func6
    (ChangeSpec.witness6 (enc := enc) (C := Try.checked) false ⟨#[], #[.string ByteArray.empty, .int .i64 0, .slice none 0 0], []⟩ 8 (by kernel_rfl) (by kernel_rfl) (by kernel_rfl) (by kernel_rfl)) ?_
  intro W base args ds gs before hval0 hW hcnd _
  have hval : ∀ (j : Nat) t v, Try.f6.params[j]? = some t → args[j]? = some v → Value.okWide Try.prog W .any base t v := hval0
  have hW' := hW
  obtain ⟨p, q, hA0, hV, rfl, hfz, hnd⟩ := hW
  have hA : DataW.TrodAll enc Try.prog W 0 (fun _ => true) true Try.f6.params.toList args.toList ds p := hA0
  rw [Try.params6] at hA hval
  obtain ⟨v0, vs0, d0, ds0, p0, q0, hargs, rfl, rfl, h0, r0⟩ := trodAll_cons hA
  obtain ⟨v1, vs1, d1, ds1, p1, q1, rfl, rfl, rfl, h1, r1⟩ := trodAll_cons r0
  obtain ⟨v2, vs2, d2, ds2, p2, q2, rfl, rfl, rfl, h2, r2⟩ := trodAll_cons r1
  obtain ⟨rfl, rfl, rfl⟩ := trodAll_nil r2
  obtain rfl : args = #[v0, v1, v2] := by cases args; simp_all
  obtain ⟨rfl, rfl⟩ := trodVars_none hV
  obtain ⟨a0, rfl, rfl, rfl, w0⟩ := Go.ChangeMaps.open_string Try.underlying9 (hval 0 9 v0 rfl rfl) h0
  obtain ⟨a1, rfl, rfl, rfl, w1⟩ := open_int Try.underlying3 (hval 1 3 v1 rfl rfl) h1
  obtain ⟨A2, n2, c2, rfl⟩ := okWide_slice Try.underlying22 (hval 2 22 v2 rfl rfl)
  have k2 := h2
  have lt2 : ∀ x ∈ p2, x.block < W.heap.size := by obtain ⟨m, hm⟩ := k2; exact DataW.trod_lt m _ _ _ hm
  obtain ⟨l2, w2, e2, f2⟩ := (by obtain ⟨fuel, hf⟩ := h2; exact pts_read hf (fun _ => rfl) : ∃ l, PtsL W A2 n2 l ∧ n2 ≤ c2 ∧ c2 ≤ maxLen)
  clear hA0 hval0
  refine (walk a0 a1 A2 n2 c2 l2 W w0 w1 w2 (Nat.le_trans e2 f2)).mono fun e W' ⟨he, bel⟩ => ?_
  subst he
  exact ⟨_, rfl, _, _, _, [], _, [], hW', trodAll_mk1 (shut_bool Try.underlying4 _), (trodAll_cons_mk (Go.ChangeMaps.shut_string Try.underlying9 w0) (trodAll_cons_mk (shut_int Try.underlying3 w1) (trodAll_cons_mk (Below.trod laidOut (by kernel_rfl) (of_decide_eq_true (by kernel_rfl)) k2 bel lt2) trodAll_mk0))), rfl, bel.frame _, fun h => by cases h⟩

theorem over : Rows.patchOthersRow.holds Try.pinned (OpenSpec.ofChange Rows.patchOthersSpec) :=
  OpenClaim.holds_of_wide 6 Try.f6 rfl rfl rfl rfl rfl rfl rfl ⟨rfl, rfl, rfl, rfl, rfl⟩ rfl rfl rfl rfl rfl (by kernel_rfl) Try.func6 (by kernel_rfl)
    (of_decide_eq_true (by kernel_rfl)) (by unfold Func.isWrapper; first | (rw [if_pos (by decide +kernel)]; kernel_rfl) | (rw [if_neg (by decide +kernel)]; exact ⟨rfl, rfl⟩))
    (fun os started H enc _ => lifted os started H enc)

/-- The statement. -/
theorem proved : Rows.PatchOthersSaid := over
end Go.Proofs.Ytkopgohmocjbbaa.patchOthers
