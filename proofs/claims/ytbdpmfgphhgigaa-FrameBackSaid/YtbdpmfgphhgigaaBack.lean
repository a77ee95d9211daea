/- What batches one behind the other hold is read as it was written; the log goes on where the last one ends. -/
import Derived.Test.YtbdpmfgphhgigaaRows
import Derived.Test.YtbdpmfgphhgigaaLists
import Derived.Deep.RegionHeld3
import Derived.Deep.QuietTactic
import Derived.LoopTactic
import Derived.StillTailTactics
import Derived.BigQuiet
import Derived.Deep.DeepCutAuto
import Derived.Deep.RegionLaw
import Derived.Deep.CutBlock
import Derived.Lib.Hide
import Derived.WalkKit
import Derived.SizedLaws
import Derived.ProofKit
import Derived.OpenShut
import Derived.ChangeOld
import Derived.Below
import Derived.Carry
namespace Go.Proofs.Ytbdpmfgphhgigaa.frameBack
open Go.ChangeShapes Go.WideShapes Go.ChangeAt Go.RowKit
set_option linter.unusedVariables false

theorem own : ownKnob Try.prog.godebug = none := by kernel_rfl
theorem laidOut : laidOutB Try.prog = true := by kernel_rfl


set_option maxRecDepth 100000 in
set_option maxHeartbeats 100000000 in
theorem walk (A0 : Option Addr) (n0 c0 : Nat) (l0 : List (List BA)) (A1 : Option Addr) (n1 c1 : Nat) (l1 : List Int) (w : World) (w0t : Tll w.heap.size w A0 n0 l0) (s0 : ∀ t ∈ l0, ∀ s ∈ t, s.length ≤ 140737488351232) (w1t : Ints w A1 n1 l1) (m1 : n1 ≤ maxLen) :
    Calls Try.prog 3 #[.slice A0 n0 c0, .slice A1 n1 c1] w fun e w' => e = .returned (.bool true) ∧ Below w.heap.size w w' := by
  have AL := Lib.hid alive_yes
  by_cases d1 : (8 : Int) < (n0 : Int)
  · as_aux_lemma =>
      have HB0 := Lib.hid (Below.refl w.heap.size w)
      go_enter Try.func3, Try.ntmps3
      go_wp2_with fail
      refine (AL.out _).mono ?_; rintro e w1 ⟨rfl, hb⟩
      have HB1 := Lib.hid (HB0.out.trans (hb.mono HB0.out.size))
      clear hb HB0
      go_wp2_with fail
      go_ret
      exact ⟨by trivial, HB1.out⟩
  · skip
    by_cases d2 : (n1 : Int) < (n0 : Int)
    · as_aux_lemma =>
        have HB0 := Lib.hid (Below.refl w.heap.size w)
        go_enter Try.func3, Try.ntmps3
        go_wp2_with fail
        refine (AL.out _).mono ?_; rintro e w1 ⟨rfl, hb⟩
        have HB1 := Lib.hid (HB0.out.trans (hb.mono HB0.out.size))
        clear hb HB0
        go_wp2_with fail
        go_ret
        exact ⟨by trivial, HB1.out⟩
    · skip
      have HSL := Lib.hid w0t
      have HSI := Lib.hid w1t
      have hn8 : n0 ≤ 8 := by omega
      have h10 : n0 ≤ n1 := by omega
      clear w0t w1t m1
      have HB0 := Lib.hid (Below.refl w.heap.size w)
      go_enter Try.func3, Try.ntmps3
      go_wp2_with fail
      refine (AL.out _).mono ?_; rintro e w1 ⟨rfl, hb⟩
      have HB1 := Lib.hid (HB0.out.trans (hb.mono HB0.out.size))
      clear hb HB0
      go_wp2_with fail
      go_loopw [5, 6, 7, 33] (fun va vw ve x wr => ∃ (k : Nat) (D want : List BA) (e : Int) (Aa : Option Addr) (ca : Nat) (Aw : Option Addr) (cw : Nat), k ≤ n0 ∧ x = .int .i64 k ∧ ve = .int .i64 e ∧ va = .slice Aa D.length ca ∧ vw = .slice Aw want.length cw ∧ Hid (BackI w wr D want e k (.slice Aa D.length ca) (.slice Aw want.length cw))) (fun _ _ _ x _ => n0 - (intOf x).toNat)
      case atStart => exact ⟨0, [], [], 1, none, 0, none, 0, Nat.zero_le _, rfl, rfl, rfl, rfl, Lib.hid (BackI.start w _ HB1.out)⟩
      case round =>
        obtain ⟨k, D, want, e, Aa, ca, Aw, cw, hk, rfl, rfl, rfl, rfl, hq⟩ := hrel
        have I := hq
        clear hq HB1
        have b0 : (0 : Int) ≤ (k : Int) := by omega
        by_cases hlt : k < n0
        · have b1 : (k : Int) < (n0 : Int) := by omega
          have b2 : (k : Int) < (n1 : Int) := by omega
          obtain ⟨b, o, rfl, hbl, A2, n2, c2, cl, tx⟩ := HSL.out.2.2 k hlt
          obtain ⟨bi, oi, rfl, hbi, ci, i1, i2⟩ := HSI.out.2 k (by omega)
          have hs2 : ∀ s ∈ l0.getD k [], s.length ≤ 140737488351232 := fun s hs => by
            have hk2 : k < l0.length := by rw [HSL.out.1]; exact hlt
            refine s0 _ ?_ s hs
            rw [List.getD_eq_getElem?_getD, List.getElem?_eq_getElem hk2]
            exact List.getElem_mem hk2
          obtain ⟨ep, hep⟩ : ∃ ep, ep = l1.getD k 0 := ⟨_, rfl⟩
          rw [← hep] at ci i1 i2
          clear hep
          generalize l0.getD k [] = lk at *
          obtain ⟨r, hr, r0, r3⟩ := mask_r ep i1 i2
          have TX := Lib.hid tx
          have FW := Lib.hid (few_b (c := c2) wr (tx.kept I.out.bel) hs2)
          have cA := cell_kept I.out.bel hbl cl
          have CL := Lib.hid cl
          have CI := Lib.hid ci
          have IB := Lib.hid I.out.bel
          clear cl ci tx hs2 i1 i2
          cases hf : fewB lk with
          | false =>
            rw [hf] at FW
            as_aux_lemma =>
              go_wp2_with fail
              refine FW.out.mono ?_; rintro _ y1 ⟨rfl, hb⟩
              have HY := Lib.hid (IB.out.trans (hb.mono IB.out.size))
              clear hb FW
              go_wp2_with fail
              go_ret
              exact ⟨by trivial, HY.out⟩
          | true =>
            rw [hf] at FW
            have g1 := I.out.e1
            have g2 := I.out.e2
            have g3 := I.out.d1
            obtain ⟨e2, he2⟩ : ∃ e2, e2 = e + r := ⟨_, rfl⟩
            have hw2 : IntKind.i64.wrap (e + r) = e2 := by rw [he2]; exact IntWalk.i64_in _ (by omega)
            obtain ⟨bt, ok, hbt, hok, h28, h64, hyes, hno⟩ := back_bat (lk := lk) (e' := e2) I.out.wrote (by omega) (by omega) (by omega) (by omega) hf
            have BA := Lib.hid (fun w' (hb : Below w.heap.size w w') => batch_few (c := c2) e2 (D.length : Nat) (by unfold rng; omega) (by unfold rng; omega) (TX.out.kept hb) hb.size hf)
            rw [← hbt, ← hok] at BA
            clear hbt hok
            have h20 := (few_strm hf).1
            have hnl := TX.out.1
            have HLE := Lib.hid (And.intro (show e ≤ e2 by omega) (show e2 ≤ e + 3 by omega))
            have hdl : D.length ≤ 1000 := by omega
            have hwl : want.length ≤ 1000 := by have := I.out.x1; omega
            have hn2 : n2 ≤ 20 := by omega
            have CO := Lib.hid (fun w' (hb : Below w.heap.size w w') => count_b (c := c2) w' (TX.out.kept hb) (by omega))
            clear he2 g1 g2 g3 r0 r3
            go_wp2_with fail
            refine FW.out.mono ?_; rintro _ y1 ⟨rfl, hb⟩
            have HY := Lib.hid (IB.out.trans (hb.mono IB.out.size))
            have HZ := Lib.hid hb
            clear hb FW cA
            have cA := cell_kept HY.out hbl CL.out
            have cI := cell_kept HY.out hbi CI.out
            have BA1 := Lib.hid (BA.out y1 HY.out)
            clear BA
            go_wp2_with fail
            refine BA1.out.mono ?_; rintro _ y2 ⟨X1, g1, rfl, ht, ho, hb⟩
            have HY2 := Lib.hid (HY.out.trans (hb.mono HY.out.size))
            have HZ2 := Lib.hid (HZ.out.trans (hb.mono HZ.out.size))
            have HT2 := Lib.hid ht
            clear hb ht ho cA cI BA1 HY HZ
            have cA := cell_kept HY2.out hbl CL.out
            cases ok with
            | false =>
              have HNO := Lib.hid (hno rfl)
              clear hyes hno CO HT2 HZ2 HLE
              go_wp2_with fail
              go_loopw [67] (fun x wr2 => ∃ j : Nat, j ≤ n2 ∧ x = .int .i64 j ∧ Hid (Below w.heap.size w wr2 ∧ ∀ t, t < j → (lk.getD t []).length ≠ 0)) (fun x _ => n2 - (intOf x).toNat)
              case atStart => exact ⟨0, Nat.zero_le _, rfl, Lib.hid ⟨HY2.out, fun t ht => by omega⟩⟩
              case round =>
                obtain ⟨j, hj, rfl, hq⟩ := hrel
                have HQ := Lib.hid hq.out.1
                have HJ := Lib.hid hq.out.2
                clear hq cA HY2 I IB
                have f0 : (0 : Int) ≤ (j : Int) := by omega
                by_cases hjl : j < n2
                · have f1 : (j : Int) < (n2 : Int) := by omega
                  obtain ⟨bs, os, rfl, -, cs, -⟩ := (TX.out.kept HQ.out).2.2 j hjl
                  have HJ2 := Lib.hid (fun (h : (lk.getD j []).length ≠ 0) t (ht : t < j + 1) => show (lk.getD t []).length ≠ 0 from by
                    by_cases e : t < j
                    · exact HJ.out t e
                    · obtain rfl : t = j := by omega
                      exact h)
                  generalize lk.getD j [] = x0 at *
                  by_cases hz : x0.length = 0
                  · obtain rfl : x0 = [] := List.eq_nil_of_length_eq_zero hz
                    have heq : (str []).toList.isEmpty = true := by kernel_rfl
                    clear hz
                    go_wp2_with fail
                    go_ret
                    exact ⟨by trivial, HQ.out⟩
                  · have HJ3 := Lib.hid (HJ2.out hz)
                    have heq : (str x0).toList.isEmpty = false := by
                      cases he : (str x0).toList.isEmpty with
                      | false => rfl
                      | true =>
                        exfalso
                        have e := List.isEmpty_iff.1 he
                        exact hz (by rw [str_inj (toL_inj (e.trans (show [] = (str []).toList from by kernel_rfl)))]; rfl)
                    clear HJ2 hz
                    generalize str x0 = sx at *
                    go_wp2_with fail
                    go_roundw
                    case rel => exact ⟨j + 1, by omega, by go_num, Lib.hid ⟨HQ.out, HJ3.out⟩⟩
                    case measure => simp [intOf] <;> omega
                · obtain rfl : j = n2 := by omega
                  have f1 : ¬ (j : Int) < (j : Int) := by omega
                  have hl0 : lk = [] := by
                    rcases HNO.out with h | ⟨t, ht, h0⟩
                    · exact h
                    · exact absurd h0 (HJ.out t (by omega))
                  obtain rfl : j = 0 := by rw [← hnl, hl0]; rfl
                  have cA := cell_kept HQ.out hbl CL.out
                  clear HNO HJ
                  go_wp2_with fail
                  go_ret
                  exact ⟨by trivial, HQ.out⟩
            | true =>
              obtain ⟨hw, hc⟩ := hyes rfl
              have HW := Lib.hid hw
              rw [hc] at CO
              have CO1 := Lib.hid (CO.out y2 HY2.out)
              clear hyes hno hw hc CO
              obtain ⟨bn, hbn⟩ : ∃ bn, bn = bt.length := ⟨_, rfl⟩
              go_wp2_with fail
              refine CO1.out.mono ?_; rintro _ y3 ⟨rfl, hb⟩
              have HY3 := Lib.hid (HY2.out.trans (hb.mono HY2.out.size))
              have HZ3 := Lib.hid (HZ2.out.trans (hb.mono HZ2.out.size))
              have HT3 := Lib.hid (HT2.out.kept hb)
              clear hb HT2 cA HY2 HZ2 CO1
              obtain ⟨j0, hj0, hy0, hy1, hy2⟩ := info_parts info_s
              have hu := I.out.oa.kept HZ3.out
              have hv := I.out.ow.kept HZ3.out
              go_wp2_with (at_builtin; refine wpList_append_src _ rfl (.tmp 88) (.tmp 89) 25 rfl 9 j0 (.string ⟨#[]⟩) 1 16 Try.underlying25 hj0 hy0 hy1 hy2 rfl (by decide) w.heap.size (.slice Aa D.length ca) D.length (tcs D) rfl hu X1 bt.length g1 (tcs bt) rfl HT3.out.src (tcs_one _) ?e1 ?e2 HY3.out.size ?_)
              case e1 => unfold maxLen; omega
              case e2 => omega
              intro v5 y5 hown5 hgrow5 hblk5
              have HY5 := Lib.hid (HY3.out.grown hgrow5 HY3.out.size (fun g hg => (hu.lt g hg).1))
              obtain ⟨p1, p2, p3, p4⟩ := app_one hu hv I.out.apart hown5 hgrow5 hblk5
              obtain ⟨A5, c5, rfl⟩ := p1.shape
              have cA := cell_kept HY5.out hbl CL.out
              have HS5 := Lib.hid (TX.out.kept HY5.out)
              clear hu hv hown5 hgrow5 hblk5 HY3 HZ3 HT3
              go_wp2_with (at_builtin; refine wpList_append_src _ rfl (.tmp 91) (.tmp 95) 25 rfl 9 j0 (.string ⟨#[]⟩) 1 16 Try.underlying25 hj0 hy0 hy1 hy2 rfl (by decide) w.heap.size (.slice Aw want.length cw) want.length (tcs want) rfl p2 A2 n2 c2 (tcs lk) rfl HS5.out.src (tcs_one _) ?e3 ?e4 HY5.out.size ?_)
              case e3 => unfold maxLen; omega
              case e4 => omega
              intro v6 y6 hown6 hgrow6 hblk6
              rw [← hnl] at hown6
              have HY6 := Lib.hid (HY5.out.grown hgrow6 HY5.out.size (fun g hg => (p2.lt g hg).1))
              obtain ⟨q1, q2, q3, q4⟩ := app_one p2 p1 p4 hown6 hgrow6 hblk6
              obtain ⟨A6, c6, rfl⟩ := q1.shape
              have HN := Lib.hid (I.out.next HLE.out.1 HLE.out.2 HW.out h28 h64 hf q2 q1 q4 HY6.out)
              clear q1 q2 q3 q4 p1 p2 p3 p4 hown6 hgrow6 hblk6 HY5 HS5 I IB
              go_wp2_with fail
              go_roundw
              case rel => exact ⟨k + 1, D ++ bt, want ++ lk, e2, A5, c5, A6, c6, by omega, by go_num, rfl, by rw [List.length_append], by rw [List.length_append], HN⟩
              case measure => simp [intOf] <;> omega
        · obtain rfl : k = n0 := by omega
          have b1 : ¬ (k : Int) < (k : Int) := by omega
          have hd : D.length ≤ 1000 := by have := I.out.d1; omega
          have hdm : D.length ≤ maxLen := by unfold maxLen; omega
          have HT := Lib.hid (I.out.oa.txt (fun x hx => by rw [I.out.d2 x hx]; unfold maxLen; omega) hdm).2
          have SC := Lib.hid (scan_list (c := ca) HT.out (Nat.le_refl _) hd)
          rw [I.out.wrote.out, I.out.wrote.next, I.out.wrote.ep] at SC
          have hwm : want.length ≤ maxLen := by have := I.out.x1; unfold maxLen; omega
          have hwx : ∀ x ∈ want, x.length ≤ maxLen := fun x hx => Nat.le_trans (I.out.x2 x hx) (by unfold maxLen; omega)
          have IW := Lib.hid (I.out.ow.txt hwx hwm).2
          have IB := Lib.hid I.out.bel
          by_cases hk0 : k = 0
          · have hw0 : want = [] := I.out.wrote.nil.2 hk0
            have hD0 : D = [] := List.eq_nil_of_length_eq_zero (by have := I.out.d1; omega)
            rw [if_pos hk0] at SC
            clear I IW HT hwx hwm hdm
            subst hw0 hD0
            as_aux_lemma =>
              go_wp2_with fail
              refine SC.out.mono ?_; rintro _ y1 ⟨A7, c7, rfl, ho, hb⟩
              have HY := Lib.hid (IB.out.trans (hb.mono IB.out.size))
              clear hb ho
              go_wp2_with fail
              go_ret
              exact ⟨by trivial, HY.out⟩
          · rw [if_neg hk0] at SC
            have hwn : want.length ≠ 0 := fun h => hk0 (I.out.wrote.nil.1 (List.eq_nil_of_length_eq_zero h))
            have hz : ((want.length : Int) == 0) = false := by rw [beq_eq_false_iff_ne]; omega
            have HWX := Lib.hid (And.intro hwx hwm)
            clear I HT hwx hwm hwn
            as_aux_lemma =>
              go_wp2_with fail
              refine SC.out.mono ?_; rintro _ y1 ⟨A7, c7, rfl, ho, hb⟩
              have HY := Lib.hid (IB.out.trans (hb.mono IB.out.size))
              have SM := Lib.hid (same_b (c := c7) (d := cw) y1 (ho.txt HWX.out.1 HWX.out.2).2 (IW.out.kept hb))
              rw [decide_eq_true (show want = want from rfl)] at SM
              clear hb ho SC
              go_wp2_with fail
              refine SM.out.mono ?_; rintro _ y2 ⟨rfl, hb⟩
              have HY2 := Lib.hid (HY.out.trans (hb.mono HY.out.size))
              clear hb SM
              go_wp2_with fail
              go_ret
              exact ⟨by trivial, HY2.out⟩

/-! The row's step. -/
set_option maxRecDepth 100000 in
theorem lifted (os : Os) (started : os.Started) (H : Type) (enc : TypeId × Value → H) :
    ReturnsInHanded {} Try.checked os 3 .any (Rows.frameBackSpec.pre6 enc Try.prog Try.f3 Rows.frameBackRow.domain false) (Rows.frameBackSpec.post enc Try.prog Try.f3 false true false false) := by
  refine returnsInHanded_of_change_sized (C := Try.checked) own started (by kernel_rfl) Try.func3
    (ChangeSpec.witness6 (enc := enc) (C := Try.checked) false ⟨#[], #[.slice none 0 0, .slice none 0 0], []⟩ 8 (by kernel_rfl) (by kernel_rfl) (by kernel_rfl) (by kernel_rfl)) ?_
  intro W base args ds gs before hval0 hW hcnd hsz0 _
  have hsz : (DataW.weightsEach Try.prog (Try.f3.params.toList ++ Rows.frameBackSpec.plain.varTypes Try.prog) (ds ++ gs)).all (· ≤ reachBytes) = true := hsz0
  have hval : ∀ (j : Nat) t v, Try.f3.params[j]? = some t → args[j]? = some v → Value.okWide Try.prog W .any base t v := hval0
  have hW' := hW
  obtain ⟨p, q, hA0, hV, rfl, hfz, hnd⟩ := hW
  have hA : DataW.TrodAll enc Try.prog W 0 (fun _ => true) true Try.f3.params.toList args.toList ds p := hA0
  rw [Try.params3] at hA hval hsz
  obtain ⟨v0, vs0, d0, ds0, p0, q0, hargs, rfl, rfl, h0, r0⟩ := trodAll_cons hA
  obtain ⟨v1, vs1, d1, ds1, p1, q1, rfl, rfl, rfl, h1, r1⟩ := trodAll_cons r0
  obtain ⟨rfl, rfl, rfl⟩ := trodAll_nil r1
  obtain rfl : args = #[v0, v1] := by cases args; simp_all
  obtain ⟨rfl, rfl⟩ := trodVars_none hV
  obtain ⟨A0, n0, c0, rfl⟩ := okWide_slice Try.underlying22 (hval 0 22 v0 rfl rfl)
  have k0 := h0
  have lt0 : ∀ x ∈ p0, x.block < W.heap.size := by obtain ⟨m, hm⟩ := k0; exact DataW.trod_lt m _ _ _ hm
  obtain ⟨l0, w0, e0, f0, z0⟩ := (by obtain ⟨fuel, hf⟩ := h0; exact tll_read hf (fun _ => rfl) : ∃ l, Tll W.heap.size W A0 n0 l ∧ n0 ≤ c0 ∧ c0 ≤ maxLen ∧ ∀ n, (∀ m ∈ DataW.weights Try.prog 22 d0, m ≤ n) → ∀ t ∈ l, ∀ s ∈ t, s.length ≤ n)
  have s0 := tll_sized (i := 0) z0 hsz rfl rfl
  obtain ⟨A1, n1, c1, rfl⟩ := okWide_slice Try.underlying23 (hval 1 23 v1 rfl rfl)
  have k1 := h1
  have lt1 : ∀ x ∈ p1, x.block < W.heap.size := by obtain ⟨m, hm⟩ := k1; exact DataW.trod_lt m _ _ _ hm
  obtain ⟨l1, w1, e1, f1⟩ := (by obtain ⟨fuel, hf⟩ := h1; exact ints_read hf (fun _ => rfl) : ∃ l, Ints W A1 n1 l ∧ n1 ≤ c1 ∧ c1 ≤ maxLen)
  clear hA0 hval0
  refine (walk A0 n0 c0 l0 A1 n1 c1 l1 W w0 s0 w1 (Nat.le_trans e1 f1)).mono fun e W' ⟨he, bel⟩ => ?_
  subst he
  exact ⟨_, rfl, _, _, _, [], _, [], hW', trodAll_mk1 (shut_bool Try.underlying4 _), (trodAll_cons_mk (Below.trod laidOut (by kernel_rfl) (of_decide_eq_true (by kernel_rfl)) k0 bel lt0) (trodAll_cons_mk (Below.trod laidOut (by kernel_rfl) (of_decide_eq_true (by kernel_rfl)) k1 bel lt1) trodAll_mk0)), rfl, bel.frame _, fun h => by cases h⟩

theorem over : Rows.frameBackRow.holds Try.pinned (OpenSpec.ofChange Rows.frameBackSpec) :=
  OpenClaim.holds_of_wide 3 Try.f3 rfl rfl rfl rfl rfl rfl rfl ⟨rfl, rfl, rfl, rfl, rfl⟩ rfl rfl rfl rfl rfl (by kernel_rfl) Try.func3 (by kernel_rfl)
    (of_decide_eq_true (by kernel_rfl)) (by unfold Func.isWrapper; first | (rw [if_pos (by decide +kernel)]; kernel_rfl) | (rw [if_neg (by decide +kernel)]; exact ⟨rfl, rfl⟩))
    (fun os started H enc _ => lifted os started H enc)

/-- The statement. -/
theorem proved : Rows.FrameBackSaid := over
end Go.Proofs.Ytbdpmfgphhgigaa.frameBack
