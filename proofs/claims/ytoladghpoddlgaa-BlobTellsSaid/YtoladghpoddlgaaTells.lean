/- Every size, every value as pages, and back, every pages: the program tells what the document says; what is handed in stays; what is handed back is the caller's own. -/
import Derived.Test.YtoladghpoddlgaaRows
import Derived.Test.YtoladghpoddlgaaTop
import Derived.LoopTactic
import Derived.StillTailTactics
import Derived.BigQuiet
import Derived.Deep.DeepCutAuto
import Derived.Deep.RegionLaw
import Derived.Deep.CutBlock
import Derived.Lib.Hide
import Derived.WalkKit
import Derived.ProofKit
import Derived.OpenShut
import Derived.ChangeOld
import Derived.Below
import Derived.Carry
namespace Go.Proofs.Ytoladghpoddlgaa.blobTells
open Go.ChangeShapes Go.WideShapes Go.ChangeAt Go.RowKit
set_option linter.unusedVariables false

theorem own : ownKnob Try.prog.godebug = none := by kernel_rfl
theorem laidOut : laidOutB Try.prog = true := by kernel_rfl


set_option maxRecDepth 100000 in
set_option maxHeartbeats 100000000 in
theorem walk (a0 : ByteArray) (A1 : Option Addr) (n1 c1 : Nat) (l1 : List Int) (a2 : Int) (A3 : Option Addr) (n3 c3 : Nat) (l3 : List Pg) (w : World) (w0 : a0.size ≤ maxLen) (w1 : Ints w A1 n1 l1) (e1 : n1 ≤ maxLen) (w2 : (Lit.int .i64 a2).wf = true) (w3 : PgsL w A3 n3 l3) (e3 : n3 ≤ maxLen) :
    Calls Try.prog 3 #[.string a0, .slice A1 n1 c1, .int .i64 a2, .slice A3 n3 c3] w fun e w' => e = .returned (.bool true) ∧ Below w.heap.size w w' := by
  have AL := Lib.hid alive_yes
  by_cases c0 : (a0.size : Int) > 500
  · as_aux_lemma =>
      have g0 : decide ((a0.size : Int) > 500) = true := decide_eq_true c0
      have g0b : decide ((500 : Int) < a0.size) = true := decide_eq_true c0
      have HB0 := Lib.hid (Below.refl w.heap.size w)
      go_enter Try.func3, Try.ntmps3
      go_wp2_with fail
      refine (AL.out _).mono ?_; rintro e w1 ⟨rfl, hb⟩
      have HB1 := Lib.hid (HB0.out.trans (hb.mono (Below.size HB0.out)))
      clear hb HB0 
      go_wp2_with fail
      go_ret
      exact ⟨rfl, HB1.out⟩
  · have g0 : decide ((a0.size : Int) > 500) = false := decide_eq_false c0
    by_cases c1' : (n1 : Int) > 5
    · as_aux_lemma =>
        have g1 : decide ((n1 : Int) > 5) = true := decide_eq_true c1'
        have g1b : decide ((5 : Int) < n1) = true := decide_eq_true c1'
        have HB0 := Lib.hid (Below.refl w.heap.size w)
        go_enter Try.func3, Try.ntmps3
        go_wp2_with fail
        refine (AL.out _).mono ?_; rintro e w1 ⟨rfl, hb⟩
        have HB1 := Lib.hid (HB0.out.trans (hb.mono (Below.size HB0.out)))
        clear hb HB0 
        go_wp2_with fail
        go_ret
        exact ⟨rfl, HB1.out⟩
    · have g1 : decide ((n1 : Int) > 5) = false := decide_eq_false c1'
      by_cases c3' : (n3 : Int) > 5
      · as_aux_lemma =>
          have g2 : decide ((n3 : Int) > 5) = true := decide_eq_true c3'
          have g2b : decide ((5 : Int) < n3) = true := decide_eq_true c3'
          have HB0 := Lib.hid (Below.refl w.heap.size w)
          go_enter Try.func3, Try.ntmps3
          go_wp2_with fail
          refine (AL.out _).mono ?_; rintro e w1 ⟨rfl, hb⟩
          have HB1 := Lib.hid (HB0.out.trans (hb.mono (Below.size HB0.out)))
          clear hb HB0 
          go_wp2_with fail
          go_ret
          exact ⟨rfl, HB1.out⟩
      · have g2 : decide ((n3 : Int) > 5) = false := decide_eq_false c3'
        obtain ⟨hn3, hpgs⟩ := w3
        obtain ⟨v, hv⟩ : ∃ v, a0 = str v := ⟨a0.data.toList, (str_data a0).symm⟩
        have hrg := int_range w2
        have m1 : n1 ≤ 5 := by have := c1'; omega
        have m3 : n3 ≤ 5 := by have := c3'; omega
        have NU := Lib.hid (fun w' (hb : Below w.heap.size w w') c => (Ints.nums w1 c).below hb)
        have HP := Lib.hid (fun w' (hb : Below w.heap.size w w') => hpgs.kept hb)
        have HN3 := Lib.hid hn3
        have HSZ3 := Lib.hid hpgs.2.1
        have PU := Lib.hid (fun W g c (hl : I.Lent W g n1 c l1) => put_any v W (ILent.nums hl) (Nat.le_refl _) (by omega) (by have := hl.mark.2; omega))
        have RP := Lib.hid (fun W (hb : Below w.heap.size w W) => rput_any (c := c1) v W (NU.out W hb c1) hb.size (by omega))
        have GE := Lib.hid (fun W g c (hl : Lent W g n3 c l3) => get_any (c := c) a2 W (hl.pgs HSZ3.out (by unfold maxLen; omega)) (Nat.le_refl _) HN3.out (by omega) hrg)
        have RG := Lib.hid (fun W (hb : Below w.heap.size w W) => rget_any (c := c3) a2 W (HP.out W hb) hb.size HN3.out (by omega) hrg)
        have PA := Lib.hid (fun w => pages_any a2 w)
        have RPA := Lib.hid (fun w => rpages_any a2 w)
        obtain ⟨m, hmm⟩ : ∃ m, (putS v l1).length = m := ⟨_, rfl⟩
        have hm2 : m ≤ 2 := by rw [← hmm]; exact putS_len v l1
        have HSG := Lib.hid (putS_sz v l1)
        have HM := Lib.hid hmm
        have GB := Lib.hid (fun (hk : putOk v l1 = true) W A c (ho : Row W A m c (putS v l1)) => (show Calls Try.prog 13 #[.int .i64 ((a0.size : Nat) : Int), .slice A m c] W fun e w' => e = .returned (.tuple #[.string a0, .bool true]) ∧ Below W.heap.size W w' from by
          have hl : a0.size = v.length := by rw [hv, str_size]
          have hv4 : v.length ≤ 400 := by rcases putOk_len hk with ⟨_, _, h, _⟩ | ⟨_, _, h, _⟩ <;> omega
          have := get_any (m := m) (c := c) ((v.length : Nat) : Int) W (ho.pgs HSG.out (by unfold maxLen; omega)) (Nat.le_refl _) hmm (by omega) (by omega)
          obtain ⟨g1, g2⟩ := get_put hk
          unfold GetP at this
          rw [g1, g2, ← hv, ← hl] at this
          exact this))
        unfold PutP Own at PU RP
        unfold GetP at GE RG
        rw [hmm, ← hv] at PU RP
        generalize putS v l1 = P at *
        generalize putOk v l1 = ok at *
        generalize str (getS a2 l3) = gs at *
        generalize getOk a2 l3 = gk at *
        generalize ((pagesN a2 : Nat) : Int) = pn at *
        clear hv hmm hrg hpgs hn3 w1 e1 e3 w0
        have b5 : (n3 : Int) ≤ 5 := by omega
        clear c0 c1' c3'
        have HB0 := Lib.hid (Below.refl w.heap.size w)
        go_enter Try.func3, Try.ntmps3
        go_wp2_with fail
        refine (AL.out _).mono ?_; rintro e w1 ⟨rfl, hb⟩
        have HB1 := Lib.hid (HB0.out.trans (hb.mono (Below.size HB0.out)))
        clear hb HB0 
        go_wp2_with fail
        go_loopw [46] (fun x wr => ∃ k : Nat, k ≤ n3 ∧ x = .int .i64 k ∧ Hid (Below w.heap.size w wr)) (fun x _ => n3 - (intOf x).toNat)
        case atStart => exact ⟨0, Nat.zero_le _, rfl, HB1.out⟩
        case round =>
          obtain ⟨k, hk, rfl, hq⟩ := hrel
          have HQ := Lib.hid hq.out
          clear hq
          have q0 : (0 : Int) ≤ (k : Int) := by omega
          by_cases hlt : k < n3
          · have q1 : (k : Int) < (n3 : Int) := by omega
            obtain ⟨b, off, rfl, hb, p0, p1, p2, p3⟩ := (HP.out wr HQ.out).1 k (by rw [HN3.out]; exact hlt)
            generalize l3.getD k nilP = x at *
            obtain ⟨xk, xd, xx, xb⟩ := x
            dsimp only at p0 p1 p2 p3
            have HX := Lib.hid (PBox.new wr xk xd xx xb)
            have hA := (Below.refl wr.heap.size wr).alloc (Nat.le_refl _) (.cells #[.int .i64 xk, .int .i64 xd, .int .i64 xx, .string xb] 26)
            have HBW := Lib.hid (HQ.out.trans (hA.mono HQ.out.size))
            clear hb hA
            go_upto_region 6 with fail
            clear p0 p1 p2 p3
            generalize wr.alloc (.cells #[.int .i64 xk, .int .i64 xd, .int .i64 xx, .string xb] 26) = W at *
            obtain ⟨B, hB⟩ : ∃ B, B = wr.heap.size := ⟨_, rfl⟩
            rw [← hB] at HX ⊢
            clear hB
            obtain ⟨x0, x1, x2, x3⟩ := HX.out.cells
            by_cases hlong : (xb.size : Int) > 300
            · have hdl : decide ((xb.size : Int) > 300) = true := decide_eq_true hlong
              have hdl2 : decide ((300 : Int) < xb.size) = true := decide_eq_true hlong
              go_wp2_with fail
              go_ret
              exact ⟨rfl, HBW.out.os, HBW.out.tape, HBW.out.output, HBW.out.size, HBW.out.block⟩
            · have hdl : decide ((xb.size : Int) > 300) = false := decide_eq_false hlong
              go_wp2_with fail
              go_roundw
              case rel => exact ⟨k + 1, by omega, by go_num, HBW.out⟩
              case measure => simp [intOf]; omega
          · obtain rfl : n3 = k := by omega
            have LI := Lib.hid (I.lent_walk A1 n1 c1 l1 wr (INums.more (NU.out wr HQ.out c1) HQ.out.size) (by omega))
            go_wp2_with fail
            refine LI.out.mono ?_; rintro e w2 ⟨gi, ci, rfl, hli, _, hb⟩
            have HI2 := Lib.hid hli
            have HB2 := Lib.hid (HQ.out.trans (hb.mono HQ.out.size))
            clear hli hb LI HQ
            have PUa := Lib.hid (PU.out w2 gi ci HI2.out)
            go_wp2_with fail
            refine PUa.out.mono ?_; rintro e w5 ⟨A5, c5, rfl, hx, hb⟩
            have HX5 := Lib.hid hx
            have HXR5 := Lib.hid (own_lists hx HM.out)
            have HI5 := Lib.hid (ILent.kept HI2.out hb)
            have HB5 := Lib.hid (HB2.out.trans (hb.mono HB2.out.size))
            have HXC := Lib.hid (fun g (hg : (⟨A5, m, c5⟩ : E).own = some g) => Nat.le_trans HB2.out.size (hx.lt g hg).1)
            clear hb hx HI2 HB2 PUa
            go_wp2_with fail
            refine (RP.out _ HB5.out).mono ?_; rintro e w6 ⟨A6, c6, rfl, hx, hb⟩
            have HYR6 := Lib.hid (own_lists hx HM.out)
            have HXR6 := Lib.hid (HXR5.out.below hb)
            have HI6 := Lib.hid (ILent.kept HI5.out hb)
            have HB6 := Lib.hid (HB5.out.trans (hb.mono HB5.out.size))
            have HXL := Lib.hid (fun g (hg : (⟨A5, m, c5⟩ : E).own = some g) => Nat.lt_of_lt_of_le (HX5.out.lt g hg).2 hb.size)
            clear hb hx HI5 HB5 HXR5 HX5
            have PUc := Lib.hid (PU.out w6 gi ci HI6.out)
            go_wp2_with fail
            refine PUc.out.mono ?_; rintro e w7 ⟨A7, c7, rfl, hx, hb⟩
            have HZR7 := Lib.hid (own_lists hx HM.out)
            have HYR7 := Lib.hid (HYR6.out.below hb)
            have HXR7 := Lib.hid (HXR6.out.below hb)
            have HI7 := Lib.hid (ILent.kept HI6.out hb)
            have HB7 := Lib.hid (HB6.out.trans (hb.mono HB6.out.size))
            have HZC := Lib.hid (fun g (hg : (⟨A7, m, c7⟩ : E).own = some g) => Nat.le_trans HB6.out.size (hx.lt g hg).1)
            have HFR := Lib.hid (show FarR ⟨A5, m, c5⟩ ⟨A7, m, c7⟩ from fun g h1 h2 => by
              have := HXL.out g h1
              have := (hx.lt g h2).1
              omega)
            clear hb hx HI6 HB6 HXR6 HYR6 HXL PUc
            have LE := Lib.hid (lent_walk (c := c3) w7 (HP.out w7 HB7.out) HN3.out (by omega))
            go_wp2_with fail
            refine LE.out.mono ?_; rintro e w8 ⟨g, c2, rfl, hlent, hg, hb⟩
            have HL8 := Lib.hid hlent
            have HZR8 := Lib.hid (HZR7.out.below hb)
            have HYR8 := Lib.hid (HYR7.out.below hb)
            have HXR8 := Lib.hid (HXR7.out.below hb)
            have HI8 := Lib.hid (ILent.kept HI7.out hb)
            have HB8 := Lib.hid (HB7.out.trans (hb.mono HB7.out.size))
            clear hlent hg hb LE HB7 HI7 HXR7 HYR7 HZR7
            have GEa := Lib.hid (GE.out w8 g c2 HL8.out)
            go_wp2_with fail
            refine GEa.out.mono ?_; rintro e w9 ⟨rfl, hb⟩
            have HL9 := Lib.hid (HL8.out.kept hb)
            have HZR9 := Lib.hid (HZR8.out.below hb)
            have HYR9 := Lib.hid (HYR8.out.below hb)
            have HXR9 := Lib.hid (HXR8.out.below hb)
            have HI9 := Lib.hid (ILent.kept HI8.out hb)
            have HB9 := Lib.hid (HB8.out.trans (hb.mono HB8.out.size))
            clear hb GEa HB8 HI8 HXR8 HYR8 HZR8 HL8
            go_wp2_with fail
            refine (RG.out _ HB9.out).mono ?_; rintro e w10 ⟨rfl, hb⟩
            have HL10 := Lib.hid (HL9.out.kept hb)
            have HZR10 := Lib.hid (HZR9.out.below hb)
            have HYR10 := Lib.hid (HYR9.out.below hb)
            have HXR10 := Lib.hid (HXR9.out.below hb)
            have HI10 := Lib.hid (ILent.kept HI9.out hb)
            have HB10 := Lib.hid (HB9.out.trans (hb.mono HB9.out.size))
            clear hb HB9 HI9 HXR9 HYR9 HZR9 HL9
            go_wp2_with fail
            have HBK := Lib.hid (Book.new (C := w.heap.size) (w := w10.alloc (.cells (bookCells nil_ nil_) 46)) (b := w10.heap.size) HB10.out.size (heap_alloc_new w10 _))
            have hA := (Below.refl w10.heap.size w10).alloc (Nat.le_refl _) (.cells (bookCells nil_ nil_) 46)
            have HZR11 := Lib.hid (HZR10.out.below hA)
            have HYR11 := Lib.hid (HYR10.out.below hA)
            have HXR11 := Lib.hid (HXR10.out.below hA)
            have HL11 := Lib.hid (HL10.out.kept hA)
            have HI11 := Lib.hid (ILent.kept HI10.out hA)
            have HB11 := Lib.hid (HB10.out.trans (hA.mono HB10.out.size))
            clear hA HZR10 HYR10 HXR10 HL10 HI10 HB10
            unfold bookCells nil_ at *
            generalize w10.alloc (.cells #[.slice none 0 0, .slice none 0 0, .slice none 0 0, .slice none 0 0, .slice none 0 0, .slice none 0 0, .slice none 0 0, .slice none 0 0, .slice none 0 0, .slice none 0 0, .slice none 0 0, .slice none 0 0, .slice none 0 0, .slice none 0 0, .slice none 0 0, .slice none 0 0, .slice none 0 0, .slice none 0 0] 46) = w11 at *
            obtain ⟨B, hB⟩ : ∃ B, B = w10.heap.size := ⟨_, rfl⟩
            rw [← hB] at HBK ⊢
            clear hB
            refine (add_walk w.heap.size B [] [] [] [] A5 m c5 P w11 HBK.out HB11.out.size HXR11.out HSG.out (by omega) (by simp) (by simp) (by simp)).mono ?_; rintro e w12 ⟨rfl, f1, hbk, hk9, hf1⟩
            simp only [List.nil_append] at hbk
            obtain ⟨cs8, hb8⟩ := HBK.out.block
            have HBK12 := Lib.hid hbk
            have HFR2 := Lib.hid (show ∀ x ∈ [(⟨A5, m, c5⟩ : E)] ++ [f1], FarR x ⟨A7, m, c7⟩ from fun x hx => by
              simp only [List.cons_append, List.nil_append, List.mem_cons, List.not_mem_nil, or_false] at hx
              rcases hx with rfl | rfl
              · exact HFR.out
              · intro g h1 h2
                have := hf1 g h1
                have := row_own_lt HZR11.out h2
                omega)
            have HZR12 := Lib.hid (hk9.row HZR11.out hb8)
            have HYR12 := Lib.hid (hk9.row HYR11.out hb8)
            have HXR12 := Lib.hid (hk9.row HXR11.out hb8)
            have HL12 := Lib.hid (HL11.out.keptB hk9 hb8)
            have HI12 := Lib.hid (ILent.keptB HI11.out hk9 hb8)
            have HB12 := Lib.hid (HB11.out.trans hk9.1)
            clear hbk hk9 hf1 hb8 HBK HB11 HL11 HI11 HXR11 HYR11 HZR11 HFR
            go_wp2_with fail
            refine (add_walk w.heap.size B [⟨A5, m, c5⟩] [f1] [P] [P] A7 m c7 P w12 HBK12.out HB12.out.size HZR12.out HSG.out (by omega) (by simp) (by simp) HFR2.out).mono ?_; rintro e w13 ⟨rfl, f2, hbk, hk9, hf1⟩
            obtain ⟨cs8, hb8⟩ := HBK12.out.block
            have HBK13 := Lib.hid hbk
            have HYR13 := Lib.hid (hk9.row HYR12.out hb8)
            have HXR13 := Lib.hid (hk9.row HXR12.out hb8)
            have HL13 := Lib.hid (HL12.out.keptB hk9 hb8)
            have HI13 := Lib.hid (ILent.keptB HI12.out hk9 hb8)
            have HB13 := Lib.hid (HB12.out.trans hk9.1)
            clear hbk hk9 hf1 hb8 HBK12 HB12 HL12 HI12 HXR12 HYR12 HZR12 HFR2
            have SA := Lib.hid (same_walk (c := c5) (d := c6) w13 (HXR13.out.pgs HSG.out (by unfold maxLen; omega)) (HYR13.out.pgs HSG.out (by unfold maxLen; omega)) HM.out HM.out (by omega))
            rw [sameB_self] at SA
            go_wp2_with fail
            refine SA.out.mono ?_; rintro e w14 ⟨rfl, q, rfl⟩
            have hb : Below w13.heap.size w13 (w13.drewN q) := ⟨rfl, rfl, rfl, Nat.le_refl _, fun _ _ => rfl⟩
            have HBK14 := Lib.hid (HBK13.out.below hb)
            have HXR14 := Lib.hid (HXR13.out.below hb)
            have HL14 := Lib.hid (HL13.out.kept hb)
            have HI14 := Lib.hid (ILent.kept HI13.out hb)
            have HB14 := Lib.hid (HB13.out.trans (hb.mono HB13.out.size))
            clear hb SA HBK13 HB13 HL13 HI13 HXR13 HYR13
            generalize w13.drewN q = W14 at *
            have hse := show (gs.toList == gs.toList) = true by simp
            have hsn := show (gs.toList != gs.toList) = false by simp
            go_wp2_with fail
            refine (PA.out _).mono ?_; rintro e wx ⟨rfl, rfl⟩
            go_wp2_with fail
            refine (RPA.out _).mono ?_; rintro e wx ⟨rfl, rfl⟩
            have SI := Lib.hid (I.stays_walk gi n1 ci A1 c1 l1 W14 HI14.out (INums.more (NU.out W14 HB14.out c1) HB14.out.size) (by omega))
            go_wp2_with fail
            refine SI.out.mono ?_; rintro e w15 ⟨rfl, q, rfl⟩
            have hb : Below W14.heap.size W14 (W14.drewN q) := ⟨rfl, rfl, rfl, Nat.le_refl _, fun _ _ => rfl⟩
            have HBK15 := Lib.hid (HBK14.out.below hb)
            have HXR15 := Lib.hid (HXR14.out.below hb)
            have HL15 := Lib.hid (HL14.out.kept hb)
            have HB15 := Lib.hid (HB14.out.trans (hb.mono HB14.out.size))
            clear hb SI HBK14 HXR14 HL14 HI14 HB14
            generalize W14.drewN q = W15 at *
            have ST := Lib.hid (stays_walk (d := c3) W15 HL15.out (HP.out _ HB15.out) (by omega))
            go_wp2_with fail
            refine ST.out.mono ?_; rintro e w16 ⟨rfl, hb⟩
            have HBK16 := Lib.hid (HBK15.out.below hb)
            have HXR16 := Lib.hid (HXR15.out.below hb)
            have HB16 := Lib.hid (HB15.out.trans (hb.mono HB15.out.size))
            clear hb ST HBK15 HXR15 HL15 HB15
            have APL := Lib.hid (fun W (hbk : Book w.heap.size W B _ _ _ _) (hC : Below w.heap.size w W) => apart_walk w.heap.size B [⟨A5, m, c5⟩, ⟨A7, m, c7⟩] [f1, f2] [P, P] W hbk hC.size (fun e he g hg => by
              simp only [List.mem_cons, List.not_mem_nil, or_false] at he
              rcases he with rfl | rfl
              · exact HXC.out g hg
              · exact HZC.out g hg) (by simp) (fun i hi => by
              simp only [List.length_cons, List.length_nil] at hi
              rcases (show i = 0 ∨ i = 1 by omega) with rfl | rfl <;> (simp; omega)) (fun i hi => by
              simp only [List.length_cons, List.length_nil] at hi
              rcases (show i = 0 ∨ i = 1 by omega) with rfl | rfl <;> exact HSG.out))
            simp only [List.cons_append, List.nil_append] at HBK16
            cases ok with
            | false =>
              have AP := Lib.hid (APL.out _ HBK16.out HB16.out)
              go_wp2_with fail
              refine AP.out.mono ?_; rintro e w17 ⟨rfl, hb⟩
              have HB17 := Lib.hid (HB16.out.trans hb)
              clear hb
              go_wp2_with fail
              go_ret
              exact ⟨rfl, HB17.out⟩
            | true =>
              have GBa := Lib.hid (GB.out rfl w16 A5 c5 HXR16.out)
              go_wp2_with fail
              refine GBa.out.mono ?_; rintro e w17 ⟨rfl, hb⟩
              have HBK17 := Lib.hid (HBK16.out.below hb)
              have HB17 := Lib.hid (HB16.out.trans (hb.mono HB16.out.size))
              clear hb GBa HBK16 HB16
              have AP := Lib.hid (APL.out _ HBK17.out HB17.out)
              have hsa := show (a0.toList != a0.toList) = false by simp
              go_wp2_with fail
              refine AP.out.mono ?_; rintro e w18 ⟨rfl, hb⟩
              have HB18 := Lib.hid (HB17.out.trans hb)
              clear hb
              go_wp2_with fail
              go_ret
              exact ⟨rfl, HB18.out⟩

/-! The row's step. -/
set_option maxRecDepth 100000 in
theorem lifted (os : Os) (started : os.Started) (H : Type) (enc : TypeId × Value → H) :
    ReturnsInHanded {} Try.checked os 3 .any (Rows.blobTellsSpec.pre6 enc Try.prog Try.f3 Rows.blobTellsRow.domain false) (Rows.blobTellsSpec.post enc Try.prog Try.f3 false true false false) := by
  refine returnsInHanded_of_change (C := Try.checked) own started (by kernel_rfl) Try.func3
    (ChangeSpec.witness6 (enc := enc) (C := Try.checked) false ⟨#[], #[.string ByteArray.empty, .slice none 0 0, .int .i64 0, .slice none 0 0], []⟩ 8 (by kernel_rfl) (by kernel_rfl) (by kernel_rfl) (by kernel_rfl)) ?_
  intro W base args ds gs before hval0 hW hcnd _
  have hval : ∀ (j : Nat) t v, Try.f3.params[j]? = some t → args[j]? = some v → Value.okWide Try.prog W .any base t v := hval0
  have hW' := hW
  obtain ⟨p, q, hA0, hV, rfl, hfz, hnd⟩ := hW
  have hA : DataW.TrodAll enc Try.prog W 0 (fun _ => true) true Try.f3.params.toList args.toList ds p := hA0
  rw [Try.params3] at hA hval
  obtain ⟨v0, vs0, d0, ds0, p0, q0, hargs, rfl, rfl, h0, r0⟩ := trodAll_cons hA
  obtain ⟨v1, vs1, d1, ds1, p1, q1, rfl, rfl, rfl, h1, r1⟩ := trodAll_cons r0
  obtain ⟨v2, vs2, d2, ds2, p2, q2, rfl, rfl, rfl, h2, r2⟩ := trodAll_cons r1
  obtain ⟨v3, vs3, d3, ds3, p3, q3, rfl, rfl, rfl, h3, r3⟩ := trodAll_cons r2
  obtain ⟨rfl, rfl, rfl⟩ := trodAll_nil r3
  obtain rfl : args = #[v0, v1, v2, v3] := by cases args; simp_all
  obtain ⟨rfl, rfl⟩ := trodVars_none hV
  obtain ⟨a0, rfl, rfl, rfl, w0⟩ := Go.ChangeMaps.open_string Try.underlying9 (hval 0 9 v0 rfl rfl) h0
  obtain ⟨A1, n1, c1, rfl⟩ := okWide_slice Try.underlying22 (hval 1 22 v1 rfl rfl)
  have k1 := h1
  have lt1 : ∀ x ∈ p1, x.block < W.heap.size := by obtain ⟨m, hm⟩ := k1; exact DataW.trod_lt m _ _ _ hm
  obtain ⟨l1, w1, e1, f1⟩ := (by obtain ⟨fuel, hf⟩ := h1; exact ints_read hf (fun _ => rfl) : ∃ l, Ints W A1 n1 l ∧ n1 ≤ c1 ∧ c1 ≤ maxLen)
  obtain ⟨a2, rfl, rfl, rfl, w2⟩ := open_int Try.underlying3 (hval 2 3 v2 rfl rfl) h2
  obtain ⟨A3, n3, c3, rfl⟩ := okWide_slice Try.underlying23 (hval 3 23 v3 rfl rfl)
  have k3 := h3
  have lt3 : ∀ x ∈ p3, x.block < W.heap.size := by obtain ⟨m, hm⟩ := k3; exact DataW.trod_lt m _ _ _ hm
  obtain ⟨l3, w3, e3, f3⟩ := (by obtain ⟨fuel, hf⟩ := h3; exact pgs_read hf (fun _ => rfl) : ∃ l, PgsL W A3 n3 l ∧ n3 ≤ c3 ∧ c3 ≤ maxLen)
  clear hA0 hval0
  refine (walk a0 A1 n1 c1 l1 a2 A3 n3 c3 l3 W w0 w1 (Nat.le_trans e1 f1) w2 w3 (Nat.le_trans e3 f3)).mono fun e W' ⟨he, bel⟩ => ?_
  subst he
  exact ⟨_, rfl, _, _, _, [], _, [], hW', trodAll_mk1 (shut_bool Try.underlying4 _), (trodAll_cons_mk (Go.ChangeMaps.shut_string Try.underlying9 w0) (trodAll_cons_mk (Below.trod laidOut (by kernel_rfl) (of_decide_eq_true (by kernel_rfl)) k1 bel lt1) (trodAll_cons_mk (shut_int Try.underlying3 w2) (trodAll_cons_mk (Below.trod laidOut (by kernel_rfl) (of_decide_eq_true (by kernel_rfl)) k3 bel lt3) trodAll_mk0)))), rfl, bel.frame _, fun h => by cases h⟩

theorem over : Rows.blobTellsRow.holds Try.pinned (OpenSpec.ofChange Rows.blobTellsSpec) :=
  OpenClaim.holds_of_wide 3 Try.f3 rfl rfl rfl rfl rfl rfl rfl ⟨rfl, rfl, rfl, rfl, rfl⟩ rfl rfl rfl rfl rfl (by kernel_rfl) Try.func3 (by kernel_rfl)
    (of_decide_eq_true (by kernel_rfl)) (by unfold Func.isWrapper; first | (rw [if_pos (by decide +kernel)]; kernel_rfl) | (rw [if_neg (by decide +kernel)]; exact ⟨rfl, rfl⟩))
    (fun os started H enc _ => lifted os started H enc)

/-- The statement. -/
theorem proved : Rows.BlobTellsSaid := over
end Go.Proofs.Ytoladghpoddlgaa.blobTells
