/- A byte that is turned in a page of a value makes of it another value, or none: none just if the byte is not one of the value. -/
import Derived.Test.YtoladghpoddlgaaRows
import Derived.Test.YtoladghpoddlgaaTurnm
import Derived.LoopTactic
import Derived.StillTailTactics
import Derived.BigQuiet
import Derived.Deep.DeepCutAuto
import Derived.Deep.RegionLaw
import Derived.Deep.CutBlock
import Derived.Lib.Hide
import Derived.WalkKit
import Derived.ProofKit
import Derived.OpenShut
import Derived.ChangeOld
import Derived.Below
import Derived.Carry
namespace Go.Proofs.Ytoladghpoddlgaa.blobTurned
open Go.ChangeShapes Go.WideShapes Go.ChangeAt Go.RowKit
set_option linter.unusedVariables false

theorem own : ownKnob Try.prog.godebug = none := by kernel_rfl
theorem laidOut : laidOutB Try.prog = true := by kernel_rfl


set_option maxRecDepth 100000 in
set_option maxHeartbeats 100000000 in
theorem walk (a0 : ByteArray) (a1 a2 : Int) (w : World) (w0 : a0.size ≤ maxLen) (w1 : (Lit.int .i64 a1).wf = true) (w2 : (Lit.int .u8 a2).wf = true) :
    Calls Try.prog 5 #[.string a0, .int .i64 a1, .int .u8 a2] w fun e w' => e = .returned (.bool true) ∧ Below w.heap.size w w' := by
  have AL := Lib.hid alive_yes
  obtain ⟨v, hv⟩ : ∃ v, a0 = str v := ⟨a0.data.toList, (str_data a0).symm⟩
  have hsz : a0.size = v.length := by rw [hv, str_size]
  obtain ⟨K, hK⟩ : ∃ K, pagesN ((a0.size : Nat) : Int) = K := ⟨_, rfl⟩
  have PG := Lib.hid (fun w => pages_any ((a0.size : Nat) : Int) w)
  rw [hK] at PG
  by_cases c0' : K = 0
  · as_aux_lemma =>
      subst c0'
      clear hv hsz hK
      have HB0 := Lib.hid (Below.refl w.heap.size w)
      go_enter Try.func5, Try.ntmps5
      go_wp2_with fail
      refine (PG.out _).mono ?_; rintro e wx ⟨rfl, rfl⟩
      go_wp2_with fail
      refine (AL.out _).mono ?_; rintro e w1 ⟨rfl, hb⟩
      have HB1 := Lib.hid (HB0.out.trans (hb.mono (Below.size HB0.out)))
      clear hb HB0 
      go_wp2_with fail
      go_ret
      exact ⟨rfl, HB1.out⟩
  · by_cases c1 : a2 = 0
    · as_aux_lemma =>
        have k3 : ((K : Int) == 0) = false := by rw [beq_eq_false_iff_ne]; omega
        subst c1
        clear hv hsz hK c0'
        have HB0 := Lib.hid (Below.refl w.heap.size w)
        go_enter Try.func5, Try.ntmps5
        go_wp2_with fail
        refine (PG.out _).mono ?_; rintro e wx ⟨rfl, rfl⟩
        go_wp2_with fail
        refine (AL.out _).mono ?_; rintro e w1 ⟨rfl, hb⟩
        have HB1 := Lib.hid (HB0.out.trans (hb.mono (Below.size HB0.out)))
        clear hb HB0 
        go_wp2_with fail
        go_ret
        exact ⟨rfl, HB1.out⟩
    · have hK2 : pagesN ((v.length : Nat) : Int) = K := by rw [← hsz]; exact hK
      have h12 : (K = 1 ∨ K = 2) ∧ v.length ≤ 400 := by
        rcases pagesN_is ((v.length : Nat) : Int) with ⟨e, _⟩ | ⟨e, _, _⟩ | ⟨e, _, _⟩ <;> omega
      obtain ⟨y, hy⟩ := u8_of_int a2 w2
      have hy0 : y ≠ 0 := fun e => c1 (by rw [hy, e]; rfl)
      obtain ⟨hf, hL⟩ := first_ok hK2 h12.1
      have PU := Lib.hid (fun w => put_first v K hK2 h12.1 w)
      rw [← hv] at PU
      obtain ⟨i, hi, hia⟩ := place a1 K (by omega) (by omega)
      obtain ⟨k, hk, hka⟩ := place a1 240 (by omega) (by omega)
      have hia' : (wrap64 (a1.tmod (K : Int) + (K : Int))).tmod (K : Int) = (i : Int) := hia
      have hka' : (wrap64 (a1.tmod 240 + 240)).tmod 240 = (k : Int) := hka
      have hbs : (pageAt v ([20, 21].take K) i).b.size = 240 := pgOf_size _ _ (by rw [List.length_take]; omega)
      obtain ⟨c0, hc0⟩ : ∃ c0, c0 = (pageAt v ([20, 21].take K) i).b.data.toList.getD k 0 := ⟨_, rfl⟩
      obtain ⟨c, hc⟩ : ∃ c, c = c0 ^^^ y := ⟨_, rfl⟩
      have HXO := Lib.hid (xor_u8 c0 y)
      rw [← hc, ← hy] at HXO
      obtain ⟨tg1, tg2⟩ := turned_get (y := c) hL hf hi hk (by rw [hc, ← hc0]; exact xor_ne c0 y hy0)
      have HTP := Lib.hid (show turnP v ([20, 21].take K) K i k c = (pagesL v ([20, 21].take K) K).set i ⟨((pagesL v ([20, 21].take K) K).getD i nilP).k, ((pagesL v ([20, 21].take K) K).getD i nilP).d, ((pagesL v ([20, 21].take K) K).getD i nilP).x, str (patch (pageAt v ([20, 21].take K) i).b.data.toList k c)⟩ from by
        have e : (pagesL v ([20, 21].take K) K).getD i nilP = pageAt v ([20, 21].take K) i := by simp [pagesL, List.getD, hi]
        rw [e]
        unfold turnP
        congr 1)
      have HTS := Lib.hid (show ∀ p ∈ turnP v ([20, 21].take K) K i k c, p.b.size ≤ 1000000 from by
        intro p hp
        unfold turnP at hp
        rcases List.mem_or_eq_of_mem_set hp with hp | rfl
        · exact pagesL_sizes p hp
        · have hbl : ((v.drop (200 * i)).take 200 ++ zs (240 - ((v.drop (200 * i)).take 200).length)).length = 240 := by
            rw [List.length_append, zs_length, List.length_take]; omega
          show (str _).size ≤ _
          rw [str_size, patch_length (by omega), hbl]; omega)
      have HTL := Lib.hid (show (turnP v ([20, 21].take K) K i k c).length = K from by unfold turnP; rw [List.length_set, pagesL_length])
      have HPL := Lib.hid (show i < (pagesL v ([20, 21].take K) K).length from by rw [pagesL_length]; exact hi)
      have HPS := Lib.hid (show ∀ p ∈ pagesL v ([20, 21].take K) K, p.b.size ≤ 1000000 from pagesL_sizes)
      have HPN := Lib.hid (pagesL_length v ([20, 21].take K) K)
      have GT := Lib.hid (fun A cc W (ho : Own w.heap.size W (.slice A K cc) (turnP v ([20, 21].take K) K i k c)) => get_any (m := K) (c := cc) ((v.length : Nat) : Int) W (own_pgs ho HTL.out (by omega) HTS.out) (Nat.le_refl _) HTL.out (by omega) (by omega))
      unfold GetP at GT
      rw [← hsz] at GT tg1 tg2
      have HG1 := Lib.hid tg1
      have HG2 := Lib.hid (show getOk ((a0.size : Nat) : Int) (turnP v ([20, 21].take K) K i k c) = true → ((str (getS ((a0.size : Nat) : Int) (turnP v ([20, 21].take K) K i k c))).toList != a0.toList) = true from fun e => by
        rw [bne_iff_ne, hv, str_list, str_list]
        rw [hv] at e
        intro e2
        have := tg2 (by rw [hv]; exact e)
        rw [hv] at this
        exact this e2)
      generalize getOk ((a0.size : Nat) : Int) (turnP v ([20, 21].take K) K i k c) = gk at *
      generalize str (getS ((a0.size : Nat) : Int) (turnP v ([20, 21].take K) K i k c)) = gs at *
      generalize turnP v ([20, 21].take K) K i k c = TP at *
      obtain ⟨bb, hbb⟩ : ∃ bb, bb = (pageAt v ([20, 21].take K) i).b := ⟨_, rfl⟩
      rw [← hbb] at hbs hc0 HTP
      have IX := Lib.hid (run_ix bb k (by omega))
      rw [← hc0] at IX
      have SH := Lib.hid (run_slice_hi bb k (by omega))
      have SL := Lib.hid (run_slice_lo bb (k + 1) (by omega))
      have HJ := Lib.hid (show str (bb.data.toList.take k) ++ str [c] ++ str (bb.data.toList.drop (k + 1)) = str (patch bb.data.toList k c) from by
        rw [str_join, str_join]
        unfold patch
        simp)
      have s1 : (str (bb.data.toList.take k)).size = k := by rw [str_size, List.length_take, size_data]; omega
      have s2 : (str [c]).size = 1 := by rw [str_size]; rfl
      have s3 : (str (bb.data.toList.drop (k + 1))).size = 239 - k := by rw [str_size, List.length_drop, size_data]; omega
      have HBB := Lib.hid hbb
      have HCV := Lib.hid (fun W : World => conv1 (X := (W.alloc (.cells #[.int .u8 (c.toNat : Int)] 5)).drew) (B := W.heap.size) (c := c) (heap_alloc_new W _))
      have SL' := SL.out
      rw [show ((k + 1 : Nat) : Int) = (k : Int) + 1 by omega] at SL'
      have SLL := Lib.hid SL'
      clear SL' SL
      generalize str (patch bb.data.toList k c) = nb at *
      generalize str (bb.data.toList.take k) = sA at *
      generalize str [c] = sB at *
      generalize str (bb.data.toList.drop (k + 1)) = sC at *
      have hs12 : ¬ 9223372036854775807 < sA.size + sB.size := by omega
      have hs123 : ¬ 9223372036854775807 < (sA ++ sB).size + sC.size := by
        have : (sA ++ sB).size = sA.size + sB.size := ByteArray.size_append ..
        omega
      obtain ⟨i0, hi0, hz0, hz1, hz2⟩ := info_parts info_p
      have HD := Lib.hid (show ((decide ((i : Int) * 200 + (k : Int) < ((a0.size : Nat) : Int)) && decide ((k : Int) < 200)) = gk) from by
        rw [HG1.out]
        congr 1
        · exact decide_eq_decide.2 (by omega)
        · exact decide_eq_decide.2 (by omega))
      have k1 : (0 : Int) ≤ (K : Int) := by omega
      have k2 : (K : Int) ≤ 2 := by omega
      have k3 : ((K : Int) == 0) = false := by rw [beq_eq_false_iff_ne]; omega
      have k4 : ¬ (K : Int) = 0 := by omega
      have j0 : (0 : Int) ≤ (i : Int) := by omega
      have j1 : (i : Int) < (K : Int) := by omega
      have j2 : (0 : Int) ≤ (k : Int) := by omega
      have j3 : (k : Int) < 240 := by omega
      have k5 : K ≤ 2 := by omega
      have HI := Lib.hid hi
      have by0 : (a2 == 0) = false := beq_eq_false_iff_ne.2 c1
      clear hv hsz hK hK2 h12 hy hy0 hf hL hia hka hc0 hc tg1 tg2 hbb hbs s1 s2 s3 hi hk HG1 c0' c1 w0 w1 w2
      have HB0 := Lib.hid (Below.refl w.heap.size w)
      go_enter Try.func5, Try.ntmps5
      go_wp2_with fail
      refine (PG.out _).mono ?_; rintro e wx ⟨rfl, rfl⟩
      go_wp2_with fail
      refine (AL.out _).mono ?_; rintro e w1 ⟨rfl, hb⟩
      have HB1 := Lib.hid (HB0.out.trans (hb.mono (Below.size HB0.out)))
      clear hb HB0 
      go_wp2_with fail
      refine (PG.out _).mono ?_; rintro e wx ⟨rfl, rfl⟩
      go_wp2_with fail
      refine (PU.out _).mono ?_; rintro e w2 ⟨g, cc, rfl, hp, ho, hb⟩
      have HB2 := Lib.hid (HB1.out.trans (hb.mono (Below.size HB1.out)))
      have HO2 := Lib.hid (own_base ho (Below.size HB1.out))
      obtain ⟨p0, p1, p2, p3⟩ := hp i HI.out
      rw [← HBB.out] at p3
      have hsrc := (own_pgs ho HPN.out (by omega) HPS.out).src
      rw [HPN.out] at hsrc
      clear hb ho hp p0 p1 p2 PU
      go_wp2_with (at_builtin; refine wpList_append_src _ rfl _ _ 23 rfl 26 i0 (.agg #[.int .i64 0, .int .i64 0, .int .i64 0, .string ⟨#[]⟩]) 4 40 Try.underlying23 hi0 hz0 hz1 hz2 rfl (by decide) w.heap.size (.slice none 0 0) 0 [] rfl (World.ownsRow_nil _ _ _ _) (some ⟨g, 0, none⟩) K cc _ rfl hsrc (pcs_one _) (by unfold maxLen; omega) (by omega) (Below.size HB2.out) ?_; intro v' w3 hown hgrow hat)
      simp only [Nat.zero_add, List.nil_append] at hown
      obtain ⟨A9, c9, rfl⟩ := own_shape hown
      have HB3 := Lib.hid (HB2.out.grown hgrow (Below.size HB2.out) (fun k hk => by simp [Value.ownBlock] at hk))
      have HOW := Lib.hid (show Own w.heap.size w3 (.slice A9 K c9) (pagesL v ([20, 21].take K) K) from by unfold Own; rw [HPN.out]; exact hown)
      obtain ⟨gm, rfl, hgm1, hgm2, hcells⟩ := own_cells HOW.out HPN.out (by have := HI.out; omega)
      obtain ⟨-, -, -, q3⟩ := hcells i HI.out
      obtain ⟨cur, hcur⟩ := owns_blk HOW.out (g := gm) rfl
      have HGM := Lib.hid (show w.heap.size ≤ gm ∧ gm < w3.heap.size from ⟨hgm1, hgm2⟩)
      clear hown hgrow hat hsrc hcells p3 hgm1 hgm2
      go_wp2_with fail
      have hb4 := (Below.refl w3.heap.size w3).alloc (Nat.le_refl _) (.cells #[.int .u8 (c.toNat : Int)] 5)
      have y3 := Held.cell (X := w3) hb4 q3
      have f3 : (w3.alloc (.cells #[.int .u8 (c.toNat : Int)] 5)).frozen? ⟨gm, i * 4 + 3, none⟩ = false := Lib.frozen_of_heap ((hb4.block gm HGM.out.2).trans hcur) _
      have HB4 := Lib.hid (HB3.out.trans (hb4.mono (Below.size HB3.out)))
      have HOW4 := Lib.hid (owns_kept2 HOW.out (fun q hq => hb4.block q (HOW.out.lt q hq).2))
      clear hcur hb4 q3
      have hcv := HCV.out w3
      have ix := IX.out
      have sh := SH.out
      have sl := SLL.out
      have xo := HXO.out
      have kw : IntKind.i64.wrap ((k : Int) + 1) = (k : Int) + 1 := IntWalk.i64_in _ (by omega)
      generalize ((c.toNat : Nat) : Int) = ci at *
      generalize ((c0.toNat : Nat) : Int) = ci0 at *
      go_region
      have HOW5 := Lib.hid (show Own w.heap.size (((w3.alloc (.cells #[.int .u8 ci] 5)).setCell ⟨gm, i * 4 + 3, none⟩ (.string (sA ++ sB ++ sC))).drew) (.slice (some ⟨gm, 0, none⟩) K c9) TP from by
        rw [HJ.out, HTP.out]
        have := own_setb (show Own w.heap.size (w3.alloc (.cells #[.int .u8 ci] 5)) (.slice (some ⟨gm, 0, none⟩) K c9) (pagesL v ([20, 21].take K) K) from HOW4.out) HPL.out nb
        unfold Own at this ⊢
        rw [List.length_set] at this ⊢
        exact this)
      have HB5 := Lib.hid ((below_set1 (i := i * 4 + 3) (u := .string (sA ++ sB ++ sC)) HB4.out HGM.out.1).drew)
      generalize ((w3.alloc (.cells #[.int .u8 ci] 5)).setCell ⟨gm, i * 4 + 3, none⟩ (.string (sA ++ sB ++ sC))).drew = W5 at *
      have GTa := Lib.hid (GT.out _ _ W5 HOW5.out)
      have m1 : IntKind.i64.wrap ((i : Int) * 200) = (i : Int) * 200 := IntWalk.i64_in _ (by omega)
      have m2 : IntKind.i64.wrap ((i : Int) * 200 + (k : Int)) = (i : Int) * 200 + (k : Int) := IntWalk.i64_in _ (by omega)
      clear y3 f3 HOW4 HB4 HB3 HB2 hcv ix sh sl xo kw HOW HOW5 GT hia' hka' hs12 hs123
      go_wp2_with fail
      refine GTa.out.mono ?_; rintro e w6 ⟨rfl, hb⟩
      have HB6 := Lib.hid (HB5.out.trans (hb.mono (Below.size HB5.out)))
      clear hb GTa HB5
      obtain ⟨d1, hd1⟩ : ∃ d1, decide ((i : Int) * 200 + (k : Int) < ((a0.size : Nat) : Int)) = d1 := ⟨_, rfl⟩
      obtain ⟨d2, hd2⟩ : ∃ d2, decide ((k : Int) < 200) = d2 := ⟨_, rfl⟩
      rw [hd1, hd2] at HD
      have HDO := HD.out
      subst HDO
      cases d1 with
      | false =>
        go_wp2_with fail
        go_ret
        exact ⟨rfl, HB6.out⟩
      | true =>
        cases d2 with
        | false =>
          go_wp2_with fail
          go_ret
          exact ⟨rfl, HB6.out⟩
        | true =>
          have hne := HG2.out rfl
          have hne2 : (gs.toList == a0.toList) = false := by
            unfold bne at hne
            cases h : (gs.toList == a0.toList) with
            | false => rfl
            | true => rw [h] at hne; cases hne
          go_wp2_with fail
          go_ret
          exact ⟨rfl, HB6.out⟩

/-! The row's step. -/
set_option maxRecDepth 100000 in
theorem lifted (os : Os) (started : os.Started) (H : Type) (enc : TypeId × Value → H) :
    ReturnsInHanded {} Try.checked os 5 .any (Rows.blobTurnedSpec.pre6 enc Try.prog Try.f5 Rows.blobTurnedRow.domain false) (Rows.blobTurnedSpec.post enc Try.prog Try.f5 false true false false) := by
  refine returnsInHanded_of_change (C := Try.checked) own started (by kernel_rfl) Try.func5
    (ChangeSpec.witness6 (enc := enc) (C := Try.checked) false ⟨#[], #[.string ByteArray.empty, .int .i64 0, .int .u8 0], []⟩ 8 (by kernel_rfl) (by kernel_rfl) (by kernel_rfl) (by kernel_rfl)) ?_
  intro W base args ds gs before hval0 hW hcnd _
  have hval : ∀ (j : Nat) t v, Try.f5.params[j]? = some t → args[j]? = some v → Value.okWide Try.prog W .any base t v := hval0
  have hW' := hW
  obtain ⟨p, q, hA0, hV, rfl, hfz, hnd⟩ := hW
  have hA : DataW.TrodAll enc Try.prog W 0 (fun _ => true) true Try.f5.params.toList args.toList ds p := hA0
  rw [Try.params5] at hA hval
  obtain ⟨v0, vs0, d0, ds0, p0, q0, hargs, rfl, rfl, h0, r0⟩ := trodAll_cons hA
  obtain ⟨v1, vs1, d1, ds1, p1, q1, rfl, rfl, rfl, h1, r1⟩ := trodAll_cons r0
  obtain ⟨v2, vs2, d2, ds2, p2, q2, rfl, rfl, rfl, h2, r2⟩ := trodAll_cons r1
  obtain ⟨rfl, rfl, rfl⟩ := trodAll_nil r2
  obtain rfl : args = #[v0, v1, v2] := by cases args; simp_all
  obtain ⟨rfl, rfl⟩ := trodVars_none hV
  obtain ⟨a0, rfl, rfl, rfl, w0⟩ := Go.ChangeMaps.open_string Try.underlying9 (hval 0 9 v0 rfl rfl) h0
  obtain ⟨a1, rfl, rfl, rfl, w1⟩ := open_int Try.underlying3 (hval 1 3 v1 rfl rfl) h1
  obtain ⟨a2, rfl, rfl, rfl, w2⟩ := open_int Try.underlying5 (hval 2 5 v2 rfl rfl) h2
  clear hA0 hval0
  refine (walk a0 a1 a2 W w0 w1 w2).mono fun e W' ⟨he, bel⟩ => ?_
  subst he
  exact ⟨_, rfl, _, _, _, [], _, [], hW', trodAll_mk1 (shut_bool Try.underlying4 _), (trodAll_cons_mk (Go.ChangeMaps.shut_string Try.underlying9 w0) (trodAll_cons_mk (shut_int Try.underlying3 w1) (trodAll_cons_mk (shut_int Try.underlying5 w2) trodAll_mk0))), rfl, bel.frame _, fun h => by cases h⟩

theorem over : Rows.blobTurnedRow.holds Try.pinned (OpenSpec.ofChange Rows.blobTurnedSpec) :=
  OpenClaim.holds_of_wide 5 Try.f5 rfl rfl rfl rfl rfl rfl rfl ⟨rfl, rfl, rfl, rfl, rfl⟩ rfl rfl rfl rfl rfl (by kernel_rfl) Try.func5 (by kernel_rfl)
    (of_decide_eq_true (by kernel_rfl)) (by unfold Func.isWrapper; first | (rw [if_pos (by decide +kernel)]; kernel_rfl) | (rw [if_neg (by decide +kernel)]; exact ⟨rfl, rfl⟩))
    (fun os started H enc _ => lifted os started H enc)

/-- The statement. -/
theorem proved : Rows.BlobTurnedSaid := over
end Go.Proofs.Ytoladghpoddlgaa.blobTurned
