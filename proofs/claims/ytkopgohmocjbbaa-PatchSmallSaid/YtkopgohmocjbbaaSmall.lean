/- For every text and every two places and bytes: a patch has no byte at its ends that did not change, and all between two that changed. -/
import Derived.Test.YtkopgohmocjbbaaRows
import Derived.Test.YtkopgohmocjbbaaTurn
import Derived.Deep.RegionHeld3
import Derived.StillTailTactics
import Derived.BigQuiet
import Derived.Laws.MakeOwn
import Derived.Lib.Hide
import Derived.WalkKit
import Derived.ProofKit
import Derived.OpenShut
import Derived.ChangeOld
import Derived.Below
import Derived.Carry
namespace Go.Proofs.Ytkopgohmocjbbaa.patchSmall
open Go.ChangeShapes Go.WideShapes Go.ChangeAt Go.RowKit
set_option linter.unusedVariables false

theorem own : ownKnob Try.prog.godebug = none := by kernel_rfl
theorem laidOut : laidOutB Try.prog = true := by kernel_rfl


set_option maxRecDepth 100000 in
set_option maxHeartbeats 16000000 in
theorem walk (s : ByteArray) (x y u8 v8 : Int) (w : World) (ws : s.size ≤ maxLen) (wx : (Lit.int .i64 x).wf = true) (wy : (Lit.int .i64 y).wf = true) (wu : (Lit.int .u8 u8).wf = true) (wv : (Lit.int .u8 v8).wf = true) :
    Calls Try.prog 5 #[.string s, .int .i64 x, .int .i64 y, .int .u8 u8, .int .u8 v8] w fun e w' => e = .returned (.bool true) ∧ Below w.heap.size w w' := by
  obtain ⟨u, rfl⟩ := u8_of_int u8 wu
  obtain ⟨v, rfl⟩ := u8_of_int v8 wv
  clear wx wy wu wv
  by_cases c0 : (200 : Int) < s.size
  · as_aux_lemma =>
      have HB0 := Lib.hid (Below.refl w.heap.size w)
      have AL := Lib.hid alive_yes
      go_enter Try.func5, Try.ntmps5
      go_wp2_with fail
      refine (AL.out _).mono ?_; rintro e w1 ⟨rfl, hb⟩
      have HB1 := Lib.hid (HB0.out.trans (hb.mono (Below.size HB0.out)))
      clear hb HB0 
      go_wp2_with fail
      go_ret
      exact ⟨rfl, HB1.out⟩
  · by_cases c1 : (u.toNat : Int) = 0
    · as_aux_lemma =>
        have HB0 := Lib.hid (Below.refl w.heap.size w)
        have AL := Lib.hid alive_yes
        go_enter Try.func5, Try.ntmps5
        go_wp2_with fail
        refine (AL.out _).mono ?_; rintro e w1 ⟨rfl, hb⟩
        have HB1 := Lib.hid (HB0.out.trans (hb.mono (Below.size HB0.out)))
        clear hb HB0 
        go_wp2_with fail
        go_ret
        exact ⟨rfl, HB1.out⟩
    · by_cases c2 : (v.toNat : Int) = 0
      · as_aux_lemma =>
          have c1' : ((u.toNat : Int) == 0) = false := by rw [beq_eq_false_iff_ne]; exact c1
          have HB0 := Lib.hid (Below.refl w.heap.size w)
          have AL := Lib.hid alive_yes
          go_enter Try.func5, Try.ntmps5
          go_wp2_with fail
          refine (AL.out _).mono ?_; rintro e w1 ⟨rfl, hb⟩
          have HB1 := Lib.hid (HB0.out.trans (hb.mono (Below.size HB0.out)))
          clear hb HB0 
          go_wp2_with fail
          go_ret
          exact ⟨rfl, HB1.out⟩
      · obtain ⟨i, hi, hia⟩ := place x 256 (by omega) (by omega)
        obtain ⟨k, hk, hka⟩ := place y 256 (by omega) (by omega)
        have hia' : (wrap64 (x.tmod 256 + 256)).tmod 256 = (i : Int) := hia
        have hka' : (wrap64 (y.tmod 256 + 256)).tmod 256 = (k : Int) := hka
        clear hia hka
        have PG := Lib.hid (fun w => page_any s ws w)
        have hl := pageOf_length s.data.toList
        generalize pageOf s.data.toList = p at *
        clear ws
        have hu : u ≠ 0 := fun e => c1 (by rw [e]; rfl)
        have hv : v ≠ 0 := fun e => c2 (by rw [e]; rfl)
        have c1' : ((u.toNat : Int) == 0) = false := by rw [beq_eq_false_iff_ne]; exact c1
        have c2' : ((v.toNat : Int) == 0) = false := by rw [beq_eq_false_iff_ne]; exact c2
        by_cases hik : i = k
        · subst hik
          as_aux_lemma =>
            generalize str p = P at *
            clear hl hk hu hv
            have HB0 := Lib.hid (Below.refl w.heap.size w)
            have AL := Lib.hid alive_yes
            go_enter Try.func5, Try.ntmps5
            go_wp2_with fail
            refine (AL.out _).mono ?_; rintro e w1 ⟨rfl, hb⟩
            have HB1 := Lib.hid (HB0.out.trans (hb.mono (Below.size HB0.out)))
            clear hb HB0 
            go_wp2_with fail
            refine (PG.out _).mono ?_; rintro e w2 ⟨rfl, hb⟩
            have HB2 := Lib.hid (HB1.out.trans (hb.mono (Below.size HB1.out)))
            clear hb HB1 
            go_wp2_with fail
            go_ret
            exact ⟨rfl, HB2.out⟩
        · as_aux_lemma =>
            have hik' : ((i : Int) == (k : Int)) = false := by rw [beq_eq_false_iff_ne]; omega
            have hik2 : ¬ (i : Int) = (k : Int) := by omega
            obtain ⟨a, ha⟩ : ∃ a, p[i]? = some a := ⟨p[i]'(by omega), List.getElem?_eq_getElem _⟩
            obtain ⟨b, hb⟩ : ∃ b, p[k]? = some b := ⟨p[k]'(by omega), List.getElem?_eq_getElem _⟩
            have X1 := xor_u8 a u
            have X2 := xor_u8 b v
            have n1 := xor_ne (x := a) hu
            have n2 := xor_ne (x := b) hv
            generalize a ^^^ u = c at *
            generalize b ^^^ v = d at *
            have hbt := between_set (x := p) (c := c) (d := d) (by omega : i < p.length) (by omega : k < p.length) hik (by rw [ha]; exact fun e => n1 (Option.some.inj e)) (by rw [hb]; exact fun e => n2 (Option.some.inj e))
            have hq : ((p.set i c).set k d).length = 256 := by rw [List.length_set, List.length_set, hl]
            have hne : p ≠ (p.set i c).set k d := fun e => hbt.at1 (by rw [← e])
            have ho : okD 5 p ((p.set i c).set k d) = true := decide_eq_true ⟨by omega, hl, hq, hne⟩
            have DI := Lib.hid (fun w => diff_any 5 (str p) (str ((p.set i c).set k d)) (str_max _ hl) (str_max _ hq) w)
            rw [str_toList, str_toList, ho, show difS 5 p ((p.set i c).set k d) = dif 5 p ((p.set i c).set k d) by unfold difS; rw [ho]; rfl] at DI
            obtain ⟨el, eh⟩ := (between (hq.trans hl.symm) hne).same hbt
            have hsz := dif_size (page := 5) (hq.trans hl.symm) hne
            rw [el, eh] at hsz
            have hof : (dif 5 p ((p.set i c).set k d)).ofs = ((min i k : Nat) : Int) := by show ((lo _ _ : Nat) : Int) = _; rw [el]
            unfold pvP pv at DI
            rw [show (dif 5 p ((p.set i c).set k d)).pg = 5 from rfl, hof] at DI
            generalize (dif 5 p ((p.set i c).set k d)).bs = S at *
            obtain ⟨m, hm⟩ : ∃ m, m = min i k := ⟨_, rfl⟩
            obtain ⟨M, hM⟩ : ∃ M, M = max i k := ⟨_, rfl⟩
            rw [← hm] at DI hsz
            rw [← hM] at hsz
            have HM := Lib.hid (And.intro hm hM)
            have hS : (S.size : Int) = (M : Int) - (m : Int) + 1 := by omega
            clear hm hM hbt hne ho el eh hsz hof hu hv n1 n2 c1 c2
            have HL := Lib.hid hl
            have HQL := Lib.hid hq
            have HI := Lib.hid hi
            have HK := Lib.hid hk
            have HA := Lib.hid ha
            have HBB := Lib.hid hb
            have HIK := Lib.hid hik
            clear hl hq ha hb hik
            have i0 : (0 : Int) ≤ (i : Int) := by omega
            have i1 : (i : Int) < 256 := by omega
            have k0 : (0 : Int) ≤ (k : Int) := by omega
            have k1 : (k : Int) < 256 := by omega
            clear hi hk
            have HB0 := Lib.hid (Below.refl w.heap.size w)
            have AL := Lib.hid alive_yes
            go_enter Try.func5, Try.ntmps5
            go_wp2_with fail
            refine (AL.out _).mono ?_; rintro e w1 ⟨rfl, hb⟩
            have HB1 := Lib.hid (HB0.out.trans (hb.mono (Below.size HB0.out)))
            clear hb HB0 
            go_wp2_with fail
            refine (PG.out _).mono ?_; rintro e w2 ⟨rfl, hb⟩
            have HB2 := Lib.hid (HB1.out.trans (hb.mono (Below.size HB1.out)))
            clear hb HB1 
            have hcv := run_convB w2 (str p)
            have HIM := Lib.hid (img_conv w2 5 (str p))
            have H3 := Lib.hid (HB2.out.trans ((below_conv w2 5 (str p)).mono HB2.out.size))
            rw [show (str p).size = 256 by rw [str_size]; exact HL.out] at hcv
            rw [str_toList] at HIM
            have HBL := Lib.hid HB2.out.size
            generalize Lib.bytesWorld w2 5 (str p) = X at *
            generalize grownCap w2 256 0 5 = cp at *
            obtain ⟨B, hB⟩ : ∃ B, B = w2.heap.size := ⟨_, rfl⟩
            rw [← hB] at hcv HIM HBL
            have HIM2 := Lib.hid (HIM.out.set i (by rw [HL.out]; exact HI.out) c)
            have HIM3 := Lib.hid (HIM2.out.set k (by rw [List.length_set, HL.out]; exact HK.out) d)
            have y0 := HIM.out.2.1 i a HA.out
            have y1 := HIM.out.2.2 i (by rw [HL.out]; exact HI.out)
            have y2 := HIM2.out.2.1 k b (by rw [List.getElem?_set_ne HIK.out]; exact HBB.out)
            have y3 := HIM2.out.2.2 k (by rw [List.length_set, HL.out]; exact HK.out)
            have H5 := Lib.hid ((H3.out.setCell (p := ⟨B, i, none⟩) HBL.out (.int .u8 (c.toNat : Int))).setCell (p := ⟨B, k, none⟩) HBL.out (.int .u8 (d.toNat : Int)))
            have hcv2 := run_backB HIM3.out 256 cp HQL.out
            clear hB
            generalize str ((p.set i c).set k d) = Q at *
            generalize str p = P at *
            go_wp2_with fail
            generalize (X.setCell ⟨B, i, none⟩ (.int .u8 (c.toNat : Int))).setCell ⟨B, k, none⟩ (.int .u8 (d.toNat : Int)) = X3 at *
            refine (DI.out _).mono ?_; rintro e w3 ⟨rfl, hb⟩
            have HB4 := Lib.hid (H5.out.trans (hb.mono (Below.size H5.out)))
            clear hb
            have HF := Lib.hid (HB4.out.alloc HB4.out.size (.cells #[.int .i64 5, .int .i64 (m : Int), .string S] 26))
            clear y0 y1 y2 y3 hcv2 HIM HIM2 HIM3 H5 H3 HB4 X1 X2 hcv
            by_cases hlt : i < k
            · have l1 : min (i : Int) (k : Int) = (i : Int) := by omega
              have l2 : max (i : Int) (k : Int) = (k : Int) := by omega
              have hmm := HM.out
              obtain rfl : i = m := by omega
              obtain rfl : k = M := by omega
              clear hmm HM
              have e1 : IntKind.i64.wrap ((k : Int) - (i : Int)) = (k : Int) - (i : Int) := IntWalk.i64_in _ (by omega)
              have e2 : IntKind.i64.wrap ((k : Int) - (i : Int) + 1) = (k : Int) - (i : Int) + 1 := IntWalk.i64_in _ (by omega)
              go_wp2_with fail
              go_ret
              exact ⟨rfl, HF.out⟩
            · have hgt : k < i := by have := HIK.out; omega
              have l1 : min (i : Int) (k : Int) = (k : Int) := by omega
              have l2 : max (i : Int) (k : Int) = (i : Int) := by omega
              have hmm := HM.out
              obtain rfl : k = m := by omega
              obtain rfl : i = M := by omega
              clear hmm HM
              have e1 : IntKind.i64.wrap ((i : Int) - (k : Int)) = (i : Int) - (k : Int) := IntWalk.i64_in _ (by omega)
              have e2 : IntKind.i64.wrap ((i : Int) - (k : Int) + 1) = (i : Int) - (k : Int) + 1 := IntWalk.i64_in _ (by omega)
              go_wp2_with fail
              go_ret
              exact ⟨rfl, HF.out⟩

/-! The row's step. -/
set_option maxRecDepth 100000 in
theorem lifted (os : Os) (started : os.Started) (H : Type) (enc : TypeId × Value → H) :
    ReturnsInHanded {} Try.checked os 5 .any (Rows.patchSmallSpec.pre6 enc Try.prog Try.f5 Rows.patchSmallRow.domain false) (Rows.patchSmallSpec.post enc Try.prog Try.f5 false true false false) := by
  refine returnsInHanded_of_change (C := Try.checked) own started (by kernel_rfl) Try.func5
    (ChangeSpec.witness6 (enc := enc) (C := Try.checked) false ⟨#[], #[.string ByteArray.empty, .int .i64 0, .int .i64 0, .int .u8 0, .int .u8 0], []⟩ 8 (by kernel_rfl) (by kernel_rfl) (by kernel_rfl) (by kernel_rfl)) ?_
  intro W base args ds gs before hval0 hW hcnd _
  have hval : ∀ (j : Nat) t v, Try.f5.params[j]? = some t → args[j]? = some v → Value.okWide Try.prog W .any base t v := hval0
  have hW' := hW
  obtain ⟨p, q, hA0, hV, rfl, hfz, hnd⟩ := hW
  have hA : DataW.TrodAll enc Try.prog W 0 (fun _ => true) true Try.f5.params.toList args.toList ds p := hA0
  rw [Try.params5] at hA hval
  obtain ⟨v0, vs0, d0, ds0, p0, q0, hargs, rfl, rfl, h0, r0⟩ := trodAll_cons hA
  obtain ⟨v1, vs1, d1, ds1, p1, q1, rfl, rfl, rfl, h1, r1⟩ := trodAll_cons r0
  obtain ⟨v2, vs2, d2, ds2, p2, q2, rfl, rfl, rfl, h2, r2⟩ := trodAll_cons r1
  obtain ⟨v3, vs3, d3, ds3, p3, q3, rfl, rfl, rfl, h3, r3⟩ := trodAll_cons r2
  obtain ⟨v4, vs4, d4, ds4, p4, q4, rfl, rfl, rfl, h4, r4⟩ := trodAll_cons r3
  obtain ⟨rfl, rfl, rfl⟩ := trodAll_nil r4
  obtain rfl : args = #[v0, v1, v2, v3, v4] := by cases args; simp_all
  obtain ⟨rfl, rfl⟩ := trodVars_none hV
  obtain ⟨a0, rfl, rfl, rfl, w0⟩ := Go.ChangeMaps.open_string Try.underlying9 (hval 0 9 v0 rfl rfl) h0
  obtain ⟨a1, rfl, rfl, rfl, w1⟩ := open_int Try.underlying3 (hval 1 3 v1 rfl rfl) h1
  obtain ⟨a2, rfl, rfl, rfl, w2⟩ := open_int Try.underlying3 (hval 2 3 v2 rfl rfl) h2
  obtain ⟨a3, rfl, rfl, rfl, w3⟩ := open_int Try.underlying5 (hval 3 5 v3 rfl rfl) h3
  obtain ⟨a4, rfl, rfl, rfl, w4⟩ := open_int Try.underlying5 (hval 4 5 v4 rfl rfl) h4
  clear hA0 hval0
  refine (walk a0 a1 a2 a3 a4 W w0 w1 w2 w3 w4).mono fun e W' ⟨he, bel⟩ => ?_
  subst he
  exact ⟨_, rfl, _, _, _, [], _, [], hW', trodAll_mk1 (shut_bool Try.underlying4 _), (trodAll_cons_mk (Go.ChangeMaps.shut_string Try.underlying9 w0) (trodAll_cons_mk (shut_int Try.underlying3 w1) (trodAll_cons_mk (shut_int Try.underlying3 w2) (trodAll_cons_mk (shut_int Try.underlying5 w3) (trodAll_cons_mk (shut_int Try.underlying5 w4) trodAll_mk0))))), rfl, bel.frame _, fun h => by cases h⟩

theorem over : Rows.patchSmallRow.holds Try.pinned (OpenSpec.ofChange Rows.patchSmallSpec) :=
  OpenClaim.holds_of_wide 5 Try.f5 rfl rfl rfl rfl rfl rfl rfl ⟨rfl, rfl, rfl, rfl, rfl⟩ rfl rfl rfl rfl rfl (by kernel_rfl) Try.func5 (by kernel_rfl)
    (of_decide_eq_true (by kernel_rfl)) (by unfold Func.isWrapper; first | (rw [if_pos (by decide +kernel)]; kernel_rfl) | (rw [if_neg (by decide +kernel)]; exact ⟨rfl, rfl⟩))
    (fun os started H enc _ => lifted os started H enc)

/-- The statement. -/
theorem proved : Rows.PatchSmallSaid := over
end Go.Proofs.Ytkopgohmocjbbaa.patchSmall
