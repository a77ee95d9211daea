/- A log begins with a Fresh sector; zeros are none. -/
import Derived.Test.YtbdpmfgphhgigaaRows
import Derived.Test.YtbdpmfgphhgigaaMake
import Derived.Deep.RegionHeld3
import Derived.Deep.QuietTactic
import Derived.LoopTactic
import Derived.StillTailTactics
import Derived.BigQuiet
import Derived.Deep.DeepCutAuto
import Derived.Deep.RegionLaw
import Derived.Deep.CutBlock
import Derived.Lib.Hide
import Derived.WalkKit
import Derived.ProofKit
import Derived.OpenShut
import Derived.ChangeOld
import Derived.Below
import Derived.Carry
namespace Go.Proofs.Ytbdpmfgphhgigaa.frameBegins
open Go.ChangeShapes Go.WideShapes Go.ChangeAt Go.RowKit
set_option linter.unusedVariables false

theorem own : ownKnob Try.prog.godebug = none := by kernel_rfl
theorem laidOut : laidOutB Try.prog = true := by kernel_rfl


set_option maxRecDepth 100000 in
set_option maxHeartbeats 100000000 in
theorem walk (a0 : ByteArray) (a1 : Int) (w : World) (w0 : a0.size ≤ maxLen) (w1i : (Lit.int .i64 a1).wf = true) :
    Calls Try.prog 10 #[.string a0, .int .i64 a1] w fun e w' => e = .returned (.bool true) ∧ Below w.heap.size w w' := by
  have AL := Lib.hid alive_yes
  obtain ⟨p, rfl⟩ : ∃ p, a0 = str p := ⟨a0.data.toList, rfl⟩
  have hsz : (str p).size = p.length := rfl
  have htl : (str p).toList = p := by rw [Lib.toList_data, str_toList]
  have HTL := Lib.hid htl
  by_cases d1 : p = []
  · as_aux_lemma =>
      have i1 : (str p).toList = [] := by rw [HTL.out]; exact d1
      have i2 : (str p).toList.isEmpty = true := by rw [i1]; rfl
      clear htl d1
      have HB0 := Lib.hid (Below.refl w.heap.size w)
      go_enter Try.func10, Try.ntmps10
      go_wp2_with fail
      refine (AL.out _).mono ?_; rintro e w1 ⟨rfl, hb⟩
      have HB1 := Lib.hid (HB0.out.trans (hb.mono HB0.out.size))
      clear hb HB0
      go_wp2_with fail
      go_ret
      exact ⟨by trivial, HB1.out⟩
  · skip
    have i1 : ¬ (str p).toList = [] := by rw [HTL.out]; exact d1
    have i2 : (str p).toList.isEmpty = false := by cases h : (str p).toList <;> simp_all
    have hp0 : 1 ≤ p.length := by cases p with
                                    | nil => exact absurd rfl d1
                                    | cons a b => simp
    clear htl d1
    by_cases d2 : 56 < p.length
    · as_aux_lemma =>
        have i3 : (56 : Int) < (p.length : Int) := by omega
        have HB0 := Lib.hid (Below.refl w.heap.size w)
        go_enter Try.func10, Try.ntmps10
        go_wp2_with fail
        refine (AL.out _).mono ?_; rintro e w1 ⟨rfl, hb⟩
        have HB1 := Lib.hid (HB0.out.trans (hb.mono HB0.out.size))
        clear hb HB0
        go_wp2_with fail
        go_ret
        exact ⟨by trivial, HB1.out⟩
    · skip
      have i3 : ¬ (56 : Int) < (p.length : Int) := by omega
      by_cases d3 : a1 < 0
      · as_aux_lemma =>
          have HB0 := Lib.hid (Below.refl w.heap.size w)
          go_enter Try.func10, Try.ntmps10
          go_wp2_with fail
          refine (AL.out _).mono ?_; rintro e w1 ⟨rfl, hb⟩
          have HB1 := Lib.hid (HB0.out.trans (hb.mono HB0.out.size))
          clear hb HB0
          go_wp2_with fail
          go_ret
          exact ⟨by trivial, HB1.out⟩
      · skip
        by_cases d4 : 20 < a1
        · as_aux_lemma =>
            have HB0 := Lib.hid (Below.refl w.heap.size w)
            go_enter Try.func10, Try.ntmps10
            go_wp2_with fail
            refine (AL.out _).mono ?_; rintro e w1 ⟨rfl, hb⟩
            have HB1 := Lib.hid (HB0.out.trans (hb.mono HB0.out.size))
            clear hb HB0
            go_wp2_with fail
            go_ret
            exact ⟨by trivial, HB1.out⟩
        · skip
          obtain ⟨n, rfl⟩ : ∃ n : Nat, a1 = (n : Int) := ⟨a1.toNat, by omega⟩
          have hn20 : n ≤ 20 := by omega
          have hx : okX ⟨1, 0, false, p⟩ = true := okX_iff.2 ⟨by dsimp only; omega, by dsimp only; omega, by dsimp only; omega, by dsimp only; omega, by dsimp only; omega, by dsimp only; omega⟩
          have PU := Lib.hid (fun w => put_ok ⟨1, 0, false, p⟩ (by unfold rng; dsimp only; omega) hx w)
          unfold PutP sv at PU
          rw [hx, putX_yes hx] at PU
          dsimp only at PU
          have HE := Lib.hid (encX_length (okX_iff.1 hx).2.2.2.2.2)
          have HSC := Lib.hid (fun m => scan_begins (m := m) hx rfl)
          generalize encX ⟨1, 0, false, p⟩ = enc at *
          as_aux_lemma =>
            have HB0 := Lib.hid (Below.refl w.heap.size w)
            go_enter Try.func10, Try.ntmps10
            go_wp2_with fail
            refine (AL.out _).mono ?_; rintro e w1 ⟨rfl, hb⟩
            have HB1 := Lib.hid (HB0.out.trans (hb.mono HB0.out.size))
            clear hb HB0
            go_wp2_with fail
            refine (PU.out _).mono ?_; rintro e w2 ⟨rfl, hb⟩
            have HB2 := Lib.hid (HB1.out.trans (hb.mono HB1.out.size))
            clear hb HB1
            have TL := Txt.lit w2 [enc, enc] #[.string (str enc), .string (str enc)] rfl (fun x hx => by
              simp only [List.mem_cons, List.not_mem_nil, or_false] at hx
              rcases hx with rfl | rfl <;> (rw [HE.out]; unfold maxLen; omega)) (by simp; unfold maxLen; omega) w2.heap.size rfl
            have SC := Lib.hid (scan_list (c := 2) TL (by rw [World.size_alloc]; exact Nat.le_refl _) (by simp))
            rw [HSC.out] at SC
            have HA := Lib.hid (HB2.out.alloc HB2.out.size (.cells #[.string (str enc), .string (str enc)] 9))
            clear TL HB2 PU HSC
            go_wp2_with fail
            refine SC.out.mono ?_; rintro e y1 ⟨Y1, f1, rfl, ho, hb⟩
            have HB := Lib.hid (HA.out.trans (hb.mono HA.out.size))
            clear ho hb SC HA
            obtain ⟨y2, hmk, hTab, hb2⟩ := make_tab n (by omega) y1
            have HB2 := Lib.hid (HB.out.trans (hb2.mono HB.out.size))
            have HT := Lib.hid hTab
            have HY1 := Lib.hid HB.out.size
            clear hTab hb2 HB
            generalize y1.heap.size = g at *
            go_wp2_with fail
            clear hmk
            go_loopw [53] (fun x wr => ∃ k : Nat, k ≤ n ∧ x = .int .i64 k ∧ Hid (Tab wr g (List.replicate k (zs 64) ++ List.replicate (n - k) []) ∧ Below w.heap.size w wr)) (fun x _ => n - (intOf x).toNat)
            case atStart => exact ⟨0, Nat.zero_le _, rfl, by rw [List.replicate_zero, List.nil_append, Nat.sub_zero]; exact HT.out, HB2.out⟩
            case round =>
              obtain ⟨k, hk, rfl, hq⟩ := hrel
              have HQ := Lib.hid hq.out.1
              have HW := Lib.hid hq.out.2
              clear hq HT HB2
              have b0 : (0 : Int) ≤ (k : Int) := by omega
              by_cases hlt : k < n
              · have b1 : (k : Int) < (n : Int) := by omega
                obtain ⟨y3, hm2, hcv, hb3⟩ := make_str 64 (by omega) wr
                have hm3 : (Instr.makeSlice 46 (.int .i64 64) (.int .i64 64)).run Try.prog wr = .ok (.slice (some ⟨wr.heap.size, 0, none⟩) 64 64) y3 := hm2
                have HT3 := Lib.hid (HQ.out.held hb3)
                have hlen : (List.replicate k (zs 64) ++ List.replicate (n - k) []).length = n := by simp; omega
                have z1 := HT3.out.cell (k := k) (by rw [hlen]; exact hlt)
                have z2 := HT3.out.free k
                have HN := Lib.hid (show Tab (y3.setCell ⟨g, k, none⟩ (.string (str (zs 64)))) g (List.replicate (k + 1) (zs 64) ++ List.replicate (n - (k + 1)) []) from by
                  rw [← rep_set hlt rfl]; exact HT3.out.set k _)
                have HN2 := Lib.hid ((HW.out.trans (hb3.mono HW.out.size)).setCell (p := ⟨g, k, none⟩) HY1.out (.string (str (zs 64))))
                generalize str (zs 64) = z at *
                clear hb3 hm2 HQ HT3 HW
                go_wp2_with fail
                go_roundw
                case rel => exact ⟨k + 1, by omega, by go_num, HN.out, HN2.out⟩
                case measure => simp [intOf] <;> omega
              · obtain rfl : k = n := by omega
                have b1 : ¬ (k : Int) < (k : Int) := by omega
                have hq := HQ.out
                rw [Nat.sub_self, List.replicate_zero, List.append_nil] at hq
                have TT := hq.txt (fun x hx => by rw [(List.mem_replicate.1 hx).2, zs_length]; unfold maxLen; omega) (by rw [List.length_replicate]; unfold maxLen; omega)
                rw [List.length_replicate] at TT
                have S2 := Lib.hid (scan_list (c := k) TT (Nat.le_refl _) (by omega))
                rw [scan_none zs_none] at S2
                clear TT hq HQ
                go_wp2_with fail
                refine S2.out.mono ?_; rintro e y4 ⟨Y4, f4, rfl, ho, hb⟩
                have HF := Lib.hid (HW.out.trans (hb.mono HW.out.size))
                clear ho hb S2 HW
                go_wp2_with fail
                go_ret
                exact ⟨by trivial, HF.out⟩

/-! The row's step. -/
set_option maxRecDepth 100000 in
theorem lifted (os : Os) (started : os.Started) (H : Type) (enc : TypeId × Value → H) :
    ReturnsInHanded {} Try.checked os 10 .any (Rows.frameBeginsSpec.pre6 enc Try.prog Try.f10 Rows.frameBeginsRow.domain false) (Rows.frameBeginsSpec.post enc Try.prog Try.f10 false true false false) := by
  refine returnsInHanded_of_change (C := Try.checked) own started (by kernel_rfl) Try.func10
    (ChangeSpec.witness6 (enc := enc) (C := Try.checked) false ⟨#[], #[.string ByteArray.empty, .int .i64 0], []⟩ 8 (by kernel_rfl) (by kernel_rfl) (by kernel_rfl) (by kernel_rfl)) ?_
  intro W base args ds gs before hval0 hW hcnd _
  have hval : ∀ (j : Nat) t v, Try.f10.params[j]? = some t → args[j]? = some v → Value.okWide Try.prog W .any base t v := hval0
  have hW' := hW
  obtain ⟨p, q, hA0, hV, rfl, hfz, hnd⟩ := hW
  have hA : DataW.TrodAll enc Try.prog W 0 (fun _ => true) true Try.f10.params.toList args.toList ds p := hA0
  rw [Try.params10] at hA hval
  obtain ⟨v0, vs0, d0, ds0, p0, q0, hargs, rfl, rfl, h0, r0⟩ := trodAll_cons hA
  obtain ⟨v1, vs1, d1, ds1, p1, q1, rfl, rfl, rfl, h1, r1⟩ := trodAll_cons r0
  obtain ⟨rfl, rfl, rfl⟩ := trodAll_nil r1
  obtain rfl : args = #[v0, v1] := by cases args; simp_all
  obtain ⟨rfl, rfl⟩ := trodVars_none hV
  obtain ⟨a0, rfl, rfl, rfl, w0⟩ := Go.ChangeMaps.open_string Try.underlying9 (hval 0 9 v0 rfl rfl) h0
  obtain ⟨a1, rfl, rfl, rfl, w1⟩ := open_int Try.underlying3 (hval 1 3 v1 rfl rfl) h1
  clear hA0 hval0
  refine (walk a0 a1 W w0 w1).mono fun e W' ⟨he, bel⟩ => ?_
  subst he
  exact ⟨_, rfl, _, _, _, [], _, [], hW', trodAll_mk1 (shut_bool Try.underlying4 _), (trodAll_cons_mk (Go.ChangeMaps.shut_string Try.underlying9 w0) (trodAll_cons_mk (shut_int Try.underlying3 w1) trodAll_mk0)), rfl, bel.frame _, fun h => by cases h⟩

theorem over : Rows.frameBeginsRow.holds Try.pinned (OpenSpec.ofChange Rows.frameBeginsSpec) :=
  OpenClaim.holds_of_wide 10 Try.f10 rfl rfl rfl rfl rfl rfl rfl ⟨rfl, rfl, rfl, rfl, rfl⟩ rfl rfl rfl rfl rfl (by kernel_rfl) Try.func10 (by kernel_rfl)
    (of_decide_eq_true (by kernel_rfl)) (by unfold Func.isWrapper; first | (rw [if_pos (by decide +kernel)]; kernel_rfl) | (rw [if_neg (by decide +kernel)]; exact ⟨rfl, rfl⟩))
    (fun os started H enc _ => lifted os started H enc)

/-- The statement. -/
theorem proved : Rows.FrameBeginsSaid := over
end Go.Proofs.Ytbdpmfgphhgigaa.frameBegins
