/- Of a batch just the first sector is Fresh; all but the last are full; their indices rise by one. -/
import Derived.Test.YtbdpmfgphhgigaaRows
import Derived.Test.YtbdpmfgphhgigaaBase
import Derived.Deep.RegionHeld3
import Derived.Deep.QuietTactic
import Derived.LoopTactic
import Derived.StillTailTactics
import Derived.BigQuiet
import Derived.Deep.DeepCutAuto
import Derived.Deep.RegionLaw
import Derived.Deep.CutBlock
import Derived.Lib.Hide
import Derived.WalkKit
import Derived.SizedLaws
import Derived.ProofKit
import Derived.OpenShut
import Derived.ChangeOld
import Derived.Below
import Derived.Carry
namespace Go.Proofs.Ytbdpmfgphhgigaa.frameBatch
open Go.ChangeShapes Go.WideShapes Go.ChangeAt Go.RowKit
set_option linter.unusedVariables false

theorem own : ownKnob Try.prog.godebug = none := by kernel_rfl
theorem laidOut : laidOutB Try.prog = true := by kernel_rfl


set_option maxRecDepth 100000 in
set_option maxHeartbeats 100000000 in
theorem walk (A0 : Option Addr) (n0 c0 : Nat) (l0 : List BA) (a1 : Int) (a2 : Int) (w : World) (w0t : Txt w.heap.size w A0 n0 l0) (s0 : ∀ x ∈ l0, x.length ≤ 140737488351232) (w1i : (Lit.int .i64 a1).wf = true) (w2i : (Lit.int .i64 a2).wf = true) :
    Calls Try.prog 7 #[.slice A0 n0 c0, .int .i64 a1, .int .i64 a2] w fun e w' => e = .returned (.bool true) ∧ Below w.heap.size w w' := by
  have AL := Lib.hid alive_yes
  have F0 := Lib.hid (fun w' (hb : Below w.heap.size w w') => few_b (c := c0) w' (w0t.kept hb) s0)
  cases hf0 : fewB l0 with
  | false =>
    rw [hf0] at F0
    as_aux_lemma =>
      have HB0 := Lib.hid (Below.refl w.heap.size w)
      go_enter Try.func7, Try.ntmps7
      go_wp2_with fail
      refine (F0.out _ HB0.out).mono ?_; rintro e w1 ⟨rfl, hb⟩
      have HB1 := Lib.hid (HB0.out.trans (hb.mono HB0.out.size))
      clear hb HB0
      go_wp2_with fail
      refine (AL.out _).mono ?_; rintro e w2 ⟨rfl, hb⟩
      have HB2 := Lib.hid (HB1.out.trans (hb.mono HB1.out.size))
      clear hb HB1
      go_wp2_with fail
      go_ret
      exact ⟨by trivial, HB2.out⟩
  | true =>
    rw [hf0] at F0
    by_cases d1 : a1 < 1
    · as_aux_lemma =>
        have HB0 := Lib.hid (Below.refl w.heap.size w)
        go_enter Try.func7, Try.ntmps7
        go_wp2_with fail
        refine (F0.out _ HB0.out).mono ?_; rintro e w1 ⟨rfl, hb⟩
        have HB1 := Lib.hid (HB0.out.trans (hb.mono HB0.out.size))
        clear hb HB0
        go_wp2_with fail
        refine (AL.out _).mono ?_; rintro e w2 ⟨rfl, hb⟩
        have HB2 := Lib.hid (HB1.out.trans (hb.mono HB1.out.size))
        clear hb HB1
        go_wp2_with fail
        go_ret
        exact ⟨by trivial, HB2.out⟩
    · skip
      by_cases d2 : 1000 < a1
      · as_aux_lemma =>
          have HB0 := Lib.hid (Below.refl w.heap.size w)
          go_enter Try.func7, Try.ntmps7
          go_wp2_with fail
          refine (F0.out _ HB0.out).mono ?_; rintro e w1 ⟨rfl, hb⟩
          have HB1 := Lib.hid (HB0.out.trans (hb.mono HB0.out.size))
          clear hb HB0
          go_wp2_with fail
          refine (AL.out _).mono ?_; rintro e w2 ⟨rfl, hb⟩
          have HB2 := Lib.hid (HB1.out.trans (hb.mono HB1.out.size))
          clear hb HB1
          go_wp2_with fail
          go_ret
          exact ⟨by trivial, HB2.out⟩
      · skip
        by_cases d3 : a2 < 0
        · as_aux_lemma =>
            have HB0 := Lib.hid (Below.refl w.heap.size w)
            go_enter Try.func7, Try.ntmps7
            go_wp2_with fail
            refine (F0.out _ HB0.out).mono ?_; rintro e w1 ⟨rfl, hb⟩
            have HB1 := Lib.hid (HB0.out.trans (hb.mono HB0.out.size))
            clear hb HB0
            go_wp2_with fail
            refine (AL.out _).mono ?_; rintro e w2 ⟨rfl, hb⟩
            have HB2 := Lib.hid (HB1.out.trans (hb.mono HB1.out.size))
            clear hb HB1
            go_wp2_with fail
            go_ret
            exact ⟨by trivial, HB2.out⟩
        · skip
          by_cases d4 : 1000 < a2
          · as_aux_lemma =>
              have HB0 := Lib.hid (Below.refl w.heap.size w)
              go_enter Try.func7, Try.ntmps7
              go_wp2_with fail
              refine (F0.out _ HB0.out).mono ?_; rintro e w1 ⟨rfl, hb⟩
              have HB1 := Lib.hid (HB0.out.trans (hb.mono HB0.out.size))
              clear hb HB0
              go_wp2_with fail
              refine (AL.out _).mono ?_; rintro e w2 ⟨rfl, hb⟩
              have HB2 := Lib.hid (HB1.out.trans (hb.mono HB1.out.size))
              clear hb HB1
              go_wp2_with fail
              go_ret
              exact ⟨by trivial, HB2.out⟩
          · skip
            have h20 := (few_strm hf0).1
            have h15 := (few_strm hf0).2.2
            have BA := Lib.hid (fun w' (hb : Below w.heap.size w w') => batch_few (c := c0) a1 a2 (by unfold rng; omega) (by unfold rng; omega) (w0t.kept hb) hb.size hf0)
            have CO := Lib.hid (fun w' (hb : Below w.heap.size w w') => count_b (c := c0) w' (w0t.kept hb) (by rw [← w0t.1]; omega))
            cases hs : strmOk l0 with
            | false =>
              have hno : batOk a1 a2 l0 = false := by unfold batOk; rw [hs]; rfl
              have hc0 : cntB l0 = 0 := by unfold cntB; rw [hs]; rfl
              rw [hno, bat_no hno] at BA
              rw [hc0] at CO
              as_aux_lemma =>
                have HB0 := Lib.hid (Below.refl w.heap.size w)
                go_enter Try.func7, Try.ntmps7
                go_wp2_with fail
                refine (F0.out _ HB0.out).mono ?_; rintro e w1 ⟨rfl, hb⟩
                have HB1 := Lib.hid (HB0.out.trans (hb.mono HB0.out.size))
                clear hb HB0
                go_wp2_with fail
                refine (AL.out _).mono ?_; rintro e w2 ⟨rfl, hb⟩
                have HB2 := Lib.hid (HB1.out.trans (hb.mono HB1.out.size))
                clear hb HB1
                go_wp2_with fail
                refine (BA.out _ HB2.out).mono ?_; rintro e w3 ⟨X1, g1, rfl, ht, ho, hb⟩
                have HB3 := Lib.hid (HB2.out.trans (hb.mono HB2.out.size))
                have HT1 := Lib.hid ht
                clear ht ho
                clear hb HB2
                go_wp2_with fail
                refine (CO.out _ HB3.out).mono ?_; rintro e w4 ⟨rfl, hb⟩
                have HB4 := Lib.hid (HB3.out.trans (hb.mono HB3.out.size))
                clear hb HB3
                go_wp2_with fail
                go_ret
                exact ⟨by trivial, HB4.out⟩
            | true =>
              have hcn := cnt_np hs
              have hyes : batOk a1 a2 l0 = true := bat_in hs ⟨by omega, by omega⟩ (by omega) (by unfold npX; omega)
              have HNP0 := batB_length hyes
              have HSX := Lib.hid (fun i (h : i < npX (strmB l0)) => (batOk_iff.1 hyes).2 i h)
              have HGD := Lib.hid (fun i (h : i < npX (strmB l0)) => show (batB a1 a2 l0).getD i [] = encX (secX a1 a2 (strmB l0) i) from by rw [List.getD_eq_getElem?_getD, batB_at hyes h]; rfl)
              rw [hyes] at BA
              have hN28 : npX (strmB l0) ≤ 28 := by unfold npX; omega
              rw [← hcn] at HSX HGD hN28 HNP0
              rw [HNP0] at BA
              have HNP := Lib.hid hcn
              have HCN := Lib.hid (show cntB l0 = cntB l0 from rfl)
              clear hcn HNP0
              generalize hN : cntB l0 = N at *
              replace HNP : Hid (N = npX (strmB l0)) := HNP
              have HCN := Lib.hid hN
              clear hN hyes hs
              have HB0 := Lib.hid (Below.refl w.heap.size w)
              go_enter Try.func7, Try.ntmps7
              go_wp2_with fail
              refine (F0.out _ HB0.out).mono ?_; rintro e w1 ⟨rfl, hb⟩
              have HB1 := Lib.hid (HB0.out.trans (hb.mono HB0.out.size))
              clear hb HB0
              go_wp2_with fail
              refine (AL.out _).mono ?_; rintro e w2 ⟨rfl, hb⟩
              have HB2 := Lib.hid (HB1.out.trans (hb.mono HB1.out.size))
              clear hb HB1
              go_wp2_with fail
              refine (BA.out _ HB2.out).mono ?_; rintro e w3 ⟨X1, g1, rfl, ht, ho, hb⟩
              have HB3 := Lib.hid (HB2.out.trans (hb.mono HB2.out.size))
              have HT1 := Lib.hid ht
              clear ht ho
              clear hb HB2
              go_wp2_with fail
              have HSL := Lib.hid w0t
              go_loopw [9, 53] (fun m x wr => ∃ i : Nat, i ≤ N ∧ x = .int .i64 i ∧ m = .int .i64 (((strmB l0).take (56 * i)).length : Nat) ∧ Hid (Below w.heap.size w wr ∧ Below w3.heap.size w3 wr)) (fun _ x _ => N - (intOf x).toNat)
              case atStart => exact ⟨0, Nat.zero_le _, rfl, rfl, HB3.out, Below.refl _ _⟩
              case round =>
                obtain ⟨i, hi, rfl, rfl, hq⟩ := hrel
                have HQ := Lib.hid hq.out.1
                have HQ2 := Lib.hid hq.out.2
                clear hq HB3
                have b0 : (0 : Int) ≤ (i : Int) := by omega
                by_cases hlt : i < N
                · have b1 : (i : Int) < (N : Int) := by omega
                  obtain ⟨bl, ol, rfl, hbl, cl, -⟩ := HT1.out.2.2 i hlt
                  have c1 : wr.cell? ⟨bl, ol + i, none⟩ = _ := cell_kept HQ2.out hbl cl
                  have hsx := HSX.out i hlt
                  have hgd := HGD.out i hlt
                  rw [hgd] at c1
                  obtain ⟨se, hse⟩ : ∃ s, s = str (encX (secX a1 a2 (strmB l0) i)) := ⟨_, rfl⟩
                  rw [← hse] at c1
                  have GE := Lib.hid (fun w => get_any (encX (secX a1 a2 (strmB l0) i)) (by rw [encX_length (okX_iff.1 hsx).2.2.2.2.2]; unfold maxLen; omega) w)
                  unfold GetP sv at GE
                  rw [gotX_enc hsx, getOkX_enc hsx, ← hse] at GE
                  clear hse
                  unfold secX at GE
                  dsimp only at GE
                  have hpl := piece_length (strmB l0) i
                  have hp56 := (piece_ok (s := strmB l0) (k := i) (by rw [← HNP.out]; exact hlt)).2
                  have HTK := Lib.hid (show ((strmB l0).take (56 * (i + 1))).length = ((strmB l0).take (56 * i)).length + (pieceX (strmB l0) i).length from by rw [← take_piece, List.length_append])
                  have htk : ((strmB l0).take (56 * i)).length ≤ 1540 := by rw [List.length_take]; omega
                  have hful : i + 1 < N → (pieceX (strmB l0) i).length = 56 := fun h => by
                    have h2 := HNP.out
                    unfold npX at h2
                    rw [hpl]; omega
                  have hps : (str (pieceX (strmB l0) i)).size = (pieceX (strmB l0) i).length := rfl
                  obtain ⟨fr, hfr⟩ : ∃ fr, fr = decide (i = 0) := ⟨_, rfl⟩
                  have r1 : ((i : Int) == 0) = fr := by rw [hfr]; by_cases h0 : i = 0 <;> simp [h0]
                  have r2 : decide ((i : Int) = 0) = fr := by rw [hfr]; by_cases h0 : i = 0 <;> simp [h0]
                  rw [← hfr] at GE
                  have e1 : IntKind.i64.wrap (a2 + (i : Int)) = a2 + (i : Int) := IntWalk.i64_in _ (by omega)
                  have e2 : IntKind.i64.wrap ((N : Int) - 1) = (N : Int) - 1 := IntWalk.i64_in _ (by omega)
                  have e3 : IntKind.i64.wrap ((((strmB l0).take (56 * i)).length : Int) + ((pieceX (strmB l0) i).length : Int)) = (((strmB l0).take (56 * i)).length : Int) + ((pieceX (strmB l0) i).length : Int) := IntWalk.i64_in _ (by omega)
                  generalize ((strmB l0).take (56 * i)).length = tk at *
                  generalize (pieceX (strmB l0) i).length = pz at *
                  generalize str (pieceX (strmB l0) i) = sp at *
                  have HX2 := Lib.hid (fun (w : World) => Bx.new w #[.int .i64 a1, .int .i64 (a2 + (i : Int)), .bool fr, .string sp] 40)
                  clear hfr hsx hgd cl hpl
                  by_cases hin : i + 1 < N
                  · have h56 := hful hin
                    have b3 : (i : Int) < (N : Int) - 1 := by omega
                    have b4 : ((pz : Int) == 56) = true := by rw [h56]; rfl
                    have b5 : (pz : Int) = 56 := by omega
                    clear hful
                    subst h56
                    as_aux_lemma =>
                      go_wp2_with fail
                      refine (GE.out _).mono ?_; rintro e y1 ⟨rfl, hb⟩
                      have HY := Lib.hid ((HQ.out.trans (hb.mono HQ.out.size)).alloc (Nat.le_trans HQ.out.size hb.size) (.cells #[.int .i64 a1, .int .i64 (a2 + (i : Int)), .bool fr, .string sp] 40))
                      have HY2 := Lib.hid ((HQ2.out.trans (hb.mono HQ2.out.size)).alloc (Nat.le_trans HQ2.out.size hb.size) (.cells #[.int .i64 a1, .int .i64 (a2 + (i : Int)), .bool fr, .string sp] 40))
                      clear hb GE
                      go_wp2_with fail
                      go_roundw
                      case rel => exact ⟨i + 1, by omega, by go_num, congrArg (Value.int .i64) (by rw [HTK.out]; omega), HY.out, HY2.out⟩
                      case measure => simp [intOf] <;> omega
                  · have b3 : ¬ (i : Int) < (N : Int) - 1 := by omega
                    clear hful
                    as_aux_lemma =>
                      go_wp2_with fail
                      refine (GE.out _).mono ?_; rintro e y1 ⟨rfl, hb⟩
                      have HY := Lib.hid ((HQ.out.trans (hb.mono HQ.out.size)).alloc (Nat.le_trans HQ.out.size hb.size) (.cells #[.int .i64 a1, .int .i64 (a2 + (i : Int)), .bool fr, .string sp] 40))
                      have HY2 := Lib.hid ((HQ2.out.trans (hb.mono HQ2.out.size)).alloc (Nat.le_trans HQ2.out.size hb.size) (.cells #[.int .i64 a1, .int .i64 (a2 + (i : Int)), .bool fr, .string sp] 40))
                      clear hb GE
                      go_wp2_with fail
                      go_roundw
                      case rel => exact ⟨i + 1, by omega, by go_num, congrArg (Value.int .i64) (by rw [HTK.out]; omega), HY.out, HY2.out⟩
                      case measure => simp [intOf] <;> omega
                · obtain rfl : i = N := by omega
                  have b1 : ¬ (i : Int) < (i : Int) := by omega
                  have hall : ((strmB l0).take (56 * i)).length = (strmB l0).length := by
                    have h2 := HNP.out
                    unfold npX at h2
                    rw [List.length_take]; omega
                  rw [hall]
                  clear hall
                  go_wp2_with fail
                  go_loopw [9, 108] (fun m x wr => ∃ k : Nat, k ≤ n0 ∧ x = .int .i64 k ∧ m = .int .i64 (((strmB l0).length : Int) - ((strmB (l0.take k)).length : Int)) ∧ Hid (Below w.heap.size w wr)) (fun _ x _ => n0 - (intOf x).toNat)
                  case atStart => exact ⟨0, Nat.zero_le _, rfl, by simp [strmB], HQ.out⟩
                  case round =>
                    obtain ⟨k, hk, rfl, rfl, hq⟩ := hrel
                    have HR := Lib.hid hq.out
                    clear hq HQ HQ2
                    have d0 : (0 : Int) ≤ (k : Int) := by omega
                    have hnn : n0 = l0.length := HSL.out.1.symm
                    by_cases hkl : k < n0
                    · have d1 : (k : Int) < (n0 : Int) := by omega
                      obtain ⟨bs, os, rfl, -, cs, -⟩ := (HSL.out.kept HR.out).2.2 k hkl
                      have HT := Lib.hid (strm_take (l := l0) (k := k) (by omega))
                      have hle : (strmB (l0.take (k + 1))).length ≤ (strmB l0).length := by
                        have h9 : strmB l0 = strmB (l0.take (k + 1)) ++ strmB (l0.drop (k + 1)) := by rw [← strmB_append, List.take_append_drop]
                        have h8 := congrArg List.length h9
                        rw [List.length_append] at h8
                        omega
                      rw [HT.out] at hle
                      have hsz : (str (l0.getD k [])).size = (l0.getD k []).length := rfl
                      generalize str (l0.getD k []) = sx at *
                      generalize (l0.getD k []).length = z at *
                      generalize hT0 : (strmB (l0.take k)).length = T0 at *
                      generalize hT1 : (strmB l0).length = T1 at *
                      have e1 : IntKind.i64.wrap (2 + (z : Int)) = 2 + (z : Int) := IntWalk.i64_in _ (by omega)
                      have e2 : IntKind.i64.wrap ((T1 : Int) - (T0 : Int) - (2 + (z : Int))) = (T1 : Int) - (T0 : Int) - (2 + (z : Int)) := IntWalk.i64_in _ (by omega)
                      go_wp2_with fail
                      go_roundw
                      case rel => exact ⟨k + 1, by omega, by go_num, by rw [HT.out]; exact congrArg (Value.int .i64) (by omega), HR.out⟩
                      case measure => simp [intOf] <;> omega
                    · obtain rfl : k = n0 := by omega
                      have d1 : ¬ (k : Int) < (k : Int) := by omega
                      have hz : ((strmB l0).length : Int) - ((strmB (l0.take k)).length : Int) = 0 := by rw [hnn, List.take_of_length_le (Nat.le_refl _)]; omega
                      rw [hz]
                      clear hz hnn
                      have CO2 := Lib.hid (CO.out _ HR.out)
                      go_wp2_with fail
                      refine CO2.out.mono ?_; rintro e y9 ⟨rfl, hb⟩
                      have HZ := Lib.hid (HR.out.trans (hb.mono HR.out.size))
                      clear hb
                      go_wp2_with fail
                      go_ret
                      exact ⟨by trivial, HZ.out⟩

/-! The row's step. -/
set_option maxRecDepth 100000 in
theorem lifted (os : Os) (started : os.Started) (H : Type) (enc : TypeId × Value → H) :
    ReturnsInHanded {} Try.checked os 7 .any (Rows.frameBatchSpec.pre6 enc Try.prog Try.f7 Rows.frameBatchRow.domain false) (Rows.frameBatchSpec.post enc Try.prog Try.f7 false true false false) := by
  refine returnsInHanded_of_change_sized (C := Try.checked) own started (by kernel_rfl) Try.func7
    (ChangeSpec.witness6 (enc := enc) (C := Try.checked) false ⟨#[], #[.slice none 0 0, .int .i64 0, .int .i64 0], []⟩ 8 (by kernel_rfl) (by kernel_rfl) (by kernel_rfl) (by kernel_rfl)) ?_
  intro W base args ds gs before hval0 hW hcnd hsz0 _
  have hsz : (DataW.weightsEach Try.prog (Try.f7.params.toList ++ Rows.frameBatchSpec.plain.varTypes Try.prog) (ds ++ gs)).all (· ≤ reachBytes) = true := hsz0
  have hval : ∀ (j : Nat) t v, Try.f7.params[j]? = some t → args[j]? = some v → Value.okWide Try.prog W .any base t v := hval0
  have hW' := hW
  obtain ⟨p, q, hA0, hV, rfl, hfz, hnd⟩ := hW
  have hA : DataW.TrodAll enc Try.prog W 0 (fun _ => true) true Try.f7.params.toList args.toList ds p := hA0
  rw [Try.params7] at hA hval hsz
  obtain ⟨v0, vs0, d0, ds0, p0, q0, hargs, rfl, rfl, h0, r0⟩ := trodAll_cons hA
  obtain ⟨v1, vs1, d1, ds1, p1, q1, rfl, rfl, rfl, h1, r1⟩ := trodAll_cons r0
  obtain ⟨v2, vs2, d2, ds2, p2, q2, rfl, rfl, rfl, h2, r2⟩ := trodAll_cons r1
  obtain ⟨rfl, rfl, rfl⟩ := trodAll_nil r2
  obtain rfl : args = #[v0, v1, v2] := by cases args; simp_all
  obtain ⟨rfl, rfl⟩ := trodVars_none hV
  obtain ⟨A0, n0, c0, rfl⟩ := okWide_slice Try.underlying25 (hval 0 25 v0 rfl rfl)
  have k0 := h0
  have lt0 : ∀ x ∈ p0, x.block < W.heap.size := by obtain ⟨m, hm⟩ := k0; exact DataW.trod_lt m _ _ _ hm
  obtain ⟨l0, w0, e0, f0, z0⟩ := (by obtain ⟨fuel, hf⟩ := h0; exact txt_read hf (fun _ => rfl) : ∃ l, Txt W.heap.size W A0 n0 l ∧ n0 ≤ c0 ∧ c0 ≤ maxLen ∧ ∀ n, (∀ m ∈ DataW.weights Try.prog 25 d0, m ≤ n) → ∀ s ∈ l, s.length ≤ n)
  have s0 := txt_sized (i := 0) z0 hsz rfl rfl
  obtain ⟨a1, rfl, rfl, rfl, w1⟩ := open_int Try.underlying3 (hval 1 3 v1 rfl rfl) h1
  obtain ⟨a2, rfl, rfl, rfl, w2⟩ := open_int Try.underlying3 (hval 2 3 v2 rfl rfl) h2
  clear hA0 hval0
  refine (walk A0 n0 c0 l0 a1 a2 W w0 s0 w1 w2).mono fun e W' ⟨he, bel⟩ => ?_
  subst he
  exact ⟨_, rfl, _, _, _, [], _, [], hW', trodAll_mk1 (shut_bool Try.underlying4 _), (trodAll_cons_mk (Below.trod laidOut (by kernel_rfl) (of_decide_eq_true (by kernel_rfl)) k0 bel lt0) (trodAll_cons_mk (shut_int Try.underlying3 w1) (trodAll_cons_mk (shut_int Try.underlying3 w2) trodAll_mk0))), rfl, bel.frame _, fun h => by cases h⟩

theorem over : Rows.frameBatchRow.holds Try.pinned (OpenSpec.ofChange Rows.frameBatchSpec) :=
  OpenClaim.holds_of_wide 7 Try.f7 rfl rfl rfl rfl rfl rfl rfl ⟨rfl, rfl, rfl, rfl, rfl⟩ rfl rfl rfl rfl rfl (by kernel_rfl) Try.func7 (by kernel_rfl)
    (of_decide_eq_true (by kernel_rfl)) (by unfold Func.isWrapper; first | (rw [if_pos (by decide +kernel)]; kernel_rfl) | (rw [if_neg (by decide +kernel)]; exact ⟨rfl, rfl⟩))
    (fun os started H enc _ => lifted os started H enc)

/-- The statement. -/
theorem proved : Rows.FrameBatchSaid := over
end Go.Proofs.Ytbdpmfgphhgigaa.frameBatch
