/- Cells that have room, rising by keys, are read as they were written, for every list of cells. -/
import Derived.Test.YtnbfieidledfmaaRows
import Derived.Test.YtnbfieidledfmaaBase
import Derived.Deep.RegionHeld3
import Derived.StillTailTactics
import Derived.BigQuiet
import Derived.Laws.MakeOwn
import Derived.Deep.DeepCutAuto
import Derived.Deep.RegionLaw
import Derived.Lib.Hide
import Derived.WalkKit
import Derived.ProofKit
import Derived.OpenShut
import Derived.ChangeOld
import Derived.Below
import Derived.Carry
namespace Go.Proofs.Ytnbfieidledfmaa.cellBack
open Go.ChangeShapes Go.WideShapes Go.ChangeAt Go.RowKit
set_option linter.unusedVariables false

theorem own : ownKnob Try.prog.godebug = none := by kernel_rfl
theorem laidOut : laidOutB Try.prog = true := by kernel_rfl


set_option maxRecDepth 100000 in
set_option maxHeartbeats 8000000 in
theorem walk (A0 : Option Addr) (n0 c0 : Nat) (l0 : List Ce) (w : World) (w0 : CesL w A0 n0 l0) (e0 : n0 ≤ maxLen) :
    Calls Try.prog 3 #[.slice A0 n0 c0] w fun e w' => e = .returned (.bool true) ∧ Below w.heap.size w w' := by
  by_cases cc : 60 < (n0 : Int)
  · as_aux_lemma =>
      have HB0 := Lib.hid (Below.refl w.heap.size w)
      have AL := Lib.hid alive_yes
      go_enter Try.func3, Try.ntmps3
      go_wp2_with fail
      refine (AL.out _).mono ?_; rintro e w1 ⟨rfl, hb⟩
      have HB1 := Lib.hid (HB0.out.trans (hb.mono (Below.size HB0.out)))
      clear hb HB0 
      go_wp2_with fail
      go_ret
      exact ⟨rfl, HB1.out⟩
  · obtain ⟨hn, hces⟩ := w0
    have hm : n0 ≤ 60 := by omega
    clear e0
    have HP := Lib.hid (fun w' (hb : Below w.heap.size w w') => hces.kept hb)
    have HN := Lib.hid hn
    have PU := Lib.hid (fun w' (hb : Below w.heap.size w w') => put_any (c := c0) w' (hces.kept hb) hn (by omega) hb.size)
    cases ho : putOk l0 with
    | false =>
      as_aux_lemma =>
        rw [show putS l0 = [] by unfold putS; rw [ho]; rfl, ho, show str [] = ByteArray.mk #[] from rfl] at PU
        clear ho hn hces
        have HB0 := Lib.hid (Below.refl w.heap.size w)
        have AL := Lib.hid alive_yes
        go_enter Try.func3, Try.ntmps3
        go_wp2_with fail
        refine (AL.out _).mono ?_; rintro e w1 ⟨rfl, hb⟩
        have HB1 := Lib.hid (HB0.out.trans (hb.mono (Below.size HB0.out)))
        clear hb HB0 
        go_wp2_with fail
        refine (PU.out _ HB1.out).mono ?_; rintro e w2 ⟨rfl, hb⟩
        have HB2 := Lib.hid (HB1.out.trans (hb.mono (Below.size HB1.out)))
        clear hb HB1 
        go_wp2_with fail
        go_ret
        exact ⟨rfl, HB2.out⟩
    | true =>
      as_aux_lemma =>
        have hb0 := bodyOf_length ho
        obtain ⟨hg1, hg2⟩ := getOk_body ho
        obtain ⟨hok, hsum, _⟩ := putOk_iff.1 ho
        rw [show putS l0 = bodyOf l0 by unfold putS; rw [ho]; rfl, ho] at PU
        have FI := Lib.hid (fun w' (hb : Below w.heap.size w w') => fits_walk (c := c0) w' (hces.kept hb) hn (by omega) hb.size)
        rw [putOk_fits ho] at FI
        have GE := Lib.hid (fun w => get_any (bodyOf l0) (by omega) w)
        unfold Got at GE
        rw [hg1, hg2, hn] at GE
        have SA := Lib.hid (fun w' A c (hb : Below w.heap.size w w') (h : Ces w'.heap.size w' A l0) => same_walk (c := c) (d := c0) w' h (hces.kept hb) hn hn (by omega))
        rw [sameB_self] at SA
        have HOK := Lib.hid hok
        have HSUM := Lib.hid hsum
        have HLZ := Lib.hid (show (∀ p ∈ l0, p.key.size ≤ maxLen ∧ p.val.size ≤ maxLen) ∧ n0 ≤ maxLen from ⟨hces.2.1, by unfold maxLen; omega⟩)
        clear ho hb0 hg1 hg2 hok hsum hces hn
        have b0 : (0 : Int) ≤ (n0 : Int) := by omega
        have b1 : (n0 : Int) ≤ 60 := by omega
        generalize str (bodyOf l0) = X at *
        have HB0 := Lib.hid (Below.refl w.heap.size w)
        have AL := Lib.hid alive_yes
        go_enter Try.func3, Try.ntmps3
        go_wp2_with fail
        refine (AL.out _).mono ?_; rintro e w1 ⟨rfl, hb⟩
        have HB1 := Lib.hid (HB0.out.trans (hb.mono (Below.size HB0.out)))
        clear hb HB0 
        go_wp2_with fail
        refine (PU.out _ HB1.out).mono ?_; rintro e w2 ⟨rfl, hb⟩
        have HB2 := Lib.hid (HB1.out.trans (hb.mono (Below.size HB1.out)))
        clear hb HB1 
        go_wp2_with fail
        refine (GE.out _).mono ?_; rintro e w3 ⟨A3, c3, rfl, hown, hb⟩
        have HB3 := Lib.hid (HB2.out.trans (hb.mono (Below.size HB2.out)))
        unfold Own at hown
        rw [HN.out] at hown
        have HO3 := Lib.hid hown
        clear hb HB2 hown
        go_wp2_with fail
        go_loopw [7, 34] (fun v x wr => ∃ k : Nat, k ≤ n0 ∧ x = .int .i64 k ∧ (∃ s : Nat, v = .int .i64 (1 + (s : Int)) ∧ Hid (s = sums (l0.take k)) ∧ s ≤ 239) ∧ Hid (Below w3.heap.size w3 wr)) (fun _ x _ => n0 - (intOf x).toNat)
        case atStart => exact ⟨0, Nat.zero_le _, rfl, ⟨0, rfl, rfl, by omega⟩, Below.refl _ _⟩
        case round =>
          obtain ⟨k, hk, rfl, ⟨s, rfl, hs, hs2⟩, hq⟩ := hrel
          have HS := Lib.hid hs
          have HQ := Lib.hid hq
          clear hs hq
          have q0 : (0 : Int) ≤ (k : Int) := by omega
          by_cases hlt : k < n0
          · have q1 : (k : Int) < (n0 : Int) := by omega
            have HBR := Lib.hid (HB3.out.trans (Below.mono HQ.out.out HB3.out.size))
            obtain ⟨b, off, rfl, hb, p0, p1, p2, p3⟩ := (HP.out wr HBR.out).1 k (by rw [HN.out]; exact hlt)
            have hko := HOK.out _ (getD_mem (show k < l0.length by rw [HN.out]; exact hlt))
            have HT := Lib.hid (sums_take l0 k (by rw [HN.out]; exact hlt))
            have HLE := Lib.hid (show sums (l0.take (k + 1)) ≤ 239 by have := sums_le l0 (k + 1); have := HSUM.out; omega)
            generalize l0.getD k nilC = x at *
            have hz := size_ok hko
            have hkz : x.key.size ≤ maxLen / 4 := by have := hko.1; unfold maxLen; omega
            have hvz : x.val.size ≤ maxLen / 4 := by obtain ⟨_, h | h⟩ := hko <;> (unfold maxLen; omega)
            have SI := Lib.hid (fun r => size_any x.key x.val x.blob x.size hkz hvz r)
            unfold cv at SI
            change Hid (∀ r, Calls _ _ _ _ (fun e w' => e = .returned (.int .i64 (sizeC x : Nat)) ∧ _)) at SI
            have HAL := Lib.hid (Below.trans HQ.out.out (((Below.refl wr.heap.size wr).alloc (Nat.le_refl _) (.cells #[.string x.key, .string x.val, .int .i64 x.blob, .int .i64 x.size] 29)).mono HQ.out.out.size))
            have hle : s + sizeC x ≤ 239 := by have h1 := HLE.out; rw [HT.out, ← (show s = sums (l0.take k) from HS.out)] at h1; exact h1
            generalize sizeC x = z at *
            have e1 : IntKind.i64.wrap (1 + (s : Int) + (z : Int)) = 1 + (s : Int) + (z : Int) := IntWalk.i64_in _ (by omega)
            clear hkz hvz hko hb
            go_wp2_with fail
            refine (SI.out _).mono ?_; rintro e w4 ⟨rfl, hb⟩
            have HAL2 := Lib.hid (HAL.out.trans (hb.mono HAL.out.size))
            clear hb p0 p1 p2 p3
            go_wp2_with fail
            go_roundw
            case rel => exact ⟨k + 1, by omega, by go_num, ⟨s + z, by congr 1; omega, by rw [HT.out, HS.out]; rfl, hle⟩, HAL2.out⟩
            case measure => simp [intOf]; omega
          · obtain rfl : n0 = k := by omega
            have q1 : ¬ (n0 : Int) < (n0 : Int) := by omega
            have q2 : 1 + (s : Int) ≤ 240 := by omega
            have HBR := Lib.hid (HB3.out.trans (Below.mono HQ.out.out HB3.out.size))
            have HC3 := Lib.hid (Own.ces (owns_kept2 HO3.out (fun g hg => (HQ.out.out.block g (HO3.out.lt g hg).2))) HN.out HLZ.out.1 HLZ.out.2)
            go_wp2_with fail
            refine (SA.out _ _ _ HBR.out HC3.out).mono ?_; rintro e w5 ⟨rfl, q, rfl⟩
            have HB5 := Lib.hid (show Below w.heap.size w (wr.drewN q) from ⟨HBR.out.os, HBR.out.tape, HBR.out.output, HBR.out.size, HBR.out.block⟩)
            generalize wr.drewN q = w5 at *
            go_wp2_with fail
            refine (FI.out _ HB5.out).mono ?_; rintro e w6 ⟨rfl, hb⟩
            have HB6 := Lib.hid (HB5.out.trans (hb.mono HB5.out.size))
            clear hb
            go_wp2_with fail
            go_ret
            exact ⟨rfl, HB6.out⟩

/-! The row's step. -/
set_option maxRecDepth 100000 in
theorem lifted (os : Os) (started : os.Started) (H : Type) (enc : TypeId × Value → H) :
    ReturnsInHanded {} Try.checked os 3 .any (Rows.cellBackSpec.pre6 enc Try.prog Try.f3 Rows.cellBackRow.domain false) (Rows.cellBackSpec.post enc Try.prog Try.f3 false true false false) := by
  refine returnsInHanded_of_change (C := Try.checked) own started (by kernel_rfl) Try.func3
    (ChangeSpec.witness6 (enc := enc) (C := Try.checked) false ⟨#[], #[.slice none 0 0], []⟩ 8 (by kernel_rfl) (by kernel_rfl) (by kernel_rfl) (by kernel_rfl)) ?_
  intro W base args ds gs before hval0 hW hcnd _
  have hval : ∀ (j : Nat) t v, Try.f3.params[j]? = some t → args[j]? = some v → Value.okWide Try.prog W .any base t v := hval0
  have hW' := hW
  obtain ⟨p, q, hA0, hV, rfl, hfz, hnd⟩ := hW
  have hA : DataW.TrodAll enc Try.prog W 0 (fun _ => true) true Try.f3.params.toList args.toList ds p := hA0
  rw [Try.params3] at hA hval
  obtain ⟨v0, vs0, d0, ds0, p0, q0, hargs, rfl, rfl, h0, r0⟩ := trodAll_cons hA
  obtain ⟨rfl, rfl, rfl⟩ := trodAll_nil r0
  obtain rfl : args = #[v0] := by cases args; simp_all
  obtain ⟨rfl, rfl⟩ := trodVars_none hV
  obtain ⟨A0, n0, c0, rfl⟩ := okWide_slice Try.underlying22 (hval 0 22 v0 rfl rfl)
  have k0 := h0
  have lt0 : ∀ x ∈ p0, x.block < W.heap.size := by obtain ⟨m, hm⟩ := k0; exact DataW.trod_lt m _ _ _ hm
  obtain ⟨l0, w0, e0, f0⟩ := (by obtain ⟨fuel, hf⟩ := h0; exact ces_read hf (fun _ => rfl) : ∃ l, CesL W A0 n0 l ∧ n0 ≤ c0 ∧ c0 ≤ maxLen)
  clear hA0 hval0
  refine (walk A0 n0 c0 l0 W w0 (Nat.le_trans e0 f0)).mono fun e W' ⟨he, bel⟩ => ?_
  subst he
  exact ⟨_, rfl, _, _, _, [], _, [], hW', trodAll_mk1 (shut_bool Try.underlying4 _), (trodAll_cons_mk (Below.trod laidOut (by kernel_rfl) (of_decide_eq_true (by kernel_rfl)) k0 bel lt0) trodAll_mk0), rfl, bel.frame _, fun h => by cases h⟩

theorem over : Rows.cellBackRow.holds Try.pinned (OpenSpec.ofChange Rows.cellBackSpec) :=
  OpenClaim.holds_of_wide 3 Try.f3 rfl rfl rfl rfl rfl rfl rfl ⟨rfl, rfl, rfl, rfl, rfl⟩ rfl rfl rfl rfl rfl (by kernel_rfl) Try.func3 (by kernel_rfl)
    (of_decide_eq_true (by kernel_rfl)) (by unfold Func.isWrapper; first | (rw [if_pos (by decide +kernel)]; kernel_rfl) | (rw [if_neg (by decide +kernel)]; exact ⟨rfl, rfl⟩))
    (fun os started H enc _ => lifted os started H enc)

/-- The statement. -/
theorem proved : Rows.CellBackSaid := over
end Go.Proofs.Ytnbfieidledfmaa.cellBack
