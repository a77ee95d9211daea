/- In whatever order cells are put into a page, if all fit, the page is the same, and all are there. -/
import Derived.Test.YtljegjcajlkgiaaRows
import Derived.Test.YtljegjcajlkgiaaLawsr
import Derived.Deep.RegionHeld3
import Derived.StillTailTactics
import Derived.BigQuiet
import Derived.Laws.MakeOwn
import Derived.Deep.DeepCutAuto
import Derived.Deep.RegionLaw
import Derived.Lib.Hide
import Derived.WalkKit
import Derived.ProofKit
import Derived.OpenShut
import Derived.ChangeOld
import Derived.Below
import Derived.Carry
namespace Go.Proofs.Ytljegjcajlkgiaa.bucketOrder
open Go.ChangeShapes Go.WideShapes Go.ChangeAt Go.RowKit
set_option linter.unusedVariables false

theorem own : ownKnob Try.prog.godebug = none := by kernel_rfl
theorem laidOut : laidOutB Try.prog = true := by kernel_rfl

def rot (l : List Ce) (r : Nat) : List Ce := l.drop r ++ l.take r
theorem rot_perm (l : List Ce) (r : Nat) : (rot l r).Perm l := by
  have h : (l.take r ++ l.drop r).Perm l := by rw [List.take_append_drop]
  exact List.perm_append_comm.trans h
theorem rot_getD (l : List Ce) {r k : Nat} (hr : r < l.length) (hk : k < l.length) : (rot l r).getD k nilC = l.getD ((k + r) % l.length) nilC := by
  unfold rot
  by_cases h : k + r < l.length
  · rw [Nat.mod_eq_of_lt h, getD_at h]
    have hk' : k < (l.drop r).length := by rw [List.length_drop]; omega
    rw [List.getD_eq_getElem?_getD, List.getElem?_append_left hk', List.getElem?_eq_getElem hk', List.getElem_drop]
    simp only [Option.getD_some, Nat.add_comm]
  · have e : (k + r) % l.length = k + r - l.length := by rw [Nat.mod_eq_sub_mod (by omega), Nat.mod_eq_of_lt (by omega)]
    rw [e, getD_at (by omega : k + r - l.length < l.length)]
    have hl : (l.drop r).length = l.length - r := List.length_drop
    have hk' : k - (l.drop r).length < (l.take r).length := by rw [List.length_take, hl]; omega
    rw [List.getD_eq_getElem?_getD, List.getElem?_append_right (by rw [hl]; omega), List.getElem?_eq_getElem hk', List.getElem_take]
    simp only [Option.getD_some, hl]
    congr 1
    omega
theorem fits_perm {l m : List Ce} (h : fitsB l = true) (p : m.Perm l) : fitsB m = true := by
  obtain ⟨h1, h2, h3⟩ := fits_iff.1 h
  refine fits_iff.2 ⟨fun c hc => h1 c (p.mem_iff.1 hc), by rw [sums_perm p]; exact h2, ?_⟩
  have hk : (keysOf m).Perm (keysOf l) := p.map _
  exact hk.nodup_iff.2 h3
theorem order_step {L m : List Ce} {k : Nat} (hf : fitsB L = true) (hk : k < L.length) (hm : putOk m = true) (hp : m.Perm (L.take k)) : okC (L.getD k nilC) = true ∧ putOk (setS m (L.getD k nilC)) = true ∧ (setS m (L.getD k nilC)).Perm (L.take (k + 1)) := by
  obtain ⟨h1, h2, h3⟩ := fits_iff.1 hf
  have hy := getD_mem hk
  have hr := putOk_rise hm
  have ht := take_snoc L k hk
  have hno : ∀ x ∈ m, x.key ≠ (L.getD k nilC).key := by
    intro x hx e
    have hx' : x ∈ L.take k := hp.mem_iff.1 hx
    unfold keysOf List.Nodup at h3
    rw [List.pairwise_map] at h3
    have h4 := h3.sublist (List.take_sublist (k + 1) L)
    rw [ht] at h4
    exact (List.pairwise_append.1 h4).2.2 x hx' _ (List.mem_singleton.2 rfl) (by rw [e])
  have hcut : cutS m (L.getD k nilC).key = m := cut_none hno
  have hper : (setS m (L.getD k nilC)).Perm (L.take (k + 1)) := by
    have := set_perm hr (L.getD k nilC)
    rw [hcut] at this
    rw [ht]
    exact this.trans ((List.Perm.cons _ hp).trans (List.perm_append_comm (l₁ := [L.getD k nilC])))
  refine ⟨okC_iff.2 (h1 _ hy), ?_, hper⟩
  rw [putOk_set hm (h1 _ hy), sums_perm hper]
  have := sums_le L (k + 1)
  exact decide_eq_true (by omega)
theorem order_end {L M mp mq : List Ce} (h : M.Perm L) (hp : putOk mp = true) (hq : putOk mq = true) (pp : mp.Perm L) (pq : mq.Perm M) : mp = mq := perm_rise (pp.trans (pq.trans h).symm) (putOk_rise hp) (putOk_rise hq)
/-- What the turn comes to. -/
theorem turn_facts (t : Int) (n : Nat) (h0 : 0 < n) (hn : n ≤ 40) : ∃ r : Nat, r < n ∧ IntKind.i64.wrap (t.tmod n + n) = t.tmod n + n ∧ (t.tmod n + n).tmod n = (r : Int) := by
  have a1 := Int.tmod_lt_of_pos t (show (0 : Int) < (n : Int) by omega)
  have a2 : -(n : Int) < t.tmod n := by
    have := Int.lt_tmod_of_pos t (show (0 : Int) < (n : Int) by omega)
    omega
  have a3 : 0 ≤ (t.tmod n + n).tmod n := Int.tmod_nonneg _ (by omega)
  have a4 := Int.tmod_lt_of_pos (t.tmod n + n) (show (0 : Int) < (n : Int) by omega)
  refine ⟨((t.tmod n + n).tmod n).toNat, by omega, IntWalk.i64_in _ (by omega), by omega⟩
theorem set_yes {k d x : Int} (hk : isBk k = true) {m : List Ce} (hm : putOk m = true) {c : Ce} (h1 : okC c = true) (h2 : putOk (setS m c) = true) : resV (setP ⟨k, d, x, bodyOf m⟩ c) = .tuple #[.agg #[.int .i64 k, .int .i64 d, .int .i64 x, .string (str (bodyOf (setS m c)))], .int .i64 0] := by
  rcases setP_body (d := d) (x := x) hk hm c with h | ⟨ev, _, _, _, h | h⟩
  · exact h.1
  · rw [h.1] at h1; cases h1
  · rw [h.2.1] at h2; cases h2
theorem held_set4 {X w : World} {B : Nat} {u0 u1 u2 u3 : Value} (h : Held X w) (hB : X.heap.size ≤ B) : Held X ((((w.setCell ⟨B, 0, none⟩ u0).setCell ⟨B, 1, none⟩ u1).setCell ⟨B, 2, none⟩ u2).setCell ⟨B, 3, none⟩ u3) := below_set4 h hB

set_option maxRecDepth 100000 in
set_option maxHeartbeats 8000000 in
theorem walk (A0 : Option Addr) (n0 c0 : Nat) (l0 : List Ce) (a1 : Int) (w : World) (w0 : CesL w A0 n0 l0) (e0 : n0 ≤ maxLen) (w1 : (Lit.int .i64 a1).wf = true) :
    Calls Try.prog 4 #[.slice A0 n0 c0, .int .i64 a1] w fun e w' => e = .returned (.bool true) ∧ Below w.heap.size w w' := by
  have AL := Lib.hid alive_yes
  by_cases cc : 40 < (n0 : Int)
  · as_aux_lemma =>
      have g0 : decide (40 < (n0 : Int)) = true := decide_eq_true cc
      have HB0 := Lib.hid (Below.refl w.heap.size w)
      go_enter Try.func4, Try.ntmps4
      go_wp2_with fail
      refine (AL.out _).mono ?_; rintro e w1 ⟨rfl, hb⟩
      have HB1 := Lib.hid (HB0.out.trans (hb.mono (Below.size HB0.out)))
      clear hb HB0 
      go_wp2_with fail
      go_ret
      exact ⟨rfl, HB1.out⟩
  · have g0 : decide (40 < (n0 : Int)) = false := decide_eq_false cc
    obtain ⟨hn, hces⟩ := w0
    have hm : n0 ≤ 40 := by omega
    have HP := Lib.hid (fun w' (hb : Below w.heap.size w w') => hces.kept hb)
    have HN := Lib.hid hn
    have RF := Lib.hid (fun r (hb : Below w.heap.size w r) => rfits_walk (c := c0) r (hces.kept hb) hn (by omega) hb.size)
    clear hces hn
    cases hf : fitsB l0 with
    | false =>
      rw [hf] at RF
      clear hf
      have HB0 := Lib.hid (Below.refl w.heap.size w)
      go_enter Try.func4, Try.ntmps4
      go_wp2_with fail
      refine (RF.out _ (Below.refl _ _)).mono ?_; rintro e w1 ⟨rfl, hb⟩
      have HB1 := Lib.hid (HB0.out.trans (hb.mono (Below.size HB0.out)))
      clear hb HB0 
      go_wp2_with fail
      refine (AL.out _).mono ?_; rintro e w2 ⟨rfl, hb⟩
      have HB2 := Lib.hid (HB1.out.trans (hb.mono (Below.size HB1.out)))
      clear hb HB1 
      go_wp2_with fail
      go_ret
      exact ⟨rfl, HB2.out⟩
    | true =>
      rw [hf] at RF
      have HF := Lib.hid hf
      clear hf
      have SE := Lib.hid (fun m (h : putOk m = true) c w => set_any 3 3 7 (bodyOf m) c (by rw [bodyOf_length h]; omega) w)
      have CE := Lib.hid (fun m (h : putOk m = true) w => (bcells_any 3 3 7 (bodyOf m) (by rw [bodyOf_length h]; omega) w))
      have EM := Lib.hid (fun w => empty_any 3 3 7 w)
      have hz0 : str (zs 240) = str (bodyOf []) := by rw [bodyOf_nil]
      rw [hz0] at EM
      clear hz0
      unfold pv at *
      have HB0 := Lib.hid (Below.refl w.heap.size w)
      go_enter Try.func4, Try.ntmps4
      go_wp2_with fail
      refine (RF.out _ (Below.refl _ _)).mono ?_; rintro e w1 ⟨rfl, hb⟩
      have HB1 := Lib.hid (HB0.out.trans (hb.mono (Below.size HB0.out)))
      clear hb HB0 
      go_wp2_with fail
      refine (AL.out _).mono ?_; rintro e w2 ⟨rfl, hb⟩
      have HB2 := Lib.hid (HB1.out.trans (hb.mono (Below.size HB1.out)))
      clear hb HB1 
      clear AL RF
      go_wp2_with fail
      refine (EM.out _).mono ?_; rintro e w3 ⟨rfl, hb⟩
      have HB3 := Lib.hid (HB2.out.trans (hb.mono (Below.size HB2.out)))
      clear hb HB2 
      go_wp2_with fail
      refine (EM.out _).mono ?_; rintro e w4 ⟨rfl, hb⟩
      have HB4 := Lib.hid (HB3.out.trans (hb.mono (Below.size HB3.out)))
      clear hb HB3 
      clear EM
      have HSZ := Lib.hid HB4.out.size
      have hal := (Below.refl (w4).heap.size (w4)).alloc (Nat.le_refl _) (.cells #[.int .i64 3, .int .i64 3, .int .i64 7, .string (str (bodyOf []))] 25)
      have P4 := Lib.hid (PBox.new (w4) (3) (3) (7) ((str (bodyOf []))))
      replace HB4 := Lib.hid (HB4.out.trans (hal.mono (Below.size HB4.out)))
      clear hal
      have hal := (Below.refl (w4.alloc (.cells #[.int .i64 3, .int .i64 3, .int .i64 7, .string (str (bodyOf []))] 25)).heap.size (w4.alloc (.cells #[.int .i64 3, .int .i64 3, .int .i64 7, .string (str (bodyOf []))] 25))).alloc (Nat.le_refl _) (.cells #[.int .i64 3, .int .i64 3, .int .i64 7, .string (str (bodyOf []))] 25)
      replace P4 := Lib.hid (P4.out.kept hal)
      have Q4 := Lib.hid (PBox.new (w4.alloc (.cells #[.int .i64 3, .int .i64 3, .int .i64 7, .string (str (bodyOf []))] 25)) (3) (3) (7) ((str (bodyOf []))))
      replace HB4 := Lib.hid (HB4.out.trans (hal.mono (Below.size HB4.out)))
      clear hal
      go_wp2_with fail
      obtain ⟨bP, hbP⟩ : ∃ B, B = w4.heap.size := ⟨_, rfl⟩
      obtain ⟨bQ, hbQ⟩ : ∃ B, B = w4.heap.size + 1 := ⟨_, rfl⟩
      rw [World.size_alloc] at Q4
      have HLE := Lib.hid (show bP ≠ bQ ∧ w.heap.size ≤ bP ∧ w.heap.size ≤ bQ by
        have hs := HSZ.out
        omega)
      rw [← hbQ] at Q4 ⊢
      rw [← hbP] at P4 ⊢
      clear hbP hbQ
      generalize (w4.alloc (.cells #[.int .i64 3, .int .i64 3, .int .i64 7, .string (str (bodyOf []))] 25)).alloc (.cells #[.int .i64 3, .int .i64 3, .int .i64 7, .string (str (bodyOf []))] 25) = v at *
      obtain ⟨R, hR⟩ : ∃ R : Nat, 0 < n0 → (R < n0 ∧ IntKind.i64.wrap (a1.tmod n0 + n0) = a1.tmod n0 + n0 ∧ (a1.tmod n0 + n0).tmod n0 = (R : Int)) := by
        by_cases h0 : 0 < n0
        · obtain ⟨R, hR⟩ := turn_facts a1 n0 h0 hm
          exact ⟨R, fun _ => hR⟩
        · exact ⟨0, fun h => absurd h h0⟩
      have HR := Lib.hid hR
      have HST := Lib.hid (show ∃ mp mq, putOk mp = true ∧ putOk mq = true ∧ mp.Perm (l0.take 0) ∧ mq.Perm ((rot l0 R).take 0) ∧ PBox v bP 3 3 7 (str (bodyOf mp)) ∧ PBox v bQ 3 3 7 (str (bodyOf mq)) ∧ Below w.heap.size w v from ⟨[], [], putOk_nil, putOk_nil, List.Perm.refl _, List.Perm.refl _, P4.out, Q4.out, HB4.out⟩)
      clear P4 Q4 HB4 hR
      go_loopw [32] (fun x wr => ∃ k : Nat, k ≤ n0 ∧ x = .int .i64 k ∧ Hid (∃ mp mq, putOk mp = true ∧ putOk mq = true ∧ mp.Perm (l0.take k) ∧ mq.Perm ((rot l0 R).take k) ∧ PBox wr bP 3 3 7 (str (bodyOf mp)) ∧ PBox wr bQ 3 3 7 (str (bodyOf mq)) ∧ Below w.heap.size w wr)) (fun x _ => n0 - (intOf x).toNat)
      case atStart => exact ⟨0, Nat.zero_le _, rfl, HST.out⟩
      case round =>
        obtain ⟨k, hk, rfl, hq⟩ := hrel
        obtain ⟨mp, mq, ha, hb, hc, hd, he, hg, hh⟩ := hq.out
        have HA := Lib.hid ha
        have HBq := Lib.hid hb
        have HC := Lib.hid hc
        have HD := Lib.hid hd
        have P0 := Lib.hid he
        have Q0 := Lib.hid hg
        have HB0 := Lib.hid hh
        clear hq ha hb hc hd he hg hh HST
        have q0 : (0 : Int) ≤ (k : Int) := by omega
        by_cases hlt : k < n0
        · have q1 : (k : Int) < (n0 : Int) := by omega
          obtain ⟨hRn, e2, e3⟩ := HR.out (by omega)
          have hll : l0.length = n0 := HN.out
          have S1 := order_step HF.out (show k < l0.length by omega) HA.out HC.out
          have S2 := order_step (fits_perm HF.out (rot_perm l0 R)) (show k < (rot l0 R).length by rw [(rot_perm l0 R).length_eq]; omega) HBq.out HD.out
          rw [rot_getD l0 (by omega) (by omega), hll] at S2
          obtain ⟨J, hJ⟩ : ∃ J, (k + R) % n0 = J := ⟨_, rfl⟩
          have hJn : J < n0 := by rw [← hJ]; exact Nat.mod_lt _ (by omega)
          have e4 : IntKind.i64.wrap ((k : Int) + (R : Int)) = (k : Int) + (R : Int) := IntWalk.i64_in _ (by omega)
          have e5 : ((k : Int) + (R : Int)).tmod n0 = (J : Int) := by
            rw [show ((k : Int) + (R : Int)) = ((k + R : Nat) : Int) by omega, ← hJ]
            rfl
          rw [hJ] at S2
          obtain ⟨b, off, rfl, hbk, d0, d1, d2, d3⟩ := (HP.out wr HB0.out).1 k (by rw [HN.out]; exact hlt)
          obtain ⟨b', off', eA, hbk', f0, f1, f2, f3⟩ := (HP.out wr HB0.out).1 J (by rw [HN.out]; exact hJn)
          simp only [Option.some.injEq, Addr.mk.injEq, and_true] at eA
          obtain ⟨rfl, rfl⟩ := eA
          generalize l0.getD k nilC = y at *
          generalize l0.getD J nilC = z at *
          obtain ⟨o1, o2, o3⟩ := S1
          obtain ⟨o4, o5, o6⟩ := S2
          have HS1 := Lib.hid (And.intro o2 o3)
          have HS2 := Lib.hid (And.intro o5 o6)
          have SY := Lib.hid (fun w => SE.out mp HA.out y w)
          have SZ := Lib.hid (fun w => SE.out mq HBq.out z w)
          rw [set_yes rfl HA.out o1 o2] at SY
          rw [set_yes rfl HBq.out o4 o5] at SZ
          unfold cvC cv at SY SZ
          obtain ⟨sp, hsp⟩ : ∃ s, s = str (bodyOf mp) := ⟨_, rfl⟩
          obtain ⟨sq, hsq⟩ : ∃ s, s = str (bodyOf mq) := ⟨_, rfl⟩
          obtain ⟨sp2, hsp2⟩ : ∃ s, s = str (bodyOf (setS mp y)) := ⟨_, rfl⟩
          obtain ⟨sq2, hsq2⟩ : ∃ s, s = str (bodyOf (setS mq z)) := ⟨_, rfl⟩
          rw [← hsp, ← hsp2] at SY
          rw [← hsq, ← hsq2] at SZ
          rw [← hsp] at P0
          rw [← hsq] at Q0
          have HE1 := Lib.hid hsp2
          have HE2 := Lib.hid hsq2
          have E2 := Lib.hid e2
          have E3 := Lib.hid e3
          have E4 := Lib.hid e4
          have E5 := Lib.hid e5
          have j0 : (0 : Int) ≤ (J : Int) := by omega
          have j1 : (J : Int) < (n0 : Int) := by omega
          have n1 : ((n0 : Int) == 0) = false := by rw [beq_eq_false_iff_ne]; omega
          have n2 : ¬ n0 = 0 := by omega
          clear hsp hsq hsp2 hsq2 o1 o2 o3 o4 o5 o6 hbk hbk' hll hJ e2 e3 e4 e5 hRn
          have HX := Lib.hid (And.intro (And.intro d0 (And.intro d1 (And.intro d2 d3))) (And.intro f0 (And.intro f1 (And.intro f2 f3))))
          clear d0 d1 d2 d3 f0 f1 f2 f3
          go_upto_region 8 with fail
          go_cut [9, 10] (fun s9 s10 wx => ∃ B, s9 = .pointer (some ⟨B, 0, none⟩) ∧ s10 = .int .i64 0 ∧ Hid (PBox wx B 3 3 7 sp2 ∧ Held wr wx ∧ wr.heap.size ≤ B))
          case first =>
            have A0 := fun r (h : Held wr r) => h.cell P0.out.cells.1
            have A1 := fun r (h : Held wr r) => h.cell P0.out.cells.2.1
            have A2 := fun r (h : Held wr r) => h.cell P0.out.cells.2.2.1
            have A3 := fun r (h : Held wr r) => h.cell P0.out.cells.2.2.2
            have D0 := fun r (h : Held wr r) => h.cell HX.out.1.1
            have D1 := fun r (h : Held wr r) => h.cell HX.out.1.2.1
            have D2 := fun r (h : Held wr r) => h.cell HX.out.1.2.2.1
            have D3 := fun r (h : Held wr r) => h.cell HX.out.1.2.2.2
            refine wp_region_noPanic ?_
            refine wp_region_held_drew (S := Held wr) (by kernel_rfl) ?_ (fun hHeld => ?_)
            · exact Held.start _
            refine wpAnyH_take (i := 0) (oi := { dst := some 36, op := Op.load 25 (Operand.tmp 5), type := 25, pos := "more.go:57", after := #[], guard := none }) (v := .agg #[.int .i64 3, .int .i64 3, .int .i64 7, .string sp]) rfl (by kernel_rfl) (by kernel_rfl) (by kernel_rfl) (fun _ _ _ h => h) (Or.inl ⟨by rfl, fun w' hSw => by ((try dsimp only at hSw); have := A0 _ hSw; have := A1 _ hSw; have := A2 _ hSw; have := A3 _ hSw; go_simp)⟩) (by assumption) ?_
            (try simp only [Act.put, List.setIfInBounds_toArray, List.set_cons_zero, List.set_cons_succ])
            refine wpAnyH_take (i := 1) (oi := { dst := some 37, op := Op.move (Operand.tmp 0), type := 38, pos := "more.go:57", after := #[], guard := none }) (v := .slice (some ⟨b, off, none⟩) n0 c0) rfl (by kernel_rfl) (by kernel_rfl) (by kernel_rfl) (fun _ _ _ h => h) (Or.inl ⟨by rfl, fun w' hSw => by ((try dsimp only at hSw); go_simp)⟩) (by assumption) ?_
            (try simp only [Act.put, List.setIfInBounds_toArray, List.set_cons_zero, List.set_cons_succ])
            refine wpAnyH_take (i := 2) (oi := { dst := some 38, op := Op.move (Operand.tmp 8), type := 3, pos := "more.go:57", after := #[], guard := none }) (v := .int .i64 k) rfl (by kernel_rfl) (by kernel_rfl) (by kernel_rfl) (fun _ _ _ h => h) (Or.inl ⟨by rfl, fun w' hSw => by ((try dsimp only at hSw); go_simp)⟩) (by assumption) ?_
            (try simp only [Act.put, List.setIfInBounds_toArray, List.set_cons_zero, List.set_cons_succ])
            refine wpAnyH_take (i := 3) (oi := { dst := some 39, op := Op.indexAddr 38 (Operand.tmp 37) (Operand.tmp 38), type := 0, pos := "more.go:57", after := #[{ on := 1, ground := Ground.data }, { on := 2, ground := Ground.data }], guard := none }) (v := .pointer (some ⟨b, off + k * 4, none⟩)) rfl (by kernel_rfl) (by kernel_rfl) (by kernel_rfl) (fun _ _ _ h => h) (Or.inl ⟨by rfl, fun w' hSw => by ((try dsimp only at hSw); go_simp)⟩) (by assumption) ?_
            (try simp only [Act.put, List.setIfInBounds_toArray, List.set_cons_zero, List.set_cons_succ])
            refine wpAnyH_take (i := 4) (oi := { dst := some 40, op := Op.load 31 (Operand.tmp 39), type := 31, pos := "more.go:57", after := #[{ on := 3, ground := Ground.data }], guard := none }) (v := .agg #[.string y.key, .string y.val, .int .i64 y.blob, .int .i64 y.size]) rfl (by kernel_rfl) (by kernel_rfl) (by kernel_rfl) (fun _ _ _ h => h) (Or.inl ⟨by rfl, fun w' hSw => by ((try dsimp only at hSw); have := D0 _ hSw; have := D1 _ hSw; have := D2 _ hSw; have := D3 _ hSw; go_simp)⟩) (by assumption) ?_
            (try simp only [Act.put, List.setIfInBounds_toArray, List.set_cons_zero, List.set_cons_succ])
            refine wpAnyH_ready (rs := [5, 9]) (by kernel_rfl) (by simp) ?_
            refine AllReadyH.cons (o := { dst := some 41, op := Op.call { callee := Callee.value (Operand.func 15), args := #[Operand.tmp 36, Operand.tmp 40], argTypes := #[25, 31] }, type := 36, pos := "more.go:57", after := #[{ on := 0, ground := Ground.data }, { on := 4, ground := Ground.data }], guard := none }) rfl (fun K hK => ?_) ?_
            · go_simp; go_at_call 15; refine (SY.out _).mono ?_; rintro e u1 ⟨rfl, hbu1⟩
              refine hK.out _ _ ?_ (fun hHeld => ?_)
              · exact Held.step (by assumption) hbu1
              clear hK K
              (try simp only [Act.put, List.setIfInBounds_toArray, List.set_cons_zero, List.set_cons_succ])
              refine wpAnyH_take (i := 6) (oi := { dst := some 35, op := Op.move (Operand.tmp 41), type := 36, pos := "more.go:57", after := #[{ on := 5, ground := Ground.data }], guard := none }) (v := .tuple #[.agg #[.int .i64 3, .int .i64 3, .int .i64 7, .string sp2], .int .i64 0]) rfl (by kernel_rfl) (by kernel_rfl) (by kernel_rfl) (fun _ _ _ h => h) (Or.inl ⟨by rfl, fun w' hSw => by ((try dsimp only at hSw); go_simp)⟩) (by assumption) ?_
              (try simp only [Act.put, List.setIfInBounds_toArray, List.set_cons_zero, List.set_cons_succ])
              refine wpAnyH_take (i := 7) (oi := { dst := some 42, op := Op.extract (Operand.tmp 35) 0, type := 25, pos := "more.go:57", after := #[{ on := 6, ground := Ground.data }], guard := none }) (v := .agg #[.int .i64 3, .int .i64 3, .int .i64 7, .string sp2]) rfl (by kernel_rfl) (by kernel_rfl) (by kernel_rfl) (fun _ _ _ h => h) (Or.inl ⟨by rfl, fun w' hSw => by ((try dsimp only at hSw); go_simp)⟩) (by assumption) ?_
              (try simp only [Act.put, List.setIfInBounds_toArray, List.set_cons_zero, List.set_cons_succ])
              refine wpAnyH_take (i := 8) (oi := { dst := some 43, op := Op.extract (Operand.tmp 35) 1, type := 35, pos := "more.go:57", after := #[{ on := 6, ground := Ground.data }, { on := 10, ground := Ground.gcOnly Go.Departure.lateStores }], guard := none }) (v := .int .i64 0) rfl (by kernel_rfl) (by kernel_rfl) (by kernel_rfl) (fun _ _ _ h => h) (Or.inl ⟨by rfl, fun w' hSw => by ((try dsimp only at hSw); go_simp)⟩) (by assumption) ?_
              (try simp only [Act.put, List.setIfInBounds_toArray, List.set_cons_zero, List.set_cons_succ])
              have hS1 := Below.size hHeld
              refine wpAnyH_ready (rs := [9]) (by kernel_rfl) (by simp) ?_
              refine AllReadyH.cons (o := { dst := some 9, op := Op.alloc 25, type := 0, pos := "more.go:57", after := #[], guard := none }) rfl (fun K hK => ?_) ?_
              · go_simp
                refine hK.out _ _ ?_ (fun hHeld => ?_)
                · exact Held.step (by assumption) ((Below.refl _ _).alloc (Nat.le_refl _) _)
                clear hK K
                (try simp only [Act.put, List.setIfInBounds_toArray, List.set_cons_zero, List.set_cons_succ])
                have HYX := Lib.hid (show PBox (u1.alloc (.cells #[.int .i64 0, .int .i64 0, .int .i64 0, .string ⟨#[]⟩] 25)) (u1.heap.size) 0 0 0 ⟨#[]⟩ from PBox.new _ _ _ _ _)
                generalize (u1.alloc (.cells #[.int .i64 0, .int .i64 0, .int .i64 0, .string ⟨#[]⟩] 25)) = V at *
                obtain ⟨⟨z0, z1, z2, z3⟩, g0, g1, g2, g3⟩ := And.intro HYX.out.cells HYX.out.free
                refine wpAnyH_ready (rs := [10]) (by kernel_rfl) (by simp) ?_
                refine AllReadyH.cons (o := { dst := none, op := Op.store 25 (Operand.tmp 9) (Operand.tmp 42), type := 0, pos := "more.go:57", after := #[{ on := 9, ground := Ground.data }, { on := 7, ground := Ground.data }, { on := 5, ground := Ground.chain }, { on := 0, ground := Ground.phase }, { on := 1, ground := Ground.phase }, { on := 2, ground := Ground.phase }, { on := 3, ground := Ground.phase }, { on := 4, ground := Ground.phase }, { on := 5, ground := Ground.phase }, { on := 6, ground := Ground.phase }, { on := 7, ground := Ground.phase }, { on := 8, ground := Ground.textOnly Go.Departure.lateStores }, { on := 9, ground := Ground.phase }], guard := none }) rfl (fun K hK => ?_) ?_
                · go_simp
                  refine hK.out _ _ ?_ (fun hHeld => ?_)
                  · exact held_set4 (by assumption) hS1
                  clear hK K
                  (try simp only [Act.put, List.setIfInBounds_toArray, List.set_cons_zero, List.set_cons_succ])
                  refine wpAnyH_take (i := 11) (oi := { dst := some 10, op := Op.assign (Operand.tmp 43), type := 35, pos := "more.go:57", after := #[{ on := 8, ground := Ground.data }, { on := 10, ground := Ground.chain }, { on := 0, ground := Ground.phase }, { on := 1, ground := Ground.phase }, { on := 2, ground := Ground.phase }, { on := 3, ground := Ground.phase }, { on := 4, ground := Ground.phase }, { on := 5, ground := Ground.phase }, { on := 6, ground := Ground.phase }, { on := 7, ground := Ground.phase }, { on := 8, ground := Ground.phase }, { on := 9, ground := Ground.phase }, { on := 10, ground := Ground.phase }], guard := none }) (v := .int .i64 0) rfl (by kernel_rfl) (by kernel_rfl) (by kernel_rfl) (fun _ _ _ h => h) (Or.inl ⟨by rfl, fun w' hSw => by ((try dsimp only at hSw); go_simp)⟩) (by assumption) ?_
                  (try simp only [Act.put, List.setIfInBounds_toArray, List.set_cons_zero, List.set_cons_succ])
                  refine wpAnyH_done (by kernel_rfl) ?_ _
                  refine NoPanic.normal ?_
                  have HF := Lib.hid (And.intro (HYX.out.set4 3 3 7 sp2) hHeld)
                  clear z0 z1 z2 z3 g0 g1 g2 g3
                  go_wp2_with fail
                  go_meet
                  exact ⟨_, rfl, rfl, HF.out.1, HF.out.2, hS1⟩
                exact AllReadyH.nil
              exact AllReadyH.nil
            refine AllReadyH.cons (o := { dst := some 9, op := Op.alloc 25, type := 0, pos := "more.go:57", after := #[], guard := none }) rfl (fun K hK => ?_) ?_
            · go_simp
              refine hK.out _ _ ?_ (fun hHeld => ?_)
              · exact Held.step (by assumption) ((Below.refl _ _).alloc (Nat.le_refl _) _)
              clear hK K
              (try simp only [Act.put, List.setIfInBounds_toArray, List.set_cons_zero, List.set_cons_succ])
              refine wpAnyH_ready (rs := [5]) (by kernel_rfl) (by simp) ?_
              refine AllReadyH.cons (o := { dst := some 41, op := Op.call { callee := Callee.value (Operand.func 15), args := #[Operand.tmp 36, Operand.tmp 40], argTypes := #[25, 31] }, type := 36, pos := "more.go:57", after := #[{ on := 0, ground := Ground.data }, { on := 4, ground := Ground.data }], guard := none }) rfl (fun K hK => ?_) ?_
              · go_simp; go_at_call 15; refine (SY.out _).mono ?_; rintro e u1 ⟨rfl, hbu1⟩
                refine hK.out _ _ ?_ (fun hHeld => ?_)
                · exact Held.step (by assumption) hbu1
                clear hK K
                (try simp only [Act.put, List.setIfInBounds_toArray, List.set_cons_zero, List.set_cons_succ])
                refine wpAnyH_take (i := 6) (oi := { dst := some 35, op := Op.move (Operand.tmp 41), type := 36, pos := "more.go:57", after := #[{ on := 5, ground := Ground.data }], guard := none }) (v := .tuple #[.agg #[.int .i64 3, .int .i64 3, .int .i64 7, .string sp2], .int .i64 0]) rfl (by kernel_rfl) (by kernel_rfl) (by kernel_rfl) (fun _ _ _ h => h) (Or.inl ⟨by rfl, fun w' hSw => by ((try dsimp only at hSw); go_simp)⟩) (by assumption) ?_
                (try simp only [Act.put, List.setIfInBounds_toArray, List.set_cons_zero, List.set_cons_succ])
                refine wpAnyH_take (i := 7) (oi := { dst := some 42, op := Op.extract (Operand.tmp 35) 0, type := 25, pos := "more.go:57", after := #[{ on := 6, ground := Ground.data }], guard := none }) (v := .agg #[.int .i64 3, .int .i64 3, .int .i64 7, .string sp2]) rfl (by kernel_rfl) (by kernel_rfl) (by kernel_rfl) (fun _ _ _ h => h) (Or.inl ⟨by rfl, fun w' hSw => by ((try dsimp only at hSw); go_simp)⟩) (by assumption) ?_
                (try simp only [Act.put, List.setIfInBounds_toArray, List.set_cons_zero, List.set_cons_succ])
                refine wpAnyH_take (i := 8) (oi := { dst := some 43, op := Op.extract (Operand.tmp 35) 1, type := 35, pos := "more.go:57", after := #[{ on := 6, ground := Ground.data }, { on := 10, ground := Ground.gcOnly Go.Departure.lateStores }], guard := none }) (v := .int .i64 0) rfl (by kernel_rfl) (by kernel_rfl) (by kernel_rfl) (fun _ _ _ h => h) (Or.inl ⟨by rfl, fun w' hSw => by ((try dsimp only at hSw); go_simp)⟩) (by assumption) ?_
                (try simp only [Act.put, List.setIfInBounds_toArray, List.set_cons_zero, List.set_cons_succ])
                have HYX := Lib.hid (show PBox u1 (wr.heap.size) 0 0 0 ⟨#[]⟩ from (show PBox (wr.drew.alloc (.cells #[.int .i64 0, .int .i64 0, .int .i64 0, .string ⟨#[]⟩] 25)) wr.heap.size 0 0 0 ⟨#[]⟩ from PBox.new wr.drew 0 0 0 ⟨#[]⟩).kept hbu1)
                obtain ⟨⟨z0, z1, z2, z3⟩, g0, g1, g2, g3⟩ := And.intro HYX.out.cells HYX.out.free
                refine wpAnyH_ready (rs := [10]) (by kernel_rfl) (by simp) ?_
                refine AllReadyH.cons (o := { dst := none, op := Op.store 25 (Operand.tmp 9) (Operand.tmp 42), type := 0, pos := "more.go:57", after := #[{ on := 9, ground := Ground.data }, { on := 7, ground := Ground.data }, { on := 5, ground := Ground.chain }, { on := 0, ground := Ground.phase }, { on := 1, ground := Ground.phase }, { on := 2, ground := Ground.phase }, { on := 3, ground := Ground.phase }, { on := 4, ground := Ground.phase }, { on := 5, ground := Ground.phase }, { on := 6, ground := Ground.phase }, { on := 7, ground := Ground.phase }, { on := 8, ground := Ground.textOnly Go.Departure.lateStores }, { on := 9, ground := Ground.phase }], guard := none }) rfl (fun K hK => ?_) ?_
                · go_simp
                  refine hK.out _ _ ?_ (fun hHeld => ?_)
                  · exact held_set4 (by assumption) (Nat.le_refl _)
                  clear hK K
                  (try simp only [Act.put, List.setIfInBounds_toArray, List.set_cons_zero, List.set_cons_succ])
                  refine wpAnyH_take (i := 11) (oi := { dst := some 10, op := Op.assign (Operand.tmp 43), type := 35, pos := "more.go:57", after := #[{ on := 8, ground := Ground.data }, { on := 10, ground := Ground.chain }, { on := 0, ground := Ground.phase }, { on := 1, ground := Ground.phase }, { on := 2, ground := Ground.phase }, { on := 3, ground := Ground.phase }, { on := 4, ground := Ground.phase }, { on := 5, ground := Ground.phase }, { on := 6, ground := Ground.phase }, { on := 7, ground := Ground.phase }, { on := 8, ground := Ground.phase }, { on := 9, ground := Ground.phase }, { on := 10, ground := Ground.phase }], guard := none }) (v := .int .i64 0) rfl (by kernel_rfl) (by kernel_rfl) (by kernel_rfl) (fun _ _ _ h => h) (Or.inl ⟨by rfl, fun w' hSw => by ((try dsimp only at hSw); go_simp)⟩) (by assumption) ?_
                  (try simp only [Act.put, List.setIfInBounds_toArray, List.set_cons_zero, List.set_cons_succ])
                  refine wpAnyH_done (by kernel_rfl) ?_ _
                  refine NoPanic.normal ?_
                  have HF := Lib.hid (And.intro (HYX.out.set4 3 3 7 sp2) hHeld)
                  clear z0 z1 z2 z3 g0 g1 g2 g3
                  go_wp2_with fail
                  go_meet
                  exact ⟨_, rfl, rfl, HF.out.1, HF.out.2, (Nat.le_refl _)⟩
                exact AllReadyH.nil
              exact AllReadyH.nil
            exact AllReadyH.nil
          case rest =>
            obtain ⟨B9, rfl, rfl, hq⟩ := hcut
            have X1 := Lib.hid hq.1
            have HW1 := Lib.hid hq.2.1
            have HB9 := Lib.hid (show bP ≠ B9 ∧ bQ ≠ B9 from ⟨by have := P0.out.lt; have := hq.2.2; omega, by have := Q0.out.lt; have := hq.2.2; omega⟩)
            have P1 := Lib.hid (P0.out.kept hq.2.1)
            have Q1 := Lib.hid (Q0.out.kept hq.2.1)
            have HB1 := Lib.hid (HB0.out.trans (Below.mono hq.2.1 (Below.size HB0.out)))
            clear hq P0 Q0 HB0
            go_upto_region 9 with fail
            go_cut [11, 12] (fun s9 s10 wx => ∃ B, s9 = .pointer (some ⟨B, 0, none⟩) ∧ s10 = .int .i64 0 ∧ Hid (PBox wx B 3 3 7 sq2 ∧ Held wc wx ∧ wc.heap.size ≤ B))
            case first =>
              have A0 := fun r (h : Held wc r) => h.cell Q1.out.cells.1
              have A1 := fun r (h : Held wc r) => h.cell Q1.out.cells.2.1
              have A2 := fun r (h : Held wc r) => h.cell Q1.out.cells.2.2.1
              have A3 := fun r (h : Held wc r) => h.cell Q1.out.cells.2.2.2
              have D0 := fun r (h : Held wc r) => h.cell ((Below.cell HW1.out (World.block_lt_of_cell? wr _ HX.out.2.1)).trans HX.out.2.1)
              have D1 := fun r (h : Held wc r) => h.cell ((Below.cell HW1.out (World.block_lt_of_cell? wr _ HX.out.2.2.1)).trans HX.out.2.2.1)
              have D2 := fun r (h : Held wc r) => h.cell ((Below.cell HW1.out (World.block_lt_of_cell? wr _ HX.out.2.2.2.1)).trans HX.out.2.2.2.1)
              have D3 := fun r (h : Held wc r) => h.cell ((Below.cell HW1.out (World.block_lt_of_cell? wr _ HX.out.2.2.2.2)).trans HX.out.2.2.2.2)
              have e2 := E2.out
              have e3 := E3.out
              have e4 := E4.out
              have e5 := E5.out
              refine wp_region_noPanic ?_
              refine wp_region_held_drew (S := Held wc) (by kernel_rfl) ?_ (fun hHeld => ?_)
              · exact Held.start _
              refine wpAnyH_take (i := 0) (oi := { dst := some 45, op := Op.load 25 (Operand.tmp 6), type := 25, pos := "more.go:58", after := #[], guard := none }) (v := .agg #[.int .i64 3, .int .i64 3, .int .i64 7, .string sq]) rfl (by kernel_rfl) (by kernel_rfl) (by kernel_rfl) (fun _ _ _ h => h) (Or.inl ⟨by rfl, fun w' hSw => by ((try dsimp only at hSw); have := A0 _ hSw; have := A1 _ hSw; have := A2 _ hSw; have := A3 _ hSw; go_simp)⟩) (by assumption) ?_
              (try simp only [Act.put, List.setIfInBounds_toArray, List.set_cons_zero, List.set_cons_succ])
              refine wpAnyH_take (i := 1) (oi := { dst := some 46, op := Op.move (Operand.tmp 0), type := 38, pos := "more.go:58", after := #[], guard := none }) (v := .slice (some ⟨b, off, none⟩) n0 c0) rfl (by kernel_rfl) (by kernel_rfl) (by kernel_rfl) (fun _ _ _ h => h) (Or.inl ⟨by rfl, fun w' hSw => by ((try dsimp only at hSw); go_simp)⟩) (by assumption) ?_
              (try simp only [Act.put, List.setIfInBounds_toArray, List.set_cons_zero, List.set_cons_succ])
              refine wpAnyH_take (i := 2) (oi := { dst := some 47, op := Op.move (Operand.tmp 8), type := 3, pos := "more.go:58", after := #[], guard := none }) (v := .int .i64 k) rfl (by kernel_rfl) (by kernel_rfl) (by kernel_rfl) (fun _ _ _ h => h) (Or.inl ⟨by rfl, fun w' hSw => by ((try dsimp only at hSw); go_simp)⟩) (by assumption) ?_
              (try simp only [Act.put, List.setIfInBounds_toArray, List.set_cons_zero, List.set_cons_succ])
              refine wpAnyH_take (i := 3) (oi := { dst := some 48, op := Op.move (Operand.tmp 1), type := 3, pos := "more.go:58", after := #[], guard := none }) (v := .int .i64 a1) rfl (by kernel_rfl) (by kernel_rfl) (by kernel_rfl) (fun _ _ _ h => h) (Or.inl ⟨by rfl, fun w' hSw => by ((try dsimp only at hSw); go_simp)⟩) (by assumption) ?_
              (try simp only [Act.put, List.setIfInBounds_toArray, List.set_cons_zero, List.set_cons_succ])
              refine wpAnyH_take (i := 4) (oi := { dst := some 49, op := Op.move (Operand.tmp 7), type := 3, pos := "more.go:58", after := #[], guard := none }) (v := .int .i64 n0) rfl (by kernel_rfl) (by kernel_rfl) (by kernel_rfl) (fun _ _ _ h => h) (Or.inl ⟨by rfl, fun w' hSw => by ((try dsimp only at hSw); go_simp)⟩) (by assumption) ?_
              (try simp only [Act.put, List.setIfInBounds_toArray, List.set_cons_zero, List.set_cons_succ])
              refine wpAnyH_take (i := 5) (oi := { dst := some 50, op := Op.binOp BinOp.rem 3 (Operand.tmp 48) (Operand.tmp 49) 3, type := 3, pos := "more.go:58", after := #[{ on := 3, ground := Ground.data }, { on := 4, ground := Ground.data }], guard := none }) (v := .int .i64 (a1.tmod n0)) rfl (by kernel_rfl) (by kernel_rfl) (by kernel_rfl) (fun _ _ _ h => h) (Or.inl ⟨by rfl, fun w' hSw => by ((try dsimp only at hSw); go_simp)⟩) (by assumption) ?_
              (try simp only [Act.put, List.setIfInBounds_toArray, List.set_cons_zero, List.set_cons_succ])
              refine wpAnyH_take (i := 6) (oi := { dst := some 51, op := Op.move (Operand.tmp 7), type := 3, pos := "more.go:58", after := #[], guard := none }) (v := .int .i64 n0) rfl (by kernel_rfl) (by kernel_rfl) (by kernel_rfl) (fun _ _ _ h => h) (Or.inl ⟨by rfl, fun w' hSw => by ((try dsimp only at hSw); go_simp)⟩) (by assumption) ?_
              (try simp only [Act.put, List.setIfInBounds_toArray, List.set_cons_zero, List.set_cons_succ])
              refine wpAnyH_take (i := 7) (oi := { dst := some 52, op := Op.binOp BinOp.add 3 (Operand.tmp 50) (Operand.tmp 51) 3, type := 3, pos := "more.go:58", after := #[{ on := 5, ground := Ground.data }, { on := 6, ground := Ground.data }], guard := none }) (v := .int .i64 (a1.tmod n0 + n0)) rfl (by kernel_rfl) (by kernel_rfl) (by kernel_rfl) (fun _ _ _ h => h) (Or.inl ⟨by rfl, fun w' hSw => by ((try dsimp only at hSw); go_simp)⟩) (by assumption) ?_
              (try simp only [Act.put, List.setIfInBounds_toArray, List.set_cons_zero, List.set_cons_succ])
              refine wpAnyH_take (i := 8) (oi := { dst := some 53, op := Op.move (Operand.tmp 7), type := 3, pos := "more.go:58", after := #[], guard := none }) (v := .int .i64 n0) rfl (by kernel_rfl) (by kernel_rfl) (by kernel_rfl) (fun _ _ _ h => h) (Or.inl ⟨by rfl, fun w' hSw => by ((try dsimp only at hSw); go_simp)⟩) (by assumption) ?_
              (try simp only [Act.put, List.setIfInBounds_toArray, List.set_cons_zero, List.set_cons_succ])
              refine wpAnyH_take (i := 9) (oi := { dst := some 54, op := Op.binOp BinOp.rem 3 (Operand.tmp 52) (Operand.tmp 53) 3, type := 3, pos := "more.go:58", after := #[{ on := 7, ground := Ground.data }, { on := 8, ground := Ground.data }], guard := none }) (v := .int .i64 R) rfl (by kernel_rfl) (by kernel_rfl) (by kernel_rfl) (fun _ _ _ h => h) (Or.inl ⟨by rfl, fun w' hSw => by ((try dsimp only at hSw); go_simp)⟩) (by assumption) ?_
              (try simp only [Act.put, List.setIfInBounds_toArray, List.set_cons_zero, List.set_cons_succ])
              refine wpAnyH_take (i := 10) (oi := { dst := some 55, op := Op.binOp BinOp.add 3 (Operand.tmp 47) (Operand.tmp 54) 3, type := 3, pos := "more.go:58", after := #[{ on := 2, ground := Ground.data }, { on := 9, ground := Ground.data }], guard := none }) (v := .int .i64 (k + R)) rfl (by kernel_rfl) (by kernel_rfl) (by kernel_rfl) (fun _ _ _ h => h) (Or.inl ⟨by rfl, fun w' hSw => by ((try dsimp only at hSw); go_simp)⟩) (by assumption) ?_
              (try simp only [Act.put, List.setIfInBounds_toArray, List.set_cons_zero, List.set_cons_succ])
              refine wpAnyH_take (i := 11) (oi := { dst := some 56, op := Op.move (Operand.tmp 7), type := 3, pos := "more.go:58", after := #[], guard := none }) (v := .int .i64 n0) rfl (by kernel_rfl) (by kernel_rfl) (by kernel_rfl) (fun _ _ _ h => h) (Or.inl ⟨by rfl, fun w' hSw => by ((try dsimp only at hSw); go_simp)⟩) (by assumption) ?_
              (try simp only [Act.put, List.setIfInBounds_toArray, List.set_cons_zero, List.set_cons_succ])
              refine wpAnyH_take (i := 12) (oi := { dst := some 57, op := Op.binOp BinOp.rem 3 (Operand.tmp 55) (Operand.tmp 56) 3, type := 3, pos := "more.go:58", after := #[{ on := 10, ground := Ground.data }, { on := 11, ground := Ground.data }], guard := none }) (v := .int .i64 J) rfl (by kernel_rfl) (by kernel_rfl) (by kernel_rfl) (fun _ _ _ h => h) (Or.inl ⟨by rfl, fun w' hSw => by ((try dsimp only at hSw); go_simp)⟩) (by assumption) ?_
              (try simp only [Act.put, List.setIfInBounds_toArray, List.set_cons_zero, List.set_cons_succ])
              refine wpAnyH_take (i := 13) (oi := { dst := some 58, op := Op.indexAddr 38 (Operand.tmp 46) (Operand.tmp 57), type := 0, pos := "more.go:58", after := #[{ on := 1, ground := Ground.data }, { on := 12, ground := Ground.data }], guard := none }) (v := .pointer (some ⟨b, off + J * 4, none⟩)) rfl (by kernel_rfl) (by kernel_rfl) (by kernel_rfl) (fun _ _ _ h => h) (Or.inl ⟨by rfl, fun w' hSw => by ((try dsimp only at hSw); go_simp)⟩) (by assumption) ?_
              (try simp only [Act.put, List.setIfInBounds_toArray, List.set_cons_zero, List.set_cons_succ])
              refine wpAnyH_take (i := 14) (oi := { dst := some 59, op := Op.load 31 (Operand.tmp 58), type := 31, pos := "more.go:58", after := #[{ on := 13, ground := Ground.data }], guard := none }) (v := .agg #[.string z.key, .string z.val, .int .i64 z.blob, .int .i64 z.size]) rfl (by kernel_rfl) (by kernel_rfl) (by kernel_rfl) (fun _ _ _ h => h) (Or.inl ⟨by rfl, fun w' hSw => by ((try dsimp only at hSw); have := D0 _ hSw; have := D1 _ hSw; have := D2 _ hSw; have := D3 _ hSw; go_simp)⟩) (by assumption) ?_
              (try simp only [Act.put, List.setIfInBounds_toArray, List.set_cons_zero, List.set_cons_succ])
              refine wpAnyH_ready (rs := [15, 19]) (by kernel_rfl) (by simp) ?_
              refine AllReadyH.cons (o := { dst := some 60, op := Op.call { callee := Callee.value (Operand.func 15), args := #[Operand.tmp 45, Operand.tmp 59], argTypes := #[25, 31] }, type := 36, pos := "more.go:58", after := #[{ on := 0, ground := Ground.data }, { on := 14, ground := Ground.data }], guard := none }) rfl (fun K hK => ?_) ?_
              · go_simp; go_at_call 15; refine (SZ.out _).mono ?_; rintro e u1 ⟨rfl, hbu1⟩
                refine hK.out _ _ ?_ (fun hHeld => ?_)
                · exact Held.step (by assumption) hbu1
                clear hK K
                (try simp only [Act.put, List.setIfInBounds_toArray, List.set_cons_zero, List.set_cons_succ])
                refine wpAnyH_take (i := 16) (oi := { dst := some 44, op := Op.move (Operand.tmp 60), type := 36, pos := "more.go:58", after := #[{ on := 15, ground := Ground.data }], guard := none }) (v := .tuple #[.agg #[.int .i64 3, .int .i64 3, .int .i64 7, .string sq2], .int .i64 0]) rfl (by kernel_rfl) (by kernel_rfl) (by kernel_rfl) (fun _ _ _ h => h) (Or.inl ⟨by rfl, fun w' hSw => by ((try dsimp only at hSw); go_simp)⟩) (by assumption) ?_
                (try simp only [Act.put, List.setIfInBounds_toArray, List.set_cons_zero, List.set_cons_succ])
                refine wpAnyH_take (i := 17) (oi := { dst := some 61, op := Op.extract (Operand.tmp 44) 0, type := 25, pos := "more.go:58", after := #[{ on := 16, ground := Ground.data }], guard := none }) (v := .agg #[.int .i64 3, .int .i64 3, .int .i64 7, .string sq2]) rfl (by kernel_rfl) (by kernel_rfl) (by kernel_rfl) (fun _ _ _ h => h) (Or.inl ⟨by rfl, fun w' hSw => by ((try dsimp only at hSw); go_simp)⟩) (by assumption) ?_
                (try simp only [Act.put, List.setIfInBounds_toArray, List.set_cons_zero, List.set_cons_succ])
                refine wpAnyH_take (i := 18) (oi := { dst := some 62, op := Op.extract (Operand.tmp 44) 1, type := 35, pos := "more.go:58", after := #[{ on := 16, ground := Ground.data }, { on := 20, ground := Ground.gcOnly Go.Departure.lateStores }], guard := none }) (v := .int .i64 0) rfl (by kernel_rfl) (by kernel_rfl) (by kernel_rfl) (fun _ _ _ h => h) (Or.inl ⟨by rfl, fun w' hSw => by ((try dsimp only at hSw); go_simp)⟩) (by assumption) ?_
                (try simp only [Act.put, List.setIfInBounds_toArray, List.set_cons_zero, List.set_cons_succ])
                have hS1 := Below.size hHeld
                refine wpAnyH_ready (rs := [19]) (by kernel_rfl) (by simp) ?_
                refine AllReadyH.cons (o := { dst := some 11, op := Op.alloc 25, type := 0, pos := "more.go:58", after := #[], guard := none }) rfl (fun K hK => ?_) ?_
                · go_simp
                  refine hK.out _ _ ?_ (fun hHeld => ?_)
                  · exact Held.step (by assumption) ((Below.refl _ _).alloc (Nat.le_refl _) _)
                  clear hK K
                  (try simp only [Act.put, List.setIfInBounds_toArray, List.set_cons_zero, List.set_cons_succ])
                  have HYX := Lib.hid (show PBox (u1.alloc (.cells #[.int .i64 0, .int .i64 0, .int .i64 0, .string ⟨#[]⟩] 25)) (u1.heap.size) 0 0 0 ⟨#[]⟩ from PBox.new _ _ _ _ _)
                  generalize (u1.alloc (.cells #[.int .i64 0, .int .i64 0, .int .i64 0, .string ⟨#[]⟩] 25)) = V at *
                  obtain ⟨⟨z0, z1, z2, z3⟩, g0, g1, g2, g3⟩ := And.intro HYX.out.cells HYX.out.free
                  refine wpAnyH_ready (rs := [20]) (by kernel_rfl) (by simp) ?_
                  refine AllReadyH.cons (o := { dst := none, op := Op.store 25 (Operand.tmp 11) (Operand.tmp 61), type := 0, pos := "more.go:58", after := #[{ on := 19, ground := Ground.data }, { on := 17, ground := Ground.data }, { on := 15, ground := Ground.chain }, { on := 0, ground := Ground.phase }, { on := 1, ground := Ground.phase }, { on := 2, ground := Ground.phase }, { on := 3, ground := Ground.phase }, { on := 4, ground := Ground.phase }, { on := 5, ground := Ground.phase }, { on := 6, ground := Ground.phase }, { on := 7, ground := Ground.phase }, { on := 8, ground := Ground.phase }, { on := 9, ground := Ground.phase }, { on := 10, ground := Ground.phase }, { on := 11, ground := Ground.phase }, { on := 12, ground := Ground.phase }, { on := 13, ground := Ground.phase }, { on := 14, ground := Ground.phase }, { on := 15, ground := Ground.phase }, { on := 16, ground := Ground.phase }, { on := 17, ground := Ground.phase }, { on := 18, ground := Ground.textOnly Go.Departure.lateStores }, { on := 19, ground := Ground.phase }], guard := none }) rfl (fun K hK => ?_) ?_
                  · go_simp
                    refine hK.out _ _ ?_ (fun hHeld => ?_)
                    · exact held_set4 (by assumption) hS1
                    clear hK K
                    (try simp only [Act.put, List.setIfInBounds_toArray, List.set_cons_zero, List.set_cons_succ])
                    refine wpAnyH_take (i := 21) (oi := { dst := some 12, op := Op.assign (Operand.tmp 62), type := 35, pos := "more.go:58", after := #[{ on := 18, ground := Ground.data }, { on := 20, ground := Ground.chain }, { on := 0, ground := Ground.phase }, { on := 1, ground := Ground.phase }, { on := 2, ground := Ground.phase }, { on := 3, ground := Ground.phase }, { on := 4, ground := Ground.phase }, { on := 5, ground := Ground.phase }, { on := 6, ground := Ground.phase }, { on := 7, ground := Ground.phase }, { on := 8, ground := Ground.phase }, { on := 9, ground := Ground.phase }, { on := 10, ground := Ground.phase }, { on := 11, ground := Ground.phase }, { on := 12, ground := Ground.phase }, { on := 13, ground := Ground.phase }, { on := 14, ground := Ground.phase }, { on := 15, ground := Ground.phase }, { on := 16, ground := Ground.phase }, { on := 17, ground := Ground.phase }, { on := 18, ground := Ground.phase }, { on := 19, ground := Ground.phase }, { on := 20, ground := Ground.phase }], guard := none }) (v := .int .i64 0) rfl (by kernel_rfl) (by kernel_rfl) (by kernel_rfl) (fun _ _ _ h => h) (Or.inl ⟨by rfl, fun w' hSw => by ((try dsimp only at hSw); go_simp)⟩) (by assumption) ?_
                    (try simp only [Act.put, List.setIfInBounds_toArray, List.set_cons_zero, List.set_cons_succ])
                    refine wpAnyH_done (by kernel_rfl) ?_ _
                    refine NoPanic.normal ?_
                    have HF := Lib.hid (And.intro (HYX.out.set4 3 3 7 sq2) hHeld)
                    clear z0 z1 z2 z3 g0 g1 g2 g3
                    go_wp2_with fail
                    go_meet
                    exact ⟨_, rfl, rfl, HF.out.1, HF.out.2, hS1⟩
                  exact AllReadyH.nil
                exact AllReadyH.nil
              refine AllReadyH.cons (o := { dst := some 11, op := Op.alloc 25, type := 0, pos := "more.go:58", after := #[], guard := none }) rfl (fun K hK => ?_) ?_
              · go_simp
                refine hK.out _ _ ?_ (fun hHeld => ?_)
                · exact Held.step (by assumption) ((Below.refl _ _).alloc (Nat.le_refl _) _)
                clear hK K
                (try simp only [Act.put, List.setIfInBounds_toArray, List.set_cons_zero, List.set_cons_succ])
                refine wpAnyH_ready (rs := [15]) (by kernel_rfl) (by simp) ?_
                refine AllReadyH.cons (o := { dst := some 60, op := Op.call { callee := Callee.value (Operand.func 15), args := #[Operand.tmp 45, Operand.tmp 59], argTypes := #[25, 31] }, type := 36, pos := "more.go:58", after := #[{ on := 0, ground := Ground.data }, { on := 14, ground := Ground.data }], guard := none }) rfl (fun K hK => ?_) ?_
                · go_simp; go_at_call 15; refine (SZ.out _).mono ?_; rintro e u1 ⟨rfl, hbu1⟩
                  refine hK.out _ _ ?_ (fun hHeld => ?_)
                  · exact Held.step (by assumption) hbu1
                  clear hK K
                  (try simp only [Act.put, List.setIfInBounds_toArray, List.set_cons_zero, List.set_cons_succ])
                  refine wpAnyH_take (i := 16) (oi := { dst := some 44, op := Op.move (Operand.tmp 60), type := 36, pos := "more.go:58", after := #[{ on := 15, ground := Ground.data }], guard := none }) (v := .tuple #[.agg #[.int .i64 3, .int .i64 3, .int .i64 7, .string sq2], .int .i64 0]) rfl (by kernel_rfl) (by kernel_rfl) (by kernel_rfl) (fun _ _ _ h => h) (Or.inl ⟨by rfl, fun w' hSw => by ((try dsimp only at hSw); go_simp)⟩) (by assumption) ?_
                  (try simp only [Act.put, List.setIfInBounds_toArray, List.set_cons_zero, List.set_cons_succ])
                  refine wpAnyH_take (i := 17) (oi := { dst := some 61, op := Op.extract (Operand.tmp 44) 0, type := 25, pos := "more.go:58", after := #[{ on := 16, ground := Ground.data }], guard := none }) (v := .agg #[.int .i64 3, .int .i64 3, .int .i64 7, .string sq2]) rfl (by kernel_rfl) (by kernel_rfl) (by kernel_rfl) (fun _ _ _ h => h) (Or.inl ⟨by rfl, fun w' hSw => by ((try dsimp only at hSw); go_simp)⟩) (by assumption) ?_
                  (try simp only [Act.put, List.setIfInBounds_toArray, List.set_cons_zero, List.set_cons_succ])
                  refine wpAnyH_take (i := 18) (oi := { dst := some 62, op := Op.extract (Operand.tmp 44) 1, type := 35, pos := "more.go:58", after := #[{ on := 16, ground := Ground.data }, { on := 20, ground := Ground.gcOnly Go.Departure.lateStores }], guard := none }) (v := .int .i64 0) rfl (by kernel_rfl) (by kernel_rfl) (by kernel_rfl) (fun _ _ _ h => h) (Or.inl ⟨by rfl, fun w' hSw => by ((try dsimp only at hSw); go_simp)⟩) (by assumption) ?_
                  (try simp only [Act.put, List.setIfInBounds_toArray, List.set_cons_zero, List.set_cons_succ])
                  have HYX := Lib.hid (show PBox u1 (wc.heap.size) 0 0 0 ⟨#[]⟩ from (show PBox (wc.drew.alloc (.cells #[.int .i64 0, .int .i64 0, .int .i64 0, .string ⟨#[]⟩] 25)) wc.heap.size 0 0 0 ⟨#[]⟩ from PBox.new wc.drew 0 0 0 ⟨#[]⟩).kept hbu1)
                  obtain ⟨⟨z0, z1, z2, z3⟩, g0, g1, g2, g3⟩ := And.intro HYX.out.cells HYX.out.free
                  refine wpAnyH_ready (rs := [20]) (by kernel_rfl) (by simp) ?_
                  refine AllReadyH.cons (o := { dst := none, op := Op.store 25 (Operand.tmp 11) (Operand.tmp 61), type := 0, pos := "more.go:58", after := #[{ on := 19, ground := Ground.data }, { on := 17, ground := Ground.data }, { on := 15, ground := Ground.chain }, { on := 0, ground := Ground.phase }, { on := 1, ground := Ground.phase }, { on := 2, ground := Ground.phase }, { on := 3, ground := Ground.phase }, { on := 4, ground := Ground.phase }, { on := 5, ground := Ground.phase }, { on := 6, ground := Ground.phase }, { on := 7, ground := Ground.phase }, { on := 8, ground := Ground.phase }, { on := 9, ground := Ground.phase }, { on := 10, ground := Ground.phase }, { on := 11, ground := Ground.phase }, { on := 12, ground := Ground.phase }, { on := 13, ground := Ground.phase }, { on := 14, ground := Ground.phase }, { on := 15, ground := Ground.phase }, { on := 16, ground := Ground.phase }, { on := 17, ground := Ground.phase }, { on := 18, ground := Ground.textOnly Go.Departure.lateStores }, { on := 19, ground := Ground.phase }], guard := none }) rfl (fun K hK => ?_) ?_
                  · go_simp
                    refine hK.out _ _ ?_ (fun hHeld => ?_)
                    · exact held_set4 (by assumption) (Nat.le_refl _)
                    clear hK K
                    (try simp only [Act.put, List.setIfInBounds_toArray, List.set_cons_zero, List.set_cons_succ])
                    refine wpAnyH_take (i := 21) (oi := { dst := some 12, op := Op.assign (Operand.tmp 62), type := 35, pos := "more.go:58", after := #[{ on := 18, ground := Ground.data }, { on := 20, ground := Ground.chain }, { on := 0, ground := Ground.phase }, { on := 1, ground := Ground.phase }, { on := 2, ground := Ground.phase }, { on := 3, ground := Ground.phase }, { on := 4, ground := Ground.phase }, { on := 5, ground := Ground.phase }, { on := 6, ground := Ground.phase }, { on := 7, ground := Ground.phase }, { on := 8, ground := Ground.phase }, { on := 9, ground := Ground.phase }, { on := 10, ground := Ground.phase }, { on := 11, ground := Ground.phase }, { on := 12, ground := Ground.phase }, { on := 13, ground := Ground.phase }, { on := 14, ground := Ground.phase }, { on := 15, ground := Ground.phase }, { on := 16, ground := Ground.phase }, { on := 17, ground := Ground.phase }, { on := 18, ground := Ground.phase }, { on := 19, ground := Ground.phase }, { on := 20, ground := Ground.phase }], guard := none }) (v := .int .i64 0) rfl (by kernel_rfl) (by kernel_rfl) (by kernel_rfl) (fun _ _ _ h => h) (Or.inl ⟨by rfl, fun w' hSw => by ((try dsimp only at hSw); go_simp)⟩) (by assumption) ?_
                    (try simp only [Act.put, List.setIfInBounds_toArray, List.set_cons_zero, List.set_cons_succ])
                    refine wpAnyH_done (by kernel_rfl) ?_ _
                    refine NoPanic.normal ?_
                    have HF := Lib.hid (And.intro (HYX.out.set4 3 3 7 sq2) hHeld)
                    clear z0 z1 z2 z3 g0 g1 g2 g3
                    go_wp2_with fail
                    go_meet
                    exact ⟨_, rfl, rfl, HF.out.1, HF.out.2, (Nat.le_refl _)⟩
                  exact AllReadyH.nil
                exact AllReadyH.nil
              exact AllReadyH.nil
            case rest =>
              obtain ⟨B11, rfl, rfl, hq⟩ := hcut
              rename_i wd
              have Y2 := Lib.hid hq.1
              have X2 := Lib.hid (X1.out.kept hq.2.1)
              have P2 := Lib.hid (P1.out.kept hq.2.1)
              have Q2 := Lib.hid (Q1.out.kept hq.2.1)
              have HB2 := Lib.hid (HB1.out.trans (Below.mono hq.2.1 (Below.size HB1.out)))
              have HB11 := Lib.hid (show bP ≠ B11 ∧ bQ ≠ B11 from ⟨by have := P1.out.lt; have := hq.2.2; omega, by have := Q1.out.lt; have := hq.2.2; omega⟩)
              clear hq X1 P1 Q1 HB1 HW1 HX E2 E3 E4 E5
              go_upto_region 12 with fail
              have A0 := fun r (h : PBox r B9 3 3 7 sp2 ∧ PBox r B11 3 3 7 sq2) => h.1.cells.1
              have A1 := fun r (h : PBox r B9 3 3 7 sp2 ∧ PBox r B11 3 3 7 sq2) => h.1.cells.2.1
              have A2 := fun r (h : PBox r B9 3 3 7 sp2 ∧ PBox r B11 3 3 7 sq2) => h.1.cells.2.2.1
              have A3 := fun r (h : PBox r B9 3 3 7 sp2 ∧ PBox r B11 3 3 7 sq2) => h.1.cells.2.2.2
              have D0 := fun r (h : PBox r B9 3 3 7 sp2 ∧ PBox r B11 3 3 7 sq2) => h.2.cells.1
              have D1 := fun r (h : PBox r B9 3 3 7 sp2 ∧ PBox r B11 3 3 7 sq2) => h.2.cells.2.1
              have D2 := fun r (h : PBox r B9 3 3 7 sp2 ∧ PBox r B11 3 3 7 sq2) => h.2.cells.2.2.1
              have D3 := fun r (h : PBox r B9 3 3 7 sp2 ∧ PBox r B11 3 3 7 sq2) => h.2.cells.2.2.2
              refine wp_region_noPanic ?_
              refine wp_region_held_drew (S := fun r => PBox r B9 3 3 7 sp2 ∧ PBox r B11 3 3 7 sq2) (by kernel_rfl) ?_ (fun hHeld => ?_)
              · exact ⟨X2.out.kept (Below.refl _ _).drew, Y2.out.kept (Below.refl _ _).drew⟩
              have P3 := Lib.hid (P2.out.kept (Below.refl _ _).drew)
              have Q3 := Lib.hid (Q2.out.kept (Below.refl _ _).drew)
              have HB3 := Lib.hid (HB2.out.drew)
              generalize wc.drew = W at *
              clear P2 Q2 HB2 X2 Y2
              refine wpAnyH_take (i := 0) (oi := { dst := some 69, op := Op.load 25 (Operand.tmp 9), type := 25, pos := "more.go:62", after := #[], guard := none }) (v := .agg #[.int .i64 3, .int .i64 3, .int .i64 7, .string sp2]) rfl (by kernel_rfl) (by kernel_rfl) (by kernel_rfl) (fun _ _ _ h => h) (Or.inl ⟨by rfl, fun w' hSw => by ((try dsimp only at hSw); have := A0 _ hSw; have := A1 _ hSw; have := A2 _ hSw; have := A3 _ hSw; go_simp)⟩) (by assumption) ?_
              (try simp only [Act.put, List.setIfInBounds_toArray, List.set_cons_zero, List.set_cons_succ])
              refine wpAnyH_take (i := 1) (oi := { dst := some 70, op := Op.load 25 (Operand.tmp 11), type := 25, pos := "more.go:62", after := #[{ on := 2, ground := Ground.gcOnly Go.Departure.lateStores }], guard := none }) (v := .agg #[.int .i64 3, .int .i64 3, .int .i64 7, .string sq2]) rfl (by kernel_rfl) (by kernel_rfl) (by kernel_rfl) (fun _ _ _ h => h) (Or.inl ⟨by rfl, fun w' hSw => by ((try dsimp only at hSw); have := D0 _ hSw; have := D1 _ hSw; have := D2 _ hSw; have := D3 _ hSw; go_simp)⟩) (by assumption) ?_
              (try simp only [Act.put, List.setIfInBounds_toArray, List.set_cons_zero, List.set_cons_succ])
              obtain ⟨⟨a0, a1, a2, a3⟩, ff0, ff1, ff2, ff3⟩ := And.intro P3.out.cells P3.out.free
              refine wpAnyH_ready (rs := [2]) (by kernel_rfl) (by simp) ?_
              refine AllReadyH.cons (o := { dst := none, op := Op.store 25 (Operand.tmp 5) (Operand.tmp 69), type := 0, pos := "more.go:62", after := #[{ on := 0, ground := Ground.data }, { on := 0, ground := Ground.phase }, { on := 1, ground := Ground.textOnly Go.Departure.lateStores }], guard := none }) rfl (fun K hK => ?_) ?_
              · go_simp
                refine hK.out _ _ ?_ (fun hHeld => ?_)
                · exact ⟨(show PBox _ _ _ _ _ _ from hHeld.1.heap (heap_set4 W bP _ _ _ _ _ (fun e => HB9.out.1 e.symm))), (show PBox _ _ _ _ _ _ from hHeld.2.heap (heap_set4 W bP _ _ _ _ _ (fun e => HB11.out.1 e.symm)))⟩
                clear hK K
                (try simp only [Act.put, List.setIfInBounds_toArray, List.set_cons_zero, List.set_cons_succ])
                have P4 := Lib.hid (P3.out.set4 3 3 7 sp2)
                have Q4 := Lib.hid (Q3.out.heap (heap_set4 W bP (.int .i64 3) (.int .i64 3) (.int .i64 7) (.string sp2) _ (fun e => HLE.out.1 e.symm)))
                have HB4 := Lib.hid (below_set4 (u0 := .int .i64 3) (u1 := .int .i64 3) (u2 := .int .i64 7) (u3 := .string sp2) HB3.out HLE.out.2.1)
                clear a0 a1 a2 a3 ff0 ff1 ff2 ff3
                generalize (((W.setCell ⟨bP, 0, none⟩ (.int .i64 3)).setCell ⟨bP, 1, none⟩ (.int .i64 3)).setCell ⟨bP, 2, none⟩ (.int .i64 7)).setCell ⟨bP, 3, none⟩ (.string sp2) = W4 at *
                obtain ⟨⟨a0, a1, a2, a3⟩, ff0, ff1, ff2, ff3⟩ := And.intro Q4.out.cells Q4.out.free
                refine wpAnyH_ready (rs := [3]) (by kernel_rfl) (by simp) ?_
                refine AllReadyH.cons (o := { dst := none, op := Op.store 25 (Operand.tmp 6) (Operand.tmp 70), type := 0, pos := "more.go:62", after := #[{ on := 1, ground := Ground.data }, { on := 2, ground := Ground.chain }, { on := 0, ground := Ground.phase }, { on := 1, ground := Ground.phase }, { on := 2, ground := Ground.phase }], guard := none }) rfl (fun K hK => ?_) ?_
                · go_simp
                  refine hK.out _ _ ?_ (fun hHeld => ?_)
                  · exact ⟨(show PBox _ _ _ _ _ _ from hHeld.1.heap (heap_set4 W4 bQ _ _ _ _ _ (fun e => HB9.out.2 e.symm))), (show PBox _ _ _ _ _ _ from hHeld.2.heap (heap_set4 W4 bQ _ _ _ _ _ (fun e => HB11.out.2 e.symm)))⟩
                  clear hK K
                  (try simp only [Act.put, List.setIfInBounds_toArray, List.set_cons_zero, List.set_cons_succ])
                  refine wpAnyH_done (by kernel_rfl) ?_ _
                  refine NoPanic.normal ?_
                  have P5 := Lib.hid (P4.out.heap (heap_set4 W4 bQ (.int .i64 3) (.int .i64 3) (.int .i64 7) (.string sq2) _ HLE.out.1))
                  have Q5 := Lib.hid (Q4.out.set4 3 3 7 sq2)
                  have HB5 := Lib.hid (below_set4 (u0 := .int .i64 3) (u1 := .int .i64 3) (u2 := .int .i64 7) (u3 := .string sq2) HB4.out HLE.out.2.2)
                  clear a0 a1 a2 a3 ff0 ff1 ff2 ff3 A0 A1 A2 A3 D0 D1 D2 D3
                  generalize (((W4.setCell ⟨bQ, 0, none⟩ (.int .i64 3)).setCell ⟨bQ, 1, none⟩ (.int .i64 3)).setCell ⟨bQ, 2, none⟩ (.int .i64 7)).setCell ⟨bQ, 3, none⟩ (.string sq2) = W5 at *
                  go_wp2_with fail
                  go_roundw
                  case rel => exact ⟨k + 1, by omega, by go_num, setS mp y, setS mq z, HS1.out.1, HS2.out.1, HS1.out.2, HS2.out.2, by rw [← HE1.out]; exact P5.out, by rw [← HE2.out]; exact Q5.out, HB5.out⟩
                  case measure => simp [intOf]; omega
                exact AllReadyH.nil
              exact AllReadyH.nil
        · obtain rfl : n0 = k := by omega
          have q1 : ¬ (n0 : Int) < (n0 : Int) := by omega
          have hll : l0.length = n0 := HN.out
          have c1 := HC.out
          have d1 := HD.out
          rw [← hll, List.take_length] at c1
          rw [List.take_of_length_le (by rw [(rot_perm l0 R).length_eq]; omega)] at d1
          have hE := order_end (rot_perm l0 R) HA.out HBq.out c1 d1
          have hlen : mp.length = n0 := by rw [c1.length_eq, hll]
          rw [← hE] at Q0
          have CY := Lib.hid (CE.out mp HA.out)
          rw [(goodP_body (k := 3) rfl HA.out).2] at CY
          unfold NewL at CY
          rw [hlen] at CY
          clear hE hll c1 d1 hlen
          generalize str (bodyOf mp) = sp at *
          have ez : ∀ w, (binOp .eql 25 (.agg #[.int .i64 3, .int .i64 3, .int .i64 7, .string sp]) (.agg #[.int .i64 3, .int .i64 3, .int .i64 7, .string sp])).run Try.prog w = .ok (.bool true) w := fun w => by rw [eq_pages, eqP4_iff.2 ⟨rfl, rfl, rfl, rfl⟩]
          obtain ⟨a0, a1', a2, a3⟩ := P0.out.cells
          obtain ⟨b0, b1, b2, b3⟩ := Q0.out.cells
          go_wp2_with fail
          refine (CY.out _).mono ?_; rintro e w9 ⟨A9, c9, rfl, _, hb⟩
          have HB9 := Lib.hid (HB0.out.trans (hb.mono (Below.size HB0.out)))
          clear hb a0 a1' a2 a3 b0 b1 b2 b3
          go_wp2_with fail
          go_ret
          exact ⟨by simp, HB9.out⟩

/-! The row's step. -/
set_option maxRecDepth 100000 in
theorem lifted (os : Os) (started : os.Started) (H : Type) (enc : TypeId × Value → H) :
    ReturnsInHanded {} Try.checked os 4 .any (Rows.bucketOrderSpec.pre6 enc Try.prog Try.f4 Rows.bucketOrderRow.domain false) (Rows.bucketOrderSpec.post enc Try.prog Try.f4 false true false false) := by
  refine returnsInHanded_of_change (C := Try.checked) own started (by kernel_rfl) Try.func4
    (ChangeSpec.witness6 (enc := enc) (C := Try.checked) false ⟨#[], #[.slice none 0 0, .int .i64 0], []⟩ 8 (by kernel_rfl) (by kernel_rfl) (by kernel_rfl) (by kernel_rfl)) ?_
  intro W base args ds gs before hval0 hW hcnd _
  have hval : ∀ (j : Nat) t v, Try.f4.params[j]? = some t → args[j]? = some v → Value.okWide Try.prog W .any base t v := hval0
  have hW' := hW
  obtain ⟨p, q, hA0, hV, rfl, hfz, hnd⟩ := hW
  have hA : DataW.TrodAll enc Try.prog W 0 (fun _ => true) true Try.f4.params.toList args.toList ds p := hA0
  rw [Try.params4] at hA hval
  obtain ⟨v0, vs0, d0, ds0, p0, q0, hargs, rfl, rfl, h0, r0⟩ := trodAll_cons hA
  obtain ⟨v1, vs1, d1, ds1, p1, q1, rfl, rfl, rfl, h1, r1⟩ := trodAll_cons r0
  obtain ⟨rfl, rfl, rfl⟩ := trodAll_nil r1
  obtain rfl : args = #[v0, v1] := by cases args; simp_all
  obtain ⟨rfl, rfl⟩ := trodVars_none hV
  obtain ⟨A0, n0, c0, rfl⟩ := okWide_slice Try.underlying38 (hval 0 38 v0 rfl rfl)
  have k0 := h0
  have lt0 : ∀ x ∈ p0, x.block < W.heap.size := by obtain ⟨m, hm⟩ := k0; exact DataW.trod_lt m _ _ _ hm
  obtain ⟨l0, w0, e0, f0⟩ := (by obtain ⟨fuel, hf⟩ := h0; exact ces_read hf (fun _ => rfl) : ∃ l, CesL W A0 n0 l ∧ n0 ≤ c0 ∧ c0 ≤ maxLen)
  obtain ⟨a1, rfl, rfl, rfl, w1⟩ := open_int Try.underlying3 (hval 1 3 v1 rfl rfl) h1
  clear hA0 hval0
  refine (walk A0 n0 c0 l0 a1 W w0 (Nat.le_trans e0 f0) w1).mono fun e W' ⟨he, bel⟩ => ?_
  subst he
  exact ⟨_, rfl, _, _, _, [], _, [], hW', trodAll_mk1 (shut_bool Try.underlying4 _), (trodAll_cons_mk (Below.trod laidOut (by kernel_rfl) (of_decide_eq_true (by kernel_rfl)) k0 bel lt0) (trodAll_cons_mk (shut_int Try.underlying3 w1) trodAll_mk0)), rfl, bel.frame _, fun h => by cases h⟩

theorem over : Rows.bucketOrderRow.holds Try.pinned (OpenSpec.ofChange Rows.bucketOrderSpec) :=
  OpenClaim.holds_of_wide 4 Try.f4 rfl rfl rfl rfl rfl rfl rfl ⟨rfl, rfl, rfl, rfl, rfl⟩ rfl rfl rfl rfl rfl (by kernel_rfl) Try.func4 (by kernel_rfl)
    (of_decide_eq_true (by kernel_rfl)) (by unfold Func.isWrapper; first | (rw [if_pos (by decide +kernel)]; kernel_rfl) | (rw [if_neg (by decide +kernel)]; exact ⟨rfl, rfl⟩))
    (fun os started H enc _ => lifted os started H enc)

/-- The statement. -/
theorem proved : Rows.BucketOrderSaid := over
end Go.Proofs.Ytljegjcajlkgiaa.bucketOrder
