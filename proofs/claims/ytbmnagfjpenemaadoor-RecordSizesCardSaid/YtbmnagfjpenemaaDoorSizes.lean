/- For every record that may be, its bytes are as many as its texts and its numbers take. The row speaks of the table of names as the program's text lays it; the card ties that to the text. -/
import Derived.Test.YtbmnagfjpenemaaDoorRows
import Derived.Test.YtbmnagfjpenemaaDoorCards
import Derived.Test.YtbmnagfjpenemaaDoorTie
import Derived.Test.YtbmnagfjpenemaaDoorAlive
import Derived.Test.YtbmnagfjpenemaaDoorLight
import Derived.Test.YtbmnagfjpenemaaDoorBase
import Derived.Deep.QuietTactic
import Derived.LoopTactic
import Derived.StillTailTactics
import Derived.BigQuiet
import Derived.Deep.DeepCutAuto
import Derived.Deep.RegionLaw
import Derived.Deep.CutBlock
import Derived.Lib.Hide
import Derived.WalkKit
import Derived.ProofKit
import Derived.OpenShut
import Derived.ChangeOld
import Derived.Below
import Derived.Carry
import Derived.LaidMore
import Derived.SevenTiedAt
namespace Go.Proofs.YtbmnagfjpenemaaDoor.recordSizes
open Go.ChangeShapes Go.WideShapes Go.ChangeAt Go.RowKit
set_option linter.unusedVariables false
set_option linter.unusedSimpArgs false
set_option maxRecDepth 100000
theorem flat_snocP (l : List Pt) (k : Nat) (h : k < l.length) : ((l.take (k + 1)).flatMap encP).length = ((l.take k).flatMap encP).length + (6 + (l.getD k nilP).bs.size) := by
  rw [flat_snoc l k nilP h, List.length_append, encP_length]
theorem flat_snocT (l : List Tx) (k : Nat) (h : k < l.length) : ((l.take (k + 1)).flatMap encT).length = ((l.take k).flatMap encT).length + (10 + 2 * (l.getD k nilT).pages.length) := by
  rw [flat_snoc l k nilT h, List.length_append, encT_length]
theorem flat_mono {α : Type} {f : α → BA} (l : List α) (k : Nat) : ((l.take k).flatMap f).length ≤ (l.flatMap f).length := by
  have e : l.flatMap f = (l.take k).flatMap f ++ (l.drop k).flatMap f := by rw [← List.flatMap_append, List.take_append_drop]
  rw [e, List.length_append]
  omega

set_option maxHeartbeats 100000000 in
theorem walk (r : Rc) (h : Hd) (w : World) (hr : RcM w.heap.size w r h) (hn : NamesAt w) :
    Calls Tryd.prog 4 #[rcv r h] w fun e w' => e = .returned (.bool true) ∧ Below w.heap.size w w' := by
  have HN := Lib.hid hn
  have A0 := Lib.hid (fun u (hb : Below w.heap.size w u) => alive_yes u (HN.out.kept hb))
  have LI := Lib.hid (fun u (hb : Below w.heap.size w u) => light_any r h u (hr.kept hb) hb.size)
  have PU := Lib.hid (fun u (hb : Below w.heap.size w u) => put_any r h u (hr.kept hb) hb.size)
  have RI := Lib.hid (fun u (hb : Below w.heap.size w u) => right_is r h u (hr.kept hb) hb.size)
  have HRM := Lib.hid hr
  have HSM := Lib.hid (fun (g : rightR r = true) => enc_small (rightR_iff.1 g))
  have HEL := Lib.hid (encR_length r)
  have HPS := Lib.hid (fun (g : rightR r = true) => (show (str (putS r)).size = (encR r).length from by unfold putS; rw [g]; rfl))
  have HRT := Lib.hid (fun (g : rightR r = true) => rightR_iff.1 g)
  obtain ⟨kind, tx, prev, next, key, had, ⟨ok, ov, ob, oz⟩, pages, pts, txs, dys⟩ := r
  obtain ⟨⟨A1, n1, c1⟩, ⟨A2, n2, c2⟩, ⟨A3, n3, c3⟩, ⟨A4, n4, c4⟩⟩ := h
  have HMP := Lib.hid hr.p
  have HMT := Lib.hid hr.t
  have HM1 := Lib.hid hr.g.1
  have HM2 := Lib.hid hr.p.1
  have HM3 := Lib.hid hr.t.1
  have HM4 := Lib.hid hr.d.1
  unfold rcv at *
  dsimp only at *
  clear hr hn
  generalize str (putS ⟨kind, tx, prev, next, key, had, ⟨ok, ov, ob, oz⟩, pages, pts, txs, dys⟩) = b at *
  generalize hz : rightR ⟨kind, tx, prev, next, key, had, ⟨ok, ov, ob, oz⟩, pages, pts, txs, dys⟩ = z at *
  clear hz
  generalize hE : (encR ⟨kind, tx, prev, next, key, had, ⟨ok, ov, ob, oz⟩, pages, pts, txs, dys⟩).length = E at *
  clear hE
  have HX := Lib.hid (Bx.new w #[.int .i64 kind, .int .i64 tx, .int .i64 prev, .int .i64 next, .string key, .bool had, .string ok, .string ov, .int .i64 ob, .int .i64 oz, .slice A1 n1 c1, .slice A2 n2 c2, .slice A3 n3 c3, .slice A4 n4 c4] 29)
  have HB := Lib.hid ((Below.refl w.heap.size w).alloc (Nat.le_refl _) (.cells #[.int .i64 kind, .int .i64 tx, .int .i64 prev, .int .i64 next, .string key, .bool had, .string ok, .string ov, .int .i64 ob, .int .i64 oz, .slice A1 n1 c1, .slice A2 n2 c2, .slice A3 n3 c3, .slice A4 n4 c4] 29))
  go_enter Tryd.func4, Tryd.ntmps4
  go_upto_region 1 with fail
  generalize w.alloc (.cells #[.int .i64 kind, .int .i64 tx, .int .i64 prev, .int .i64 next, .string key, .bool had, .string ok, .string ov, .int .i64 ob, .int .i64 oz, .slice A1 n1 c1, .slice A2 n2 c2, .slice A3 n3 c3, .slice A4 n4 c4] 29) = W at *
  have hcs := fun j => HX.out.cell j
  have x0 := hcs 0
  have x1 := hcs 1
  have x2 := hcs 2
  have x3 := hcs 3
  have x4 := hcs 4
  have x5 := hcs 5
  have x6 := hcs 6
  have x7 := hcs 7
  have x8 := hcs 8
  have x9 := hcs 9
  have x10 := hcs 10
  have x11 := hcs 11
  have x12 := hcs 12
  have x13 := hcs 13
  clear hcs
  simp only [List.getElem?_toArray, List.getElem?_cons_zero, List.getElem?_cons_succ] at x0 x1 x2 x3 x4 x5 x6 x7 x8 x9 x10 x11 x12 x13
  go_wp2_with fail
  refine (LI.out _ HB.out).mono ?_; rintro e w1 ⟨li, rfl, _, hb⟩
  have HB1 := Lib.hid (HB.out.trans (hb.mono HB.out.size))
  have HX1 := Lib.hid (HX.out.held hb)
  clear hb HX HB LI
  clear x0 x1 x2 x3 x4 x5 x6 x7 x8 x9 x10 x11 x12 x13
  cases li with
  | false =>
    go_wp2_with fail
    refine (A0.out _ HB1.out).mono ?_; rintro e w2 ⟨rfl, hb⟩
    have HB2 := Lib.hid (HB1.out.trans (hb.mono HB1.out.size))
    clear hb
    go_wp2_with fail
    go_ret
    exact ⟨rfl, HB2.out⟩
  | true =>
    go_wp2_with fail
    refine (A0.out _ HB1.out).mono ?_; rintro e w2 ⟨rfl, hb⟩
    have HB2 := Lib.hid (HB1.out.trans (hb.mono HB1.out.size))
    have HX2 := Lib.hid (HX1.out.held hb)
    clear hb HX1 HB1
    have hcs := fun j => HX2.out.cell j
    have x0 := hcs 0
    have x1 := hcs 1
    have x2 := hcs 2
    have x3 := hcs 3
    have x4 := hcs 4
    have x5 := hcs 5
    have x6 := hcs 6
    have x7 := hcs 7
    have x8 := hcs 8
    have x9 := hcs 9
    have x10 := hcs 10
    have x11 := hcs 11
    have x12 := hcs 12
    have x13 := hcs 13
    clear hcs
    simp only [List.getElem?_toArray, List.getElem?_cons_zero, List.getElem?_cons_succ] at x0 x1 x2 x3 x4 x5 x6 x7 x8 x9 x10 x11 x12 x13
    go_wp2_with fail
    refine (PU.out _ HB2.out).mono ?_; rintro e w3 ⟨rfl, hb⟩
    have HB3 := Lib.hid (HB2.out.trans (hb.mono HB2.out.size))
    have HX3 := Lib.hid (HX2.out.held hb)
    clear hb HX2 HB2 PU
    clear x0 x1 x2 x3 x4 x5 x6 x7 x8 x9 x10 x11 x12 x13
    have hcs := fun j => HX3.out.cell j
    have x0 := hcs 0
    have x1 := hcs 1
    have x2 := hcs 2
    have x3 := hcs 3
    have x4 := hcs 4
    have x5 := hcs 5
    have x6 := hcs 6
    have x7 := hcs 7
    have x8 := hcs 8
    have x9 := hcs 9
    have x10 := hcs 10
    have x11 := hcs 11
    have x12 := hcs 12
    have x13 := hcs 13
    clear hcs
    simp only [List.getElem?_toArray, List.getElem?_cons_zero, List.getElem?_cons_succ] at x0 x1 x2 x3 x4 x5 x6 x7 x8 x9 x10 x11 x12 x13
    cases z with
    | false =>
      go_wp2_with fail
      refine (RI.out _ HB3.out).mono ?_; rintro e w4 ⟨rfl, hb⟩
      have HB4 := Lib.hid (HB3.out.trans (hb.mono HB3.out.size))
      clear hb
      go_wp2_with fail
      go_ret
      exact ⟨rfl, HB4.out⟩
    | true =>
      obtain ⟨k1, k2, k3, k4, k5, k6, k7, k8, k9, k10⟩ := HRT.out rfl
      dsimp only at k1 k2 k3 k4 k5 k6 k7 k8 k9 k10
      obtain ⟨o1, o2, _, _⟩ := rightO_in k6
      dsimp only at o1 o2
      have p1 := (everyB_iff.1 k8).1
      have t1 := (everyB_iff.1 k9).1
      have d1 := (everyB_iff.1 k10).1
      have g1 := (everyB_iff.1 k7).1
      have q1 := HM1.out
      have q2 := HM2.out
      have q3 := HM3.out
      have q4 := HM4.out
      have sm := HSM.out rfl
      have bs := HPS.out rfl
      have el := HEL.out
      obtain ⟨FP, hFP⟩ : ∃ n, n = (pts.flatMap encP).length := ⟨_, rfl⟩
      obtain ⟨FT, hFT⟩ : ∃ n, n = (txs.flatMap encT).length := ⟨_, rfl⟩
      rw [← hFP, ← hFT] at el
      obtain ⟨K0, hK0⟩ : ∃ K : Nat, K = 12 + 2 + key.size + 2 + 2 + ok.size + 2 + ov.size + 4 + 2 + 2 * n1 + 2 + 2 + 2 + 6 * n4 := ⟨_, rfl⟩
      have hKE : E = K0 + FP + FT := by omega
      have f1 : IntKind.i64.wrap (14 + (key.size : Int)) = 14 + (key.size : Int) := IntWalk.i64_in _ (by omega)
      have f2 : IntKind.i64.wrap (14 + (key.size : Int) + 2) = 14 + (key.size : Int) + 2 := IntWalk.i64_in _ (by omega)
      have HB0 := Lib.hid (fun k => flat_mono (f := encP) pts k)
      have HB0T := Lib.hid (fun k => flat_mono (f := encT) txs k)
      have HSP := Lib.hid (fun k => flat_snocP pts k)
      have HST := Lib.hid (fun k => flat_snocT txs k)
      have HKN := Lib.hid (show E = K0 + FP + FT ∧ E ≤ 20000 from ⟨hKE, sm⟩)
      have HKD := Lib.hid hK0
      have HFP := Lib.hid hFP
      have HFT := Lib.hid hFT
      have HBS := Lib.hid bs
      have y1 : key.size ≤ 255 := k5
      have HL2 := Lib.hid (show n2 ≤ 40 from by omega)
      have HL3 := Lib.hid (show n3 ≤ 8 from by omega)
      have y2 : n1 ≤ 64 := by omega
      have y4 : n4 ≤ 64 := by omega
      clear k1 k2 k3 k4 k5 k6 k7 k8 k9 k10 p1 t1 d1 g1 q1 q2 q3 q4 sm bs el hFP hFT hKE hK0 f1 f2
      have z1 : (key.size : Int) ≤ 255 := by omega
      have z2 : (ok.size : Int) ≤ 16 := by omega
      have z3 : (ov.size : Int) ≤ 40 := by omega
      have z4 : (n1 : Int) ≤ 64 := by omega
      have z5 : (n4 : Int) ≤ 64 := by omega
      go_wp2_with fail
      go_loopw [5, 63] (fun u x wr => ∃ k : Nat, k ≤ n2 ∧ u = .int .i64 ((K0 + ((pts.take k).flatMap encP).length : Nat) : Int) ∧ x = .int .i64 k ∧ Hid (Below w.heap.size w wr ∧ Bx wr w.heap.size #[.int .i64 kind, .int .i64 tx, .int .i64 prev, .int .i64 next, .string key, .bool had, .string ok, .string ov, .int .i64 ob, .int .i64 oz, .slice A1 n1 c1, .slice A2 n2 c2, .slice A3 n3 c3, .slice A4 n4 c4] 29)) (fun _ x _ => n2 - (intOf x).toNat)
      case atStart => exact ⟨0, Nat.zero_le _, congrArg (Value.int .i64) (by have := HKD.out; simp only [List.take_zero, List.flatMap_nil, List.length_nil]; omega), rfl, ⟨HB3.out, HX3.out⟩⟩
      case round =>
        obtain ⟨k, hk, rfl, rfl, hq⟩ := hrel
        have HQ := Lib.hid hq.out
        clear hq
        by_cases hlt : k < n2
        · have hkl : k < pts.length := by rw [HM2.out]; exact hlt
          have i1 : (0 : Int) ≤ (k : Int) := by omega
          have i2 : (k : Int) < (n2 : Int) := by omega
          have i3 : (n2 : Int) ≤ 40 := by have := HL2.out; omega
          have hs := HSP.out k hkl
          have HL := Lib.hid (HB0.out (k + 1))
          obtain ⟨b', off, rfl, hb, hp', _⟩ := (HMP.out.kept HQ.out.1).2.2 k hlt
          obtain ⟨x0, x1, x2⟩ := hp'
          obtain ⟨m1, hm1⟩ : ∃ m, m = K0 + ((pts.take (k + 1)).flatMap encP).length := ⟨_, rfl⟩
          obtain ⟨m0, hm0⟩ : ∃ m, m = K0 + ((pts.take k).flatMap encP).length := ⟨_, rfl⟩
          have ms : m1 = m0 + (6 + (pts.getD k nilP).bs.size) := by rw [hm1, hm0, hs]; omega
          have mb : m1 ≤ 20000 := by have := HL.out; have := HKN.out; have := HFP.out; omega
          rw [← hm0]
          have Hm1 := Lib.hid hm1
          have Hms := Lib.hid ms
          generalize pts.getD k nilP = x at *
          have d1 : (m0 : Int) ≤ 20000 := by omega
          have d2 : (x.bs.size : Int) ≤ 20000 := by omega
          have d3 : (m0 : Int) + (6 + (x.bs.size : Int)) ≤ 20000 := by omega
          have HA := Lib.hid (fun (o : Obj) => And.intro (HQ.out.1.alloc (Nat.le_of_lt HQ.out.2.lt) o) (HQ.out.2.alloc o))
          clear hb hkl hm0 hm1 hs ms mb
          go_wp2_with fail
          go_roundw
          case rel => exact ⟨k + 1, by omega, congrArg (Value.int .i64) (by rw [← Hm1.out, Hms.out]; omega), by go_num, HA.out _⟩
          case measure => simp [intOf]; omega
        · obtain rfl : n2 = k := by omega
          have e0 : ((pts.take n2).flatMap encP).length = FP := by rw [HFP.out, List.take_of_length_le (by rw [HM2.out]; omega)]
          rw [e0]
          clear e0 hlt
          have hcs := fun j => HQ.out.2.cell j
          have x0 := hcs 0
          have x1 := hcs 1
          have x2 := hcs 2
          have x3 := hcs 3
          have x4 := hcs 4
          have x5 := hcs 5
          have x6 := hcs 6
          have x7 := hcs 7
          have x8 := hcs 8
          have x9 := hcs 9
          have x10 := hcs 10
          have x11 := hcs 11
          have x12 := hcs 12
          have x13 := hcs 13
          clear hcs
          simp only [List.getElem?_toArray, List.getElem?_cons_zero, List.getElem?_cons_succ] at x0 x1 x2 x3 x4 x5 x6 x7 x8 x9 x10 x11 x12 x13
          go_wp2_with fail
          go_loopw [5, 77] (fun u x wr => ∃ k : Nat, k ≤ n3 ∧ u = .int .i64 ((K0 + FP + ((txs.take k).flatMap encT).length : Nat) : Int) ∧ x = .int .i64 k ∧ Hid (Below w.heap.size w wr ∧ Bx wr w.heap.size #[.int .i64 kind, .int .i64 tx, .int .i64 prev, .int .i64 next, .string key, .bool had, .string ok, .string ov, .int .i64 ob, .int .i64 oz, .slice A1 n1 c1, .slice A2 n2 c2, .slice A3 n3 c3, .slice A4 n4 c4] 29)) (fun _ x _ => n3 - (intOf x).toNat)
          case atStart => exact ⟨0, Nat.zero_le _, congrArg (Value.int .i64) (by simp only [List.take_zero, List.flatMap_nil, List.length_nil, Nat.add_zero]), rfl, ⟨HQ.out.1, HQ.out.2⟩⟩
          case round =>
            obtain ⟨k, hk, rfl, rfl, hq⟩ := hrel
            have HQ := Lib.hid hq.out
            clear hq
            by_cases hlt : k < n3
            · have hkl : k < txs.length := by rw [HM3.out]; exact hlt
              have i1 : (0 : Int) ≤ (k : Int) := by omega
              have i2 : (k : Int) < (n3 : Int) := by omega
              have i3 : (n3 : Int) ≤ 8 := by have := HL3.out; omega
              have hs := HST.out k hkl
              have HL := Lib.hid (HB0T.out (k + 1))
              obtain ⟨b', off, rfl, hb, hp', _⟩ := (HMT.out.kept HQ.out.1).2.2 k hlt
              obtain ⟨x0, x1, x2, A5, n5, c5, x3, hin⟩ := hp'
              have h5 := hin.1
              have h6 := hin.2.1
              clear hin
              obtain ⟨m1, hm1⟩ : ∃ m, m = K0 + FP + ((txs.take (k + 1)).flatMap encT).length := ⟨_, rfl⟩
              obtain ⟨m0, hm0⟩ : ∃ m, m = K0 + FP + ((txs.take k).flatMap encT).length := ⟨_, rfl⟩
              have ms : m1 = m0 + (10 + 2 * (txs.getD k nilT).pages.length) := by rw [hm1, hm0, hs]; omega
              have mb : m1 ≤ 20000 := by have := HL.out; have := HKN.out; have := HFT.out; omega
              rw [← hm0]
              have Hm1 := Lib.hid hm1
              have Hms := Lib.hid ms
              generalize txs.getD k nilT = x at *
              obtain rfl : x.pages.length = n5 := h5
              have d1 : (m0 : Int) ≤ 20000 := by omega
              have d2 : (x.pages.length : Int) ≤ 20000 := by omega
              have d3 : (m0 : Int) + (10 + 2 * (x.pages.length : Int)) ≤ 20000 := by omega
              have HA := Lib.hid (fun (o : Obj) => And.intro (HQ.out.1.alloc (Nat.le_of_lt HQ.out.2.lt) o) (HQ.out.2.alloc o))
              clear hb hkl hm0 hm1 hs ms mb
              go_wp2_with fail
              go_roundw
              case rel => exact ⟨k + 1, by omega, congrArg (Value.int .i64) (by rw [← Hm1.out, Hms.out]; omega), by go_num, HA.out _⟩
              case measure => simp [intOf]; omega
            · obtain rfl : n3 = k := by omega
              have e0 : ((txs.take n3).flatMap encT).length = FT := by rw [HFT.out, List.take_of_length_le (by rw [HM3.out]; omega)]
              rw [e0]
              clear e0 hlt
              have hcs := fun j => HQ.out.2.cell j
              have x0 := hcs 0
              have x1 := hcs 1
              have x2 := hcs 2
              have x3 := hcs 3
              have x4 := hcs 4
              have x5 := hcs 5
              have x6 := hcs 6
              have x7 := hcs 7
              have x8 := hcs 8
              have x9 := hcs 9
              have x10 := hcs 10
              have x11 := hcs 11
              have x12 := hcs 12
              have x13 := hcs 13
              clear hcs
              simp only [List.getElem?_toArray, List.getElem?_cons_zero, List.getElem?_cons_succ] at x0 x1 x2 x3 x4 x5 x6 x7 x8 x9 x10 x11 x12 x13
              have i4 : (b.size : Int) ≤ 9223372036854775807 := by have := HBS.out; have := HKN.out; omega
              have RI4 := Lib.hid (RI.out wr HQ.out.1)
              have e6 : (b.size : Int) = ((K0 + FP + FT : Nat) : Int) := by have := HBS.out; have := HKN.out; omega
              have e7 : b.size = K0 + FP + FT := by omega
              rw [← e7]
              clear e6
              go_wp2_with fail
              refine RI4.out.mono ?_; rintro e w4 ⟨rfl, hb⟩
              have HB4 := Lib.hid (HQ.out.1.trans (hb.mono HQ.out.1.size))
              clear hb
              go_wp2_with fail
              go_ret
              exact ⟨rfl, HB4.out⟩

/-! The row's step. -/
set_option maxRecDepth 100000 in
theorem lifted (os : Os) (started : os.Started) (H : Type) (enc : TypeId × Value → H) :
    ReturnsInHanded {} Tryd.checked os 4 .any (fun w args => (Rows.recordSizesSpec.pre enc Tryd.prog Tryd.f4 [] false w args ∧ laidMetH Tryd.prog laidL w) ∧ sizedMet enc Tryd.prog Tryd.f4 (OpenSpec.ofChange Rows.recordSizesSpec) false w args)
      (Rows.recordSizesSpec.post enc Tryd.prog Tryd.f4 false true false false) := by
  refine returnsInHanded_of_change_and (C := Tryd.checked) (X := fun w _ => laidMetH Tryd.prog laidL w) (fun _ _ _ hh h => h.of_heap hh) own started (by kernel_rfl) Tryd.func4
    (ChangeSpec.witness_shaped (enc := enc) (C := Tryd.checked) (os := os) (X := fun w _ => laidMetH Tryd.prog laidL w) false (World.doorLaid Tryd.prog 400 os) #[.agg #[.int .i64 0, .int .i64 0, .int .i64 0, .int .i64 0, .string ByteArray.empty, .bool false, .string ByteArray.empty, .string ByteArray.empty, .int .i64 0, .int .i64 0, .slice none 0 0, .slice none 0 0, .slice none 0 0, .slice none 0 0]] 8 rfl (World.shaped_of_RefB (by kernel_rfl) (by kernel_rfl)) (by kernel_rfl) (by kernel_rfl) (by kernel_rfl) (door_met os _)) ?_
  intro W base args ds gs before hval0 hW _ _ hL _
  have hval : ∀ (j : Nat) t v, Tryd.f4.params[j]? = some t → args[j]? = some v → Value.okWide Tryd.prog W .any base t v := hval0
  have hW' := hW
  obtain ⟨p, q, hA0, hV, rfl, hfz, hnd⟩ := hW
  have hA : DataW.TrodAll enc Tryd.prog W 0 (fun _ => true) true Tryd.f4.params.toList args.toList ds p := hA0
  rw [Tryd.params4] at hA hval
  obtain ⟨v0, vs0, d0, ds0, p0, q0, hargs, rfl, rfl, h0, r0⟩ := trodAll_cons hA
  obtain ⟨rfl, rfl, rfl⟩ := trodAll_nil r0
  obtain rfl : args = #[v0] := by cases args; simp_all
  obtain ⟨rfl, rfl⟩ := trodVars_none hV
  have k0 := h0
  have lt0 : ∀ x ∈ p0, x.block < W.heap.size := by obtain ⟨m, hm⟩ := k0; exact DataW.trod_lt m _ _ _ hm
  obtain ⟨r0r, r0h, rfl, r0m⟩ := rec_read (hval 0 29 v0 rfl rfl) h0 (fun _ => rfl)
  clear hA0 hval0
  refine (walk r0r r0h W r0m (of_laid hL)).mono fun e W' ⟨he, bel⟩ => ?_
  subst he
  exact ⟨_, rfl, _, _, _, [], _, [], hW', trodAll_mk1 (shut_bool Tryd.underlying4 _), (trodAll_cons_mk (Below.trod laidOut (by kernel_rfl) (of_decide_eq_true (by kernel_rfl)) k0 bel lt0) trodAll_mk0), rfl, bel.frame _, fun h => by cases h⟩

/-- The row's statement. -/
theorem over : Rows.RecordSizesSaid :=
  OpenClaim.holds_of_wide 4 Tryd.f4 rfl rfl rfl rfl rfl rfl rfl ⟨rfl, rfl, rfl, rfl, rfl⟩ rfl rfl rfl rfl rfl (by kernel_rfl) Tryd.func4 (by kernel_rfl)
    (of_decide_eq_true (by kernel_rfl)) (by unfold Func.isWrapper; first | (rw [if_pos (by decide +kernel)]; kernel_rfl) | (rw [if_neg (by decide +kernel)]; exact ⟨rfl, rfl⟩))
    (fun os started H enc _ => lifted os started H enc)

/-- The card. -/
theorem proved : Rows.RecordSizesCardSaid :=
  Claim7.holds_tied_plain_at .later [] [.data] true Rows.recordSizesCard.stood.harness false
    over (fun _ h => by cases h) (by kernel_rfl) (fun _ h => by cases h) recordSizes_row_tie rfl ⟨rfl, rfl⟩ (by kernel_rfl) rfl
    (fun f fn hf hfn => by
      obtain rfl : f = 4 := Option.some.inj ((show Tryd.prog.funcNamed "honeycomb/honeycomblaw12.RecordSizes" = some 4 by kernel_rfl).symm.trans hf) |>.symm
      obtain rfl : fn = Tryd.f4 := (Option.some.inj (Tryd.func4.symm.trans hfn)).symm
      exact ⟨by kernel_rfl, fun j t ht => by
        rw [Tryd.params4] at ht
        have hm : t ∈ [29] := by simpa using Array.mem_of_getElem? ht
        have hall : ([29].all fun u => !Tryd.prog.wantsStandIn u) = true := by kernel_rfl
        exact (show Tryd.prog.wantsStandIn t = false by simpa using List.all_eq_true.1 hall t hm)⟩)
    (by kernel_rfl)
end Go.Proofs.YtbmnagfjpenemaaDoor.recordSizes
