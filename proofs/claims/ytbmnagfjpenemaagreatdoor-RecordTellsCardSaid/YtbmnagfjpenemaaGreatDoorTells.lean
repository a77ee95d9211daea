/- Every record is written as the document writes it, and read back as it was; the pages that it changes, each kind of name; what was answered stays as it was, and none shares memory with another one. The row speaks of the table of names as the program's text lays it; the card ties that to the text. -/
import Derived.Test.YtbmnagfjpenemaaGreatDoorRows
import Derived.Test.YtbmnagfjpenemaaGreatDoorCards
import Derived.Test.YtbmnagfjpenemaaGreatDoorTie
import Derived.Test.YtbmnagfjpenemaaGreatDoorTl
import Derived.Deep.RegionHeld3
import Derived.Deep.QuietTactic
import Derived.LoopTactic
import Derived.StillTailTactics
import Derived.BigQuiet
import Derived.Deep.DeepCutAuto
import Derived.Deep.RegionLaw
import Derived.Deep.CutBlock
import Derived.Lib.Hide
import Derived.WalkKit
import Derived.ProofKit
import Derived.OpenShut
import Derived.ChangeOld
import Derived.Below
import Derived.Carry
import Derived.LaidMore
import Derived.SevenTiedAt
namespace Go.Proofs.YtbmnagfjpenemaaGreatDoor.recordTells
open Go.ChangeShapes Go.WideShapes Go.ChangeAt Go.RowKit
set_option linter.unusedVariables false
set_option linter.unusedSimpArgs false
set_option maxRecDepth 100000

set_option maxRecDepth 100000 in
set_option maxHeartbeats 100000000 in
theorem walk (r : Rc) (h : Hd) (a1 : Int) (w : World) (hr : RcM w.heap.size w r h) (w1 : (Lit.int .i64 a1).wf = true) (hn : NamesAt w) :
    Calls Tryz.prog 3 #[rcv r h, .int .i64 a1] w fun e w' => e = .returned (.bool true) ∧ Below w.heap.size w w' := by
  have HN := Lib.hid hn
  have A0 := Lib.hid (fun u (hb : Below w.heap.size w u) => alive_yes u (HN.out.kept hb))
  have LI := Lib.hid (fun u (hb : Below w.heap.size w u) => light_any r h u (hr.kept hb) hb.size)
  have PU := Lib.hid (fun u (hb : Below w.heap.size w u) => put_any r h u (hr.kept hb) hb.size)
  have RU := Lib.hid (fun u (hb : Below w.heap.size w u) => rput_is r h u (hr.kept hb) hb.size)
  have RT := Lib.hid (fun u (hb : Below w.heap.size w u) => right_is r h u (hr.kept hb) hb.size)
  have NA := Lib.hid (fun u (hb : Below w.heap.size w u) => name_any a1 u (HN.out.kept hb))
  have TO := Lib.hid (fun u (hb : Below w.heap.size w u) (hl : r.pts.length ≤ 1000000) => touches_any r h u (hr.kept hb) hb.size hl)
  have RO := Lib.hid (fun u (hb : Below w.heap.size w u) (hl : r.pts.length ≤ 1000000) => Bk.rtouches_is r h u (hr.kept hb) hb.size hl)
  have HRM := Lib.hid hr
  unfold rcv at LI PU RU RT TO RO ⊢
  clear hr hn w1
  have HX := Lib.hid (Bx.new w #[.int .i64 r.kind, .int .i64 r.tx, .int .i64 r.prev, .int .i64 r.next, .string r.key, .bool r.had, .string r.old.k, .string r.old.v, .int .i64 r.old.b, .int .i64 r.old.z, .slice h.g.A h.g.n h.g.c, .slice h.p.A h.p.n h.p.c, .slice h.t.A h.t.n h.t.c, .slice h.d.A h.d.n h.d.c] 29)
  have HB := Lib.hid ((Below.refl w.heap.size w).alloc (Nat.le_refl _) (.cells #[.int .i64 r.kind, .int .i64 r.tx, .int .i64 r.prev, .int .i64 r.next, .string r.key, .bool r.had, .string r.old.k, .string r.old.v, .int .i64 r.old.b, .int .i64 r.old.z, .slice h.g.A h.g.n h.g.c, .slice h.p.A h.p.n h.p.c, .slice h.t.A h.t.n h.t.c, .slice h.d.A h.d.n h.d.c] 29))
  go_enter Tryz.func3, Tryz.ntmps3
  go_upto_region 1 with fail
  generalize w.alloc (.cells #[.int .i64 r.kind, .int .i64 r.tx, .int .i64 r.prev, .int .i64 r.next, .string r.key, .bool r.had, .string r.old.k, .string r.old.v, .int .i64 r.old.b, .int .i64 r.old.z, .slice h.g.A h.g.n h.g.c, .slice h.p.A h.p.n h.p.c, .slice h.t.A h.t.n h.t.c, .slice h.d.A h.d.n h.d.c] 29) = W at *
  have hcs := fun j => HX.out.cell j
  have x0 := hcs 0
  have x1 := hcs 1
  have x2 := hcs 2
  have x3 := hcs 3
  have x4 := hcs 4
  have x5 := hcs 5
  have x6 := hcs 6
  have x7 := hcs 7
  have x8 := hcs 8
  have x9 := hcs 9
  have x10 := hcs 10
  have x11 := hcs 11
  have x12 := hcs 12
  have x13 := hcs 13
  clear hcs
  simp only [List.getElem?_toArray, List.getElem?_cons_zero, List.getElem?_cons_succ] at x0 x1 x2 x3 x4 x5 x6 x7 x8 x9 x10 x11 x12 x13
  go_wp2_with fail
  refine (LI.out _ HB.out).mono ?_; rintro e U ⟨li, rfl, hli, hb⟩
  have HLI := Lib.hid hli
  have hb' := hb
  replace HB := Lib.hid (HB.out.trans (hb.mono HB.out.size))
  replace HX := Lib.hid (HX.out.held hb)
  clear hb hb'
  clear x0 x1 x2 x3 x4 x5 x6 x7 x8 x9 x10 x11 x12 x13
  clear LI hli
  cases li with
  | false =>
    go_wp2_with fail
    refine (A0.out _ HB.out).mono ?_; rintro e wz ⟨rfl, hb⟩
    have HBZ := Lib.hid (HB.out.trans (hb.mono HB.out.size))
    clear hb
    go_wp2_with fail
    go_ret
    exact ⟨rfl, HBZ.out⟩
  | true =>
    have HPL := Lib.hid (show r.pts.length ≤ 60 from HLI.out rfl)
    clear HLI
    go_wp2_with fail
    refine (A0.out _ HB.out).mono ?_; rintro e U ⟨rfl, hb⟩
    have hb' := hb
    replace HB := Lib.hid (HB.out.trans (hb.mono HB.out.size))
    replace HX := Lib.hid (HX.out.held hb)
    clear hb hb'
    clear A0
    obtain ⟨sb, hsb⟩ : ∃ sb, str (putS r) = sb := ⟨_, rfl⟩
    obtain ⟨z, hz⟩ : ∃ z, rightR r = z := ⟨_, rfl⟩
    rw [hsb, hz] at PU RU
    rw [hz] at RT
    have HSB := Lib.hid hsb
    have HZR := Lib.hid hz
    have eqs : (sb.toList == sb.toList) = true := by rw [beq_iff_eq]
    clear hsb hz
    have hcs := fun j => HX.out.cell j
    have x0 := hcs 0
    have x1 := hcs 1
    have x2 := hcs 2
    have x3 := hcs 3
    have x4 := hcs 4
    have x5 := hcs 5
    have x6 := hcs 6
    have x7 := hcs 7
    have x8 := hcs 8
    have x9 := hcs 9
    have x10 := hcs 10
    have x11 := hcs 11
    have x12 := hcs 12
    have x13 := hcs 13
    clear hcs
    simp only [List.getElem?_toArray, List.getElem?_cons_zero, List.getElem?_cons_succ] at x0 x1 x2 x3 x4 x5 x6 x7 x8 x9 x10 x11 x12 x13
    go_wp2_with fail
    refine (PU.out _ HB.out).mono ?_; rintro e U ⟨rfl, hb⟩
    have hb' := hb
    replace HB := Lib.hid (HB.out.trans (hb.mono HB.out.size))
    replace HX := Lib.hid (HX.out.held hb)
    clear hb hb'
    clear x0 x1 x2 x3 x4 x5 x6 x7 x8 x9 x10 x11 x12 x13
    clear PU
    have hcs := fun j => HX.out.cell j
    have x0 := hcs 0
    have x1 := hcs 1
    have x2 := hcs 2
    have x3 := hcs 3
    have x4 := hcs 4
    have x5 := hcs 5
    have x6 := hcs 6
    have x7 := hcs 7
    have x8 := hcs 8
    have x9 := hcs 9
    have x10 := hcs 10
    have x11 := hcs 11
    have x12 := hcs 12
    have x13 := hcs 13
    clear hcs
    simp only [List.getElem?_toArray, List.getElem?_cons_zero, List.getElem?_cons_succ] at x0 x1 x2 x3 x4 x5 x6 x7 x8 x9 x10 x11 x12 x13
    go_wp2_with fail
    refine (RU.out _ HB.out).mono ?_; rintro e U ⟨rfl, hb⟩
    have hb' := hb
    replace HB := Lib.hid (HB.out.trans (hb.mono HB.out.size))
    replace HX := Lib.hid (HX.out.held hb)
    clear hb hb'
    clear x0 x1 x2 x3 x4 x5 x6 x7 x8 x9 x10 x11 x12 x13
    clear RU
    obtain ⟨N, hN⟩ : ∃ N, str (nm a1) = N := ⟨_, rfl⟩
    rw [hN] at NA
    have HNM := Lib.hid hN
    clear hN
    go_upto_region 6 with fail
    go_cut [39] (fun z wx => z = .bool (decide (1 ≤ a1 ∧ a1 ≤ 7)) ∧ wx = U)
    case first =>
      by_cases k1 : 1 ≤ a1
      · by_cases k2 : a1 ≤ 7
        · have HD := Lib.hid (show true = decide (1 ≤ a1 ∧ a1 ≤ 7) from (decide_eq_true ⟨k1, k2⟩).symm)
          go_wp2_with fail
          go_meet
          exact ⟨congrArg Value.bool HD.out, rfl⟩
        · have HD := Lib.hid (show false = decide (1 ≤ a1 ∧ a1 ≤ 7) from (decide_eq_false (fun h => k2 h.2)).symm)
          go_wp2_with fail
          go_meet
          exact ⟨congrArg Value.bool HD.out, rfl⟩
      · have HD := Lib.hid (show false = decide (1 ≤ a1 ∧ a1 ≤ 7) from (decide_eq_false (fun h => k1 h.1)).symm)
        go_wp2_with fail
        go_meet
        exact ⟨congrArg Value.bool HD.out, rfl⟩
    case rest =>
    obtain ⟨rfl, rfl⟩ := hcut
    obtain ⟨dk, hdk⟩ : ∃ dk, decide (1 ≤ a1 ∧ a1 ≤ 7) = dk := ⟨_, rfl⟩
    rw [hdk]
    have HDK := Lib.hid hdk
    clear hdk
    go_upto_if 39 with fail
    go_cut [9] (fun z wx => NmP wc N z wx)
    case first =>
      cases dk with
      | true =>
        obtain ⟨k1, k2⟩ := of_decide_eq_true HDK.out
        obtain ⟨k, rfl⟩ : ∃ k : Nat, a1 = (k : Int) + 1 := ⟨(a1 - 1).toNat, by omega⟩
        have hk7 : k < 7 := by omega
        have hld := nrow_at wc k hk7
        rw [HNM.out] at hld
        obtain ⟨WR, hWR⟩ : ∃ WR, WR = wc.alloc (.cells nRow.toArray 9) := ⟨_, rfl⟩
        have NB := run_nbs wc
        rw [← hWR] at NB hld
        have HWR := Lib.hid (show Held wc WR from by rw [hWR]; exact (Below.refl _ _).alloc (Nat.le_refl _) _)
        have k0 : (0 : Int) ≤ (k : Int) := by omega
        have k7 : (k : Int) < 7 := by omega
        clear hWR hk7 HNM NA HB HX HDK k1 k2
        go_upto_region 7 with fail
        refine wp_region_list ?_
        refine wpList_bs rfl _ _ _ rfl _ ?_ NB ?_
        · simp only [List.map_toArray, List.map_cons, List.map_nil, Act.eval]
        clear NB
        go_wp2_with fail
        go_meet
        exact ⟨rfl, HWR.out⟩
      | false =>
        have HE := Lib.hid (show N = ⟨#[]⟩ from by rw [← HNM.out]; unfold nm; rw [if_neg (of_decide_eq_false HDK.out)]; rfl)
        go_wp2_with fail
        go_meet
        exact ⟨by rw [HE.out], Below.refl _ _⟩
    case rest =>
      obtain ⟨rfl, hb⟩ := hcut
      replace HB := Lib.hid (HB.out.trans (Below.mono hb HB.out.size))
      replace HX := Lib.hid (HX.out.held hb)
      clear hb HNM HDK
      go_upto_region 8 with fail
      go_upto_region 9 with fail
      have HBK := Lib.hid (Bk.Bks.new w.heap.size wc HB.out.size)
      have hb := (Below.refl wc.heap.size wc).alloc (Nat.le_refl _) (.cells Bk.bookC 46)
      have hb' := hb
      replace HB := Lib.hid (HB.out.trans (hb.mono HB.out.size))
      replace HX := Lib.hid (HX.out.held hb)
      clear hb hb'
      unfold Bk.bookC at *
      obtain ⟨B, hB⟩ : ∃ B, B = wc.heap.size := ⟨_, rfl⟩
      rw [← hB] at HBK ⊢
      clear hB
      generalize wc.alloc (.cells #[.slice none 0 0, .slice none 0 0, .slice none 0 0, .slice none 0 0, .slice none 0 0, .slice none 0 0, .slice none 0 0, .slice none 0 0, .slice none 0 0, .slice none 0 0, .slice none 0 0, .slice none 0 0, .slice none 0 0, .slice none 0 0, .slice none 0 0, .slice none 0 0, .slice none 0 0, .slice none 0 0] 46) = W1 at *
      have eqn : (N.toList == N.toList) = true := by rw [beq_iff_eq]
      have hcs := fun j => HX.out.cell j
      have x0 := hcs 0
      have x1 := hcs 1
      have x2 := hcs 2
      have x3 := hcs 3
      have x4 := hcs 4
      have x5 := hcs 5
      have x6 := hcs 6
      have x7 := hcs 7
      have x8 := hcs 8
      have x9 := hcs 9
      have x10 := hcs 10
      have x11 := hcs 11
      have x12 := hcs 12
      have x13 := hcs 13
      clear hcs
      simp only [List.getElem?_toArray, List.getElem?_cons_zero, List.getElem?_cons_succ] at x0 x1 x2 x3 x4 x5 x6 x7 x8 x9 x10 x11 x12 x13
      go_wp2_with fail
      refine (TO.out _ HB.out (by have := HPL.out; omega)).mono ?_; rintro e W2 ⟨tA, tc, rfl, ht, hb⟩
      have HTR := Lib.hid ht
      have HTW := Lib.hid HB.out.size
      replace HBK := Lib.hid (HBK.out.below hb)
      have HFT := Lib.hid (show ∀ g, (⟨tA, (touchL r).length, tc⟩ : Bk.E).own = some g → W1.heap.size ≤ g from fun g hg => (ht.2.lt g hg).1)
      have hb' := hb
      replace HB := Lib.hid (HB.out.trans (hb.mono HB.out.size))
      replace HX := Lib.hid (HX.out.held hb)
      clear hb hb'
      clear x0 x1 x2 x3 x4 x5 x6 x7 x8 x9 x10 x11 x12 x13
      clear TO ht
      have HTL := Lib.hid (touch_len r)
      have HTA := Lib.hid (touch_rng HRM.out)
      obtain ⟨tl, htl⟩ : ∃ tl, touchL r = tl := ⟨_, rfl⟩
      rw [htl] at HTR HTL HTA RO HFT
      obtain ⟨tn, htn⟩ : ∃ tn, tl.length = tn := ⟨_, rfl⟩
      have HTN := Lib.hid htn
      rw [htl, htn]
      rw [htn] at HTR HTL RO HFT
      clear htl htn
      have K1 := Lib.hid (HBK.out.plusI ⟨tA, tn, tc⟩ tl HB.out.size (HTR.out.bk HTW.out) (by have := HTL.out; have := HPL.out; dsimp only; omega) (by simp) (by simp) (fun x hx => by simp at hx))
      go_wp2_with fail
      refine K1.out.mono ?_; rintro e W3 ⟨rfl, f1, m1, hbk, rfl, hkt, hf1⟩
      have HF1 := Lib.hid (fun g hg => hf1 g hg)
      replace HB := Lib.hid (HB.out.trans hkt.1)
      replace HX := Lib.hid (show Bx W3 w.heap.size #[.int .i64 r.kind, .int .i64 r.tx, .int .i64 r.prev, .int .i64 r.next, .string r.key, .bool r.had, .string r.old.k, .string r.old.v, .int .i64 r.old.b, .int .i64 r.old.z, .slice h.g.A h.g.n h.g.c, .slice h.p.A h.p.n h.p.c, .slice h.t.A h.t.n h.t.c, .slice h.d.A h.d.n h.d.c] 29 from hkt.block HX.out (by decide))
      replace HBK := Lib.hid hbk
      replace HTR := Lib.hid (HTR.out.bk HTW.out |>.kt hkt (by decide))
      clear K1 hbk hkt hf1 HTW
      simp only [List.nil_append] at HBK
      have HTM := Lib.hid (Bk.readI HTR.out.rd (by have := HTL.out; have := HPL.out; show tn ≤ maxLen; unfold maxLen; omega) HTA.out)
      have hcs := fun j => HX.out.cell j
      have x0 := hcs 0
      have x1 := hcs 1
      have x2 := hcs 2
      have x3 := hcs 3
      have x4 := hcs 4
      have x5 := hcs 5
      have x6 := hcs 6
      have x7 := hcs 7
      have x8 := hcs 8
      have x9 := hcs 9
      have x10 := hcs 10
      have x11 := hcs 11
      have x12 := hcs 12
      have x13 := hcs 13
      clear hcs
      simp only [List.getElem?_toArray, List.getElem?_cons_zero, List.getElem?_cons_succ] at x0 x1 x2 x3 x4 x5 x6 x7 x8 x9 x10 x11 x12 x13
      go_wp2_with fail
      refine (RT.out _ HB.out).mono ?_; rintro e W4 ⟨rfl, hb⟩
      replace HBK := Lib.hid (HBK.out.below hb)
      replace HTM := Lib.hid ((HTM.out.kept hb).more hb.size)
      have hb' := hb
      replace HB := Lib.hid (HB.out.trans (hb.mono HB.out.size))
      replace HX := Lib.hid (HX.out.held hb)
      clear hb hb'
      clear x0 x1 x2 x3 x4 x5 x6 x7 x8 x9 x10 x11 x12 x13
      clear RT
      have hcs := fun j => HX.out.cell j
      have x0 := hcs 0
      have x1 := hcs 1
      have x2 := hcs 2
      have x3 := hcs 3
      have x4 := hcs 4
      have x5 := hcs 5
      have x6 := hcs 6
      have x7 := hcs 7
      have x8 := hcs 8
      have x9 := hcs 9
      have x10 := hcs 10
      have x11 := hcs 11
      have x12 := hcs 12
      have x13 := hcs 13
      clear hcs
      simp only [List.getElem?_toArray, List.getElem?_cons_zero, List.getElem?_cons_succ] at x0 x1 x2 x3 x4 x5 x6 x7 x8 x9 x10 x11 x12 x13
      go_wp2_with fail
      refine (NA.out _ HB.out).mono ?_; rintro e W5 ⟨rfl, rfl⟩
      clear NA
      go_wp2_with fail
      refine (RO.out _ HB.out (by have := HPL.out; omega)).mono ?_; rintro e W5 ⟨rA, rc, rfl, ht, hb⟩
      replace HBK := Lib.hid (HBK.out.below hb)
      replace HTM := Lib.hid ((HTM.out.kept hb).more hb.size)
      have hb' := hb
      replace HB := Lib.hid (HB.out.trans (hb.mono HB.out.size))
      replace HX := Lib.hid (HX.out.held hb)
      clear hb hb'
      clear x0 x1 x2 x3 x4 x5 x6 x7 x8 x9 x10 x11 x12 x13
      clear RO
      have HTO := Lib.hid (ht.m (by have := HTL.out; have := HPL.out; rw [HTN.out]; unfold maxLen; omega) HTA.out)
      have SI := Lib.hid (sameI_is (c := tc) (d := rc) W5 HTM.out HTO.out)
      rw [(sameL_iff eqI_iff).2 rfl] at SI
      clear ht HTO HTM
      go_wp2_with fail
      refine SI.out.mono ?_; rintro e W6 ⟨rfl, q, rfl⟩
      have hb : Below W5.heap.size W5 (W5.drewN q) := ⟨rfl, rfl, rfl, Nat.le_refl _, fun _ _ => rfl⟩
      replace HBK := Lib.hid (HBK.out.below hb)
      have hb' := hb
      replace HB := Lib.hid (HB.out.trans (hb.mono HB.out.size))
      replace HX := Lib.hid (HX.out.held hb)
      clear hb hb'
      clear SI
      generalize W5.drewN q = W6 at *
      cases z with
      | false =>
        have AP := Lib.hid (HBK.out.apart HB.out.size (by simp) (fun i hi => by obtain rfl : i = 0 := (by simp at hi; omega); show tn ≤ 90000; have := HTL.out; have := HPL.out; omega) (fun i hi => by obtain rfl : i = 0 := (by simp at hi; omega); exact HTA.out) rfl
          (by simp) (fun i hi => by simp at hi) (fun i hi => by simp at hi) rfl (by simp) (fun i hi => by simp at hi) (fun i hi => by simp at hi) rfl (by simp) (fun i hi => by simp at hi) (fun i hi => by simp at hi) rfl)
        clear HBK HX
        go_wp2_with fail
        refine AP.out.mono ?_; rintro e W7 ⟨rfl, hb⟩
        have HBZ := Lib.hid (HB.out.trans hb)
        clear hb
        go_wp2_with fail
        go_ret
        exact ⟨rfl, HBZ.out⟩
      | true =>
        have HPS := Lib.hid (show putS r = encR r from by unfold putS; rw [HZR.out]; rfl)
        have hlen : (putS r).length ≤ 800000 := by
          rw [HPS.out]
          have := enc_small (rightR_iff.1 HZR.out)
          omega
        have hgr : gotR (putS r) = r := by
          rw [HPS.out]
          unfold gotR
          rw [getOk_enc HZR.out, if_pos rfl, readR_enc HZR.out]
        have GT := Lib.hid (fun u => got_any (putS r) hlen u)
        have HRW := Lib.hid (got_w hlen)
        rw [hgr, HSB.out, show getOk (putS r) = true from by rw [HPS.out]; exact getOk_enc HZR.out] at GT
        rw [hgr] at HRW
        unfold rcv at GT
        obtain ⟨⟨g1, g2⟩, p1, ⟨t1, t2⟩, d1, d2⟩ := right_parts HZR.out
        have G1 := Lib.hid g1
        have G2 := Lib.hid g2
        have PP1 := Lib.hid p1
        have T1 := Lib.hid t1
        have T2 := Lib.hid t2
        have D1 := Lib.hid d1
        have D2 := Lib.hid d2
        have PW := Lib.hid (pts_all HRM.out.p)
        clear hlen hgr g1 g2 p1 t1 t2 d1 d2 HPS
        have FI := Lib.hid (fun (e : Bk.E) (he : ∀ g, e.own = some g → W6.heap.size ≤ g) => (show ∀ x ∈ [(⟨tA, tn, tc⟩ : Bk.E)] ++ [f1], Bk.FarR x e from by
          obtain ⟨v, u, P⟩ := HBK.out.partI
          exact P.far_new (Nat.le_refl _) he))
        have HC6 := Lib.hid HB.out.size
        go_wp2_with fail
        refine (GT.out _).mono ?_; rintro e W7 ⟨hx, rfl, hb, hox⟩
        have HOX := Lib.hid hox
        replace HBK := Lib.hid (HBK.out.below hb)
        have hb' := hb
        replace HB := Lib.hid (HB.out.trans (hb.mono HB.out.size))
        replace HX := Lib.hid (HX.out.held hb)
        clear hb hb'
        clear hox
        have YX := Lib.hid (Bx.new W7 #[.int .i64 r.kind, .int .i64 r.tx, .int .i64 r.prev, .int .i64 r.next, .string r.key, .bool r.had, .string r.old.k, .string r.old.v, .int .i64 r.old.b, .int .i64 r.old.z, .slice hx.g.A hx.g.n hx.g.c, .slice hx.p.A hx.p.n hx.p.c, .slice hx.t.A hx.t.n hx.t.c, .slice hx.d.A hx.d.n hx.d.c] 29)
        have hb := (Below.refl W7.heap.size W7).alloc (Nat.le_refl _) (.cells #[.int .i64 r.kind, .int .i64 r.tx, .int .i64 r.prev, .int .i64 r.next, .string r.key, .bool r.had, .string r.old.k, .string r.old.v, .int .i64 r.old.b, .int .i64 r.old.z, .slice hx.g.A hx.g.n hx.g.c, .slice hx.p.A hx.p.n hx.p.c, .slice hx.t.A hx.t.n hx.t.c, .slice hx.d.A hx.d.n hx.d.c] 29)
        replace HOX := Lib.hid (HOX.out.below hb)
        replace HBK := Lib.hid (HBK.out.below hb)
        have hb' := hb
        replace HB := Lib.hid (HB.out.trans (hb.mono HB.out.size))
        replace HX := Lib.hid (HX.out.held hb)
        clear hb hb'
        go_wp2_with fail
        generalize hW8 : W7.alloc (.cells #[.int .i64 r.kind, .int .i64 r.tx, .int .i64 r.prev, .int .i64 r.next, .string r.key, .bool r.had, .string r.old.k, .string r.old.v, .int .i64 r.old.b, .int .i64 r.old.z, .slice hx.g.A hx.g.n hx.g.c, .slice hx.p.A hx.p.n hx.p.c, .slice hx.t.A hx.t.n hx.t.c, .slice hx.d.A hx.d.n hx.d.c] 29) = W8 at *
        obtain ⟨BX, hBX⟩ : ∃ BX, BX = W7.heap.size := ⟨_, rfl⟩
        rw [← hBX] at YX ⊢
        clear hW8 hBX
        have FX := Lib.hid (fun g (hg : (⟨hx.p.A, hx.p.n, hx.p.c⟩ : Bk.E).own = some g) => (HOX.out.2.1.2.lt g hg).2)
        have HC8 := Lib.hid HB.out.size
        refine (GT.out _).mono ?_; rintro e W9 ⟨hy, rfl, hb, hoy⟩
        have HOY := Lib.hid hoy
        replace HOX := Lib.hid (HOX.out.below hb)
        replace YX := Lib.hid (YX.out.held hb)
        replace HBK := Lib.hid (HBK.out.below hb)
        have hb' := hb
        replace HB := Lib.hid (HB.out.trans (hb.mono HB.out.size))
        replace HX := Lib.hid (HX.out.held hb)
        clear hb hb'
        clear hoy GT
        have YY := Lib.hid (Bx.new W9 #[.int .i64 r.kind, .int .i64 r.tx, .int .i64 r.prev, .int .i64 r.next, .string r.key, .bool r.had, .string r.old.k, .string r.old.v, .int .i64 r.old.b, .int .i64 r.old.z, .slice hy.g.A hy.g.n hy.g.c, .slice hy.p.A hy.p.n hy.p.c, .slice hy.t.A hy.t.n hy.t.c, .slice hy.d.A hy.d.n hy.d.c] 29)
        have hb := (Below.refl W9.heap.size W9).alloc (Nat.le_refl _) (.cells #[.int .i64 r.kind, .int .i64 r.tx, .int .i64 r.prev, .int .i64 r.next, .string r.key, .bool r.had, .string r.old.k, .string r.old.v, .int .i64 r.old.b, .int .i64 r.old.z, .slice hy.g.A hy.g.n hy.g.c, .slice hy.p.A hy.p.n hy.p.c, .slice hy.t.A hy.t.n hy.t.c, .slice hy.d.A hy.d.n hy.d.c] 29)
        replace HOX := Lib.hid (HOX.out.below hb)
        replace HOY := Lib.hid (HOY.out.below hb)
        replace YX := Lib.hid (YX.out.held hb)
        replace HBK := Lib.hid (HBK.out.below hb)
        have hb' := hb
        replace HB := Lib.hid (HB.out.trans (hb.mono HB.out.size))
        replace HX := Lib.hid (HX.out.held hb)
        clear hb hb'
        go_upto_region 16 with fail
        generalize hW10 : W9.alloc (.cells #[.int .i64 r.kind, .int .i64 r.tx, .int .i64 r.prev, .int .i64 r.next, .string r.key, .bool r.had, .string r.old.k, .string r.old.v, .int .i64 r.old.b, .int .i64 r.old.z, .slice hy.g.A hy.g.n hy.g.c, .slice hy.p.A hy.p.n hy.p.c, .slice hy.t.A hy.t.n hy.t.c, .slice hy.d.A hy.d.n hy.d.c] 29) = W10 at *
        obtain ⟨BY, hBY⟩ : ∃ BY, BY = W9.heap.size := ⟨_, rfl⟩
        rw [← hBY] at YY ⊢
        clear hW10 hBY
        have FY := Lib.hid (fun g (hg : (⟨hy.p.A, hy.p.n, hy.p.c⟩ : Bk.E).own = some g) => HOY.out.2.1.2.lt g hg)
        have hgn : hx.g.n = r.pages.length := HOX.out.1.1
        have hpn : hx.p.n = r.pts.length := HOX.out.2.1.1
        have htn : hx.t.n = r.txs.length := by obtain ⟨ss, k⟩ := HOX.out.2.2.1; exact k.1
        have hdn : hx.d.n = r.dys.length := HOX.out.2.2.2.1
        have hqn : hy.p.n = r.pts.length := HOY.out.2.1.1
        have NG := Lib.hid (show hx.g.n ≤ 64 from by rw [hgn]; exact G1.out)
        have NP := Lib.hid (show hx.p.n ≤ 40 from by rw [hpn]; exact PP1.out)
        have NT := Lib.hid (show hx.t.n ≤ 8 from by rw [htn]; exact T1.out)
        have ND := Lib.hid (show hx.d.n ≤ 64 from by rw [hdn]; exact D1.out)
        have NQ := Lib.hid (show hy.p.n ≤ 40 from by rw [hqn]; exact PP1.out)
        clear hgn hpn htn hdn hqn
        have K2 := Lib.hid (HBK.out.plusI ⟨hx.g.A, hx.g.n, hx.g.c⟩ r.pages HB.out.size (HOX.out.1.bk HC6.out) (by have := NG.out; dsimp only; omega) (by simp) (by simp) (FI.out _ (fun g hg => (HOX.out.1.2.lt g hg).1)))
        have xx := (YX.out.cell 10).trans rfl
        go_wp2_with fail
        refine K2.out.mono ?_; rintro e W11 ⟨rfl, f2, m2, hbk, rfl, hkt, hf2⟩
        have S10 := Lib.hid hkt.1.size
        replace HB := Lib.hid (HB.out.trans hkt.1)
        replace HX := Lib.hid (show Bx W11 w.heap.size #[.int .i64 r.kind, .int .i64 r.tx, .int .i64 r.prev, .int .i64 r.next, .string r.key, .bool r.had, .string r.old.k, .string r.old.v, .int .i64 r.old.b, .int .i64 r.old.z, .slice h.g.A h.g.n h.g.c, .slice h.p.A h.p.n h.p.c, .slice h.t.A h.t.n h.t.c, .slice h.d.A h.d.n h.d.c] 29 from hkt.block HX.out (by decide))
        replace YX := Lib.hid (show Bx W11 BX #[.int .i64 r.kind, .int .i64 r.tx, .int .i64 r.prev, .int .i64 r.next, .string r.key, .bool r.had, .string r.old.k, .string r.old.v, .int .i64 r.old.b, .int .i64 r.old.z, .slice hx.g.A hx.g.n hx.g.c, .slice hx.p.A hx.p.n hx.p.c, .slice hx.t.A hx.t.n hx.t.c, .slice hx.d.A hx.d.n hx.d.c] 29 from hkt.block YX.out (by decide))
        replace YY := Lib.hid (show Bx W11 BY #[.int .i64 r.kind, .int .i64 r.tx, .int .i64 r.prev, .int .i64 r.next, .string r.key, .bool r.had, .string r.old.k, .string r.old.v, .int .i64 r.old.b, .int .i64 r.old.z, .slice hy.g.A hy.g.n hy.g.c, .slice hy.p.A hy.p.n hy.p.c, .slice hy.t.A hy.t.n hy.t.c, .slice hy.d.A hy.d.n hy.d.c] 29 from hkt.block YY.out (by decide))
        replace HOX := Lib.hid (HOX.out.kt hkt (by decide) (by decide) (by decide) (by decide))
        replace HOY := Lib.hid (HOY.out.kt hkt (by decide) (by decide) (by decide) (by decide))
        replace HBK := Lib.hid hbk
        clear K2 hbk hkt hf2 xx FI
        simp only [List.cons_append, List.nil_append] at HBK
        have K3 := Lib.hid (HBK.out.plusP ⟨hx.p.A, hx.p.n, hx.p.c⟩ r.pts HB.out.size (HOX.out.2.1.bk HC6.out) (by have := NP.out; dsimp only; omega) (by simp) (by simp) (fun x hx => by simp at hx))
        have xx := (YX.out.cell 11).trans rfl
        go_wp2_with fail
        refine K3.out.mono ?_; rintro e W12 ⟨rfl, f3, m3, hbk, rfl, hkt, hf3⟩
        have HF3 := Lib.hid (fun g hg => hf3 g hg)
        replace HB := Lib.hid (HB.out.trans hkt.1)
        replace HX := Lib.hid (show Bx W12 w.heap.size #[.int .i64 r.kind, .int .i64 r.tx, .int .i64 r.prev, .int .i64 r.next, .string r.key, .bool r.had, .string r.old.k, .string r.old.v, .int .i64 r.old.b, .int .i64 r.old.z, .slice h.g.A h.g.n h.g.c, .slice h.p.A h.p.n h.p.c, .slice h.t.A h.t.n h.t.c, .slice h.d.A h.d.n h.d.c] 29 from hkt.block HX.out (by decide))
        replace YX := Lib.hid (show Bx W12 BX #[.int .i64 r.kind, .int .i64 r.tx, .int .i64 r.prev, .int .i64 r.next, .string r.key, .bool r.had, .string r.old.k, .string r.old.v, .int .i64 r.old.b, .int .i64 r.old.z, .slice hx.g.A hx.g.n hx.g.c, .slice hx.p.A hx.p.n hx.p.c, .slice hx.t.A hx.t.n hx.t.c, .slice hx.d.A hx.d.n hx.d.c] 29 from hkt.block YX.out (by decide))
        replace YY := Lib.hid (show Bx W12 BY #[.int .i64 r.kind, .int .i64 r.tx, .int .i64 r.prev, .int .i64 r.next, .string r.key, .bool r.had, .string r.old.k, .string r.old.v, .int .i64 r.old.b, .int .i64 r.old.z, .slice hy.g.A hy.g.n hy.g.c, .slice hy.p.A hy.p.n hy.p.c, .slice hy.t.A hy.t.n hy.t.c, .slice hy.d.A hy.d.n hy.d.c] 29 from hkt.block YY.out (by decide))
        replace HOX := Lib.hid (HOX.out.kt hkt (by decide) (by decide) (by decide) (by decide))
        replace HOY := Lib.hid (HOY.out.kt hkt (by decide) (by decide) (by decide) (by decide))
        replace HBK := Lib.hid hbk
        clear K3 hbk hkt hf3 xx
        simp only [List.cons_append, List.nil_append] at HBK
        obtain ⟨ss, hss⟩ := HOX.out.2.2.1
        have HSL := Lib.hid hss.2.1
        have K4 := Lib.hid (HBK.out.plusT ⟨hx.t.A, hx.t.n, hx.t.c⟩ (r.txs.zip ss) HB.out.size (hss.bk HC6.out) (hss.pgs T2.out) (by have := NT.out; dsimp only; omega) (by simp) (by simp) (fun x hx => by simp at hx))
        have HPX := Lib.hid (hss.pgs T2.out)
        clear hss
        have xx := (YX.out.cell 12).trans rfl
        go_wp2_with fail
        refine K4.out.mono ?_; rintro e W13 ⟨rfl, f4, m4, hbk, ⟨hm4, hp4⟩, hkt, hf4⟩
        have HM4 := Lib.hid hm4
        have HP4 := Lib.hid hp4
        replace HPX := Lib.hid (Bk.pgs_kt HPX.out hkt (by decide))
        replace HB := Lib.hid (HB.out.trans hkt.1)
        replace HX := Lib.hid (show Bx W13 w.heap.size #[.int .i64 r.kind, .int .i64 r.tx, .int .i64 r.prev, .int .i64 r.next, .string r.key, .bool r.had, .string r.old.k, .string r.old.v, .int .i64 r.old.b, .int .i64 r.old.z, .slice h.g.A h.g.n h.g.c, .slice h.p.A h.p.n h.p.c, .slice h.t.A h.t.n h.t.c, .slice h.d.A h.d.n h.d.c] 29 from hkt.block HX.out (by decide))
        replace YX := Lib.hid (show Bx W13 BX #[.int .i64 r.kind, .int .i64 r.tx, .int .i64 r.prev, .int .i64 r.next, .string r.key, .bool r.had, .string r.old.k, .string r.old.v, .int .i64 r.old.b, .int .i64 r.old.z, .slice hx.g.A hx.g.n hx.g.c, .slice hx.p.A hx.p.n hx.p.c, .slice hx.t.A hx.t.n hx.t.c, .slice hx.d.A hx.d.n hx.d.c] 29 from hkt.block YX.out (by decide))
        replace YY := Lib.hid (show Bx W13 BY #[.int .i64 r.kind, .int .i64 r.tx, .int .i64 r.prev, .int .i64 r.next, .string r.key, .bool r.had, .string r.old.k, .string r.old.v, .int .i64 r.old.b, .int .i64 r.old.z, .slice hy.g.A hy.g.n hy.g.c, .slice hy.p.A hy.p.n hy.p.c, .slice hy.t.A hy.t.n hy.t.c, .slice hy.d.A hy.d.n hy.d.c] 29 from hkt.block YY.out (by decide))
        replace HOX := Lib.hid (HOX.out.kt hkt (by decide) (by decide) (by decide) (by decide))
        replace HOY := Lib.hid (HOY.out.kt hkt (by decide) (by decide) (by decide) (by decide))
        replace HBK := Lib.hid hbk
        clear K4 hbk hkt hf4 xx hm4 hp4
        simp only [List.cons_append, List.nil_append] at HBK
        have K5 := Lib.hid (HBK.out.plusD ⟨hx.d.A, hx.d.n, hx.d.c⟩ r.dys HB.out.size (HOX.out.2.2.2.bk HC6.out) (by have := ND.out; dsimp only; omega) (by simp) (by simp) (fun x hx => by simp at hx))
        have xx := (YX.out.cell 13).trans rfl
        go_wp2_with fail
        refine K5.out.mono ?_; rintro e W14 ⟨rfl, f5, m5, hbk, rfl, hkt, hf5⟩
        replace HPX := Lib.hid (Bk.pgs_kt HPX.out hkt (by decide))
        replace HP4 := Lib.hid (Bk.pgs_kt HP4.out hkt (by decide))
        replace HB := Lib.hid (HB.out.trans hkt.1)
        replace HX := Lib.hid (show Bx W14 w.heap.size #[.int .i64 r.kind, .int .i64 r.tx, .int .i64 r.prev, .int .i64 r.next, .string r.key, .bool r.had, .string r.old.k, .string r.old.v, .int .i64 r.old.b, .int .i64 r.old.z, .slice h.g.A h.g.n h.g.c, .slice h.p.A h.p.n h.p.c, .slice h.t.A h.t.n h.t.c, .slice h.d.A h.d.n h.d.c] 29 from hkt.block HX.out (by decide))
        replace YX := Lib.hid (show Bx W14 BX #[.int .i64 r.kind, .int .i64 r.tx, .int .i64 r.prev, .int .i64 r.next, .string r.key, .bool r.had, .string r.old.k, .string r.old.v, .int .i64 r.old.b, .int .i64 r.old.z, .slice hx.g.A hx.g.n hx.g.c, .slice hx.p.A hx.p.n hx.p.c, .slice hx.t.A hx.t.n hx.t.c, .slice hx.d.A hx.d.n hx.d.c] 29 from hkt.block YX.out (by decide))
        replace YY := Lib.hid (show Bx W14 BY #[.int .i64 r.kind, .int .i64 r.tx, .int .i64 r.prev, .int .i64 r.next, .string r.key, .bool r.had, .string r.old.k, .string r.old.v, .int .i64 r.old.b, .int .i64 r.old.z, .slice hy.g.A hy.g.n hy.g.c, .slice hy.p.A hy.p.n hy.p.c, .slice hy.t.A hy.t.n hy.t.c, .slice hy.d.A hy.d.n hy.d.c] 29 from hkt.block YY.out (by decide))
        replace HOX := Lib.hid (HOX.out.kt hkt (by decide) (by decide) (by decide) (by decide))
        replace HOY := Lib.hid (HOY.out.kt hkt (by decide) (by decide) (by decide) (by decide))
        replace HBK := Lib.hid hbk
        clear K5 hbk hkt hf5 xx
        simp only [List.cons_append, List.nil_append] at HBK
        have HFQ := Lib.hid (show ∀ x ∈ [(⟨hx.p.A, hx.p.n, hx.p.c⟩ : Bk.E)] ++ [f3], Bk.FarR x ⟨hy.p.A, hy.p.n, hy.p.c⟩ from fun x hx' => by
          simp only [List.cons_append, List.nil_append, List.mem_cons, List.not_mem_nil, or_false] at hx'
          rcases hx' with rfl | rfl
          · intro g h1 h2
            have a1 := FX.out g h1
            have a2 := (FY.out g h2).1
            omega
          · intro g h1 h2
            have a1 := HF3.out g h1
            have a2 := (FY.out g h2).2
            have a3 := S10.out
            omega)
        have K6 := Lib.hid (HBK.out.plusP ⟨hy.p.A, hy.p.n, hy.p.c⟩ r.pts HB.out.size (HOY.out.2.1.bk HC8.out) (by have := NQ.out; dsimp only; omega) (by simp) (by simp) HFQ.out)
        have xx := (YY.out.cell 11).trans rfl
        go_wp2_with fail
        refine K6.out.mono ?_; rintro e W15 ⟨rfl, f6, m6, hbk, rfl, hkt, hf6⟩
        replace HPX := Lib.hid (Bk.pgs_kt HPX.out hkt (by decide))
        replace HP4 := Lib.hid (Bk.pgs_kt HP4.out hkt (by decide))
        replace HB := Lib.hid (HB.out.trans hkt.1)
        replace HX := Lib.hid (show Bx W15 w.heap.size #[.int .i64 r.kind, .int .i64 r.tx, .int .i64 r.prev, .int .i64 r.next, .string r.key, .bool r.had, .string r.old.k, .string r.old.v, .int .i64 r.old.b, .int .i64 r.old.z, .slice h.g.A h.g.n h.g.c, .slice h.p.A h.p.n h.p.c, .slice h.t.A h.t.n h.t.c, .slice h.d.A h.d.n h.d.c] 29 from hkt.block HX.out (by decide))
        replace YX := Lib.hid (show Bx W15 BX #[.int .i64 r.kind, .int .i64 r.tx, .int .i64 r.prev, .int .i64 r.next, .string r.key, .bool r.had, .string r.old.k, .string r.old.v, .int .i64 r.old.b, .int .i64 r.old.z, .slice hx.g.A hx.g.n hx.g.c, .slice hx.p.A hx.p.n hx.p.c, .slice hx.t.A hx.t.n hx.t.c, .slice hx.d.A hx.d.n hx.d.c] 29 from hkt.block YX.out (by decide))
        replace HOX := Lib.hid (HOX.out.kt hkt (by decide) (by decide) (by decide) (by decide))
        replace HBK := Lib.hid hbk
        clear K6 hbk hkt hf6 xx YY HOY HFQ HF3 FX FY S10
        simp only [List.cons_append, List.nil_append] at HBK
        have SR := Lib.hid (samer_is r r hx h W15 (HOX.out.m HRW.out) (HRM.out.kept HB.out) (Nat.le_refl _) HB.out.size)
        rw [eqR_self] at SR
        unfold rcv at SR
        have hcs := fun j => HX.out.cell j
        have x0 := hcs 0
        have x1 := hcs 1
        have x2 := hcs 2
        have x3 := hcs 3
        have x4 := hcs 4
        have x5 := hcs 5
        have x6 := hcs 6
        have x7 := hcs 7
        have x8 := hcs 8
        have x9 := hcs 9
        have x10 := hcs 10
        have x11 := hcs 11
        have x12 := hcs 12
        have x13 := hcs 13
        clear hcs
        simp only [List.getElem?_toArray, List.getElem?_cons_zero, List.getElem?_cons_succ] at x0 x1 x2 x3 x4 x5 x6 x7 x8 x9 x10 x11 x12 x13
        have hcs := fun j => YX.out.cell j
        have y0 := hcs 0
        have y1 := hcs 1
        have y2 := hcs 2
        have y3 := hcs 3
        have y4 := hcs 4
        have y5 := hcs 5
        have y6 := hcs 6
        have y7 := hcs 7
        have y8 := hcs 8
        have y9 := hcs 9
        have y10 := hcs 10
        have y11 := hcs 11
        have y12 := hcs 12
        have y13 := hcs 13
        clear hcs
        simp only [List.getElem?_toArray, List.getElem?_cons_zero, List.getElem?_cons_succ] at y0 y1 y2 y3 y4 y5 y6 y7 y8 y9 y10 y11 y12 y13
        go_wp2_with fail
        refine SR.out.mono ?_; rintro e W16 ⟨rfl, hb⟩
        replace HPX := Lib.hid (Bk.pgs_kept HPX.out hb)
        replace HP4 := Lib.hid (Bk.pgs_kept HP4.out hb)
        replace HBK := Lib.hid (HBK.out.below hb)
        have hb' := hb
        replace HB := Lib.hid (HB.out.trans (hb.mono HB.out.size))
        replace HX := Lib.hid (HX.out.held hb)
        clear hb hb'
        clear x0 x1 x2 x3 x4 x5 x6 x7 x8 x9 x10 x11 x12 x13
        clear y0 y1 y2 y3 y4 y5 y6 y7 y8 y9 y10 y11 y12 y13
        have I2 := Lib.hid (fun (i : Nat) (hi : i < 2) => (show i = 0 ∨ i = 1 from by omega))
        have AP := Lib.hid (HBK.out.apart HB.out.size
          (by simp) (fun i hi => by rcases I2.out i hi with rfl | rfl; exact (show tn ≤ 90000 from by have := HTL.out; have := HPL.out; omega); exact (show hx.g.n ≤ 90000 from by have := NG.out; omega)) (fun i hi => by rcases I2.out i hi with rfl | rfl; exact HTA.out; exact G2.out) rfl
          (by simp) (fun i hi => by rcases I2.out i hi with rfl | rfl; exact (show hx.p.n ≤ 90000 from by have := NP.out; omega); exact (show hy.p.n ≤ 90000 from by have := NQ.out; omega)) (fun i hi => by rcases I2.out i hi with rfl | rfl; exact PW.out; exact PW.out) rfl
          (by simp) (fun i hi => by obtain rfl : i = 0 := (by simp at hi; omega); exact (show hx.d.n ≤ 90000 from by have := ND.out; omega)) (fun i hi => by obtain rfl : i = 0 := (by simp at hi; omega); exact D2.out) rfl
          (by simp) (fun i hi => by obtain rfl : i = 0 := (by simp at hi; omega); exact (show hx.t.n ≤ 90000 from by have := NT.out; omega)) (fun i hi => by obtain rfl : i = 0 := (by simp at hi; omega); exact ⟨HPX.out, HP4.out, HM4.out⟩) rfl)
        clear HBK HX YX HOX
        go_wp2_with fail
        refine AP.out.mono ?_; rintro e W17 ⟨rfl, hb⟩
        have HBZ := Lib.hid (HB.out.trans hb)
        clear hb
        go_wp2_with fail
        go_ret
        exact ⟨rfl, HBZ.out⟩

/-! The row's step. -/
set_option maxRecDepth 100000 in
theorem lifted (os : Os) (started : os.Started) (H : Type) (enc : TypeId × Value → H) :
    ReturnsInHanded {} Tryz.checked os 3 .any (fun w args => (Rows.recordTellsSpec.pre enc Tryz.prog Tryz.f3 [] false w args ∧ laidMetH Tryz.prog laidL w) ∧ sizedMet enc Tryz.prog Tryz.f3 (OpenSpec.ofChange Rows.recordTellsSpec) false w args)
      (Rows.recordTellsSpec.post enc Tryz.prog Tryz.f3 false true false false) := by
  refine returnsInHanded_of_change_and (C := Tryz.checked) (X := fun w _ => laidMetH Tryz.prog laidL w) (fun _ _ _ hh h => h.of_heap hh) own started (by kernel_rfl) Tryz.func3
    (ChangeSpec.witness_shaped (enc := enc) (C := Tryz.checked) (os := os) (X := fun w _ => laidMetH Tryz.prog laidL w) false (World.doorLaid Tryz.prog 400 os) #[.agg #[.int .i64 0, .int .i64 0, .int .i64 0, .int .i64 0, .string ByteArray.empty, .bool false, .string ByteArray.empty, .string ByteArray.empty, .int .i64 0, .int .i64 0, .slice none 0 0, .slice none 0 0, .slice none 0 0, .slice none 0 0], .int .i64 0] 8 rfl (World.shaped_of_RefB (by kernel_rfl) (by kernel_rfl)) (by kernel_rfl) (by kernel_rfl) (by kernel_rfl) (door_met os _)) ?_
  intro W base args ds gs before hval0 hW _ _ hL _
  have hval : ∀ (j : Nat) t v, Tryz.f3.params[j]? = some t → args[j]? = some v → Value.okWide Tryz.prog W .any base t v := hval0
  have hW' := hW
  obtain ⟨p, q, hA0, hV, rfl, hfz, hnd⟩ := hW
  have hA : DataW.TrodAll enc Tryz.prog W 0 (fun _ => true) true Tryz.f3.params.toList args.toList ds p := hA0
  rw [Tryz.params3] at hA hval
  obtain ⟨v0, vs0, d0, ds0, p0, q0, hargs, rfl, rfl, h0, r0⟩ := trodAll_cons hA
  obtain ⟨v1, vs1, d1, ds1, p1, q1, rfl, rfl, rfl, h1, r1⟩ := trodAll_cons r0
  obtain ⟨rfl, rfl, rfl⟩ := trodAll_nil r1
  obtain rfl : args = #[v0, v1] := by cases args; simp_all
  obtain ⟨rfl, rfl⟩ := trodVars_none hV
  have k0 := h0
  have lt0 : ∀ x ∈ p0, x.block < W.heap.size := by obtain ⟨m, hm⟩ := k0; exact DataW.trod_lt m _ _ _ hm
  obtain ⟨r0r, r0h, rfl, r0m⟩ := rec_read (hval 0 29 v0 rfl rfl) h0 (fun _ => rfl)
  obtain ⟨a1, rfl, rfl, rfl, w1⟩ := open_int Tryz.underlying3 (hval 1 3 v1 rfl rfl) h1
  clear hA0 hval0
  refine (walk r0r r0h a1 W r0m w1 (of_laid hL)).mono fun e W' ⟨he, bel⟩ => ?_
  subst he
  exact ⟨_, rfl, _, _, _, [], _, [], hW', trodAll_mk1 (shut_bool Tryz.underlying4 _), (trodAll_cons_mk (Below.trod laidOut (by kernel_rfl) (of_decide_eq_true (by kernel_rfl)) k0 bel lt0) (trodAll_cons_mk (shut_int Tryz.underlying3 w1) trodAll_mk0)), rfl, bel.frame _, fun h => by cases h⟩

/-- The row's statement. -/
theorem over : Rows.RecordTellsSaid :=
  OpenClaim.holds_of_wide 3 Tryz.f3 rfl rfl rfl rfl rfl rfl rfl ⟨rfl, rfl, rfl, rfl, rfl⟩ rfl rfl rfl rfl rfl (by kernel_rfl) Tryz.func3 (by kernel_rfl)
    (of_decide_eq_true (by kernel_rfl)) (by unfold Func.isWrapper; first | (rw [if_pos (by decide +kernel)]; kernel_rfl) | (rw [if_neg (by decide +kernel)]; exact ⟨rfl, rfl⟩))
    (fun os started H enc _ => lifted os started H enc)

/-- The card. -/
theorem proved : Rows.RecordTellsCardSaid :=
  Claim7.holds_tied_plain_at .later [] [.data] true Rows.recordTellsCard.stood.harness false
    over (fun _ h => by cases h) (by kernel_rfl) (fun _ h => by cases h) recordTells_row_tie rfl ⟨rfl, rfl⟩ (by kernel_rfl) rfl
    (fun f fn hf hfn => by
      obtain rfl : f = 3 := Option.some.inj ((show Tryz.prog.funcNamed "honeycomb/honeycomblaw12.RecordTells" = some 3 by kernel_rfl).symm.trans hf) |>.symm
      obtain rfl : fn = Tryz.f3 := (Option.some.inj (Tryz.func3.symm.trans hfn)).symm
      exact ⟨by kernel_rfl, fun j t ht => by
        rw [Tryz.params3] at ht
        have hm : t ∈ [29, 3] := by simpa using Array.mem_of_getElem? ht
        have hall : ([29, 3].all fun u => !Tryz.prog.wantsStandIn u) = true := by kernel_rfl
        exact (show Tryz.prog.wantsStandIn t = false by simpa using List.all_eq_true.1 hall t hm)⟩)
    (by kernel_rfl)
end Go.Proofs.YtbmnagfjpenemaaGreatDoor.recordTells
