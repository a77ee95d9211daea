/- Every sector, every batch, every log is written and read as the document says it; what is handed in stays; what was answered shares memory with nothing. -/
import Derived.Test.YtbdpmfgphhgigaaGreatRows
import Derived.Test.YtbdpmfgphhgigaaGreatTop
import Derived.Deep.RegionHeld3
import Derived.Deep.QuietTactic
import Derived.LoopTactic
import Derived.StillTailTactics
import Derived.BigQuiet
import Derived.Deep.DeepCutAuto
import Derived.Deep.RegionLaw
import Derived.Deep.CutBlock
import Derived.Lib.Hide
import Derived.WalkKit
import Derived.SizedLaws
import Derived.ProofKit
import Derived.OpenShut
import Derived.ChangeOld
import Derived.Below
import Derived.Carry
namespace Go.Proofs.YtbdpmfgphhgigaaGreat.frameTells
open Go.ChangeShapes Go.WideShapes Go.ChangeAt Go.RowKit
set_option linter.unusedVariables false

theorem own : ownKnob Tryz.prog.godebug = none := by kernel_rfl
theorem laidOut : laidOutB Tryz.prog = true := by kernel_rfl


set_option maxRecDepth 100000 in
set_option maxHeartbeats 100000000 in
theorem walk (x0 : Sx) (a1 : ByteArray) (a2 a3 : Int) (A4 : Option Addr) (n4 c4 : Nat) (l4 : List BA) (A5 : Option Addr) (n5 c5 : Nat) (l5 : List BA) (w : World)
    (wa : (Lit.int .i64 x0.ep).wf = true) (wb : (Lit.int .i64 x0.ix).wf = true) (wc : x0.pl.length ≤ maxLen) (w1 : a1.size ≤ maxLen) (w2 : (Lit.int .i64 a2).wf = true) (w3 : (Lit.int .i64 a3).wf = true) (w4t : Txt w.heap.size w A4 n4 l4) (s4 : ∀ x ∈ l4, x.length ≤ 140737488351232) (w5t : Txt w.heap.size w A5 n5 l5) (s5 : ∀ x ∈ l5, x.length ≤ 140737488351232) :
    Calls Tryz.prog 3 #[sv x0, .string a1, .int .i64 a2, .int .i64 a3, .slice A4 n4 c4, .slice A5 n5 c5] w fun e w' => e = .returned (.bool true) ∧ Below w.heap.size w w' := by
  have AL := Lib.hid (fun u => alive_yes u)
  obtain ⟨bb, hbb⟩ : ∃ bb : BA, str bb = a1 := ⟨a1.data.toList, rfl⟩
  have HBB := Lib.hid hbb
  have hbl : a1.size = bb.length := by rw [← hbb]; rfl
  have F4 := Lib.hid (fun u (hb : Below w.heap.size w u) => few_b (c := c4) u (w4t.kept hb) s4)
  have W4 := Lib.hid w4t
  have W5 := Lib.hid w5t
  have R2 := wf_rng w2
  have R3 := wf_rng w3
  have PU := Lib.hid (fun u => put_any x0 (wf_rng wa) wc u)
  have RPU := Lib.hid (fun u => rput_any x0 wc u)
  have GT := Lib.hid (fun u => get_any bb (by rw [← hbl]; exact w1) u)
  have RGT := Lib.hid (fun u => rget_any bb (by rw [← hbl]; exact w1) u)
  rw [hbb] at GT RGT
  unfold PutP sv at PU RPU
  unfold GetP sv at GT RGT
  obtain ⟨sp, hsp⟩ : ∃ sp, str x0.pl = sp := ⟨_, rfl⟩
  have hsz : sp.size = x0.pl.length := by rw [← hsp]; rfl
  rw [hsp] at PU RPU
  unfold sv
  rw [hsp]
  obtain ⟨P, hP⟩ : ∃ P, str (putX x0) = P := ⟨_, rfl⟩
  rw [hP] at PU RPU
  obtain ⟨kx, hkx⟩ : ∃ kx, okX x0 = kx := ⟨_, rfl⟩
  rw [hkx] at PU RPU
  obtain ⟨y, hy⟩ : ∃ y, gotX bb = y := ⟨_, rfl⟩
  rw [hy] at GT RGT
  obtain ⟨ky, hky⟩ : ∃ ky, getOkX bb = ky := ⟨_, rfl⟩
  rw [hky] at GT RGT
  have hb5 := w5t.2.1
  unfold maxLen at hb5
  clear w4t w5t w1 w2 w3 s4 s5 wa wb hsp hP hkx hy hky hbb
  have HX := Lib.hid (Bx.new w #[.int .i64 x0.ep, .int .i64 x0.ix, .bool x0.fr, .string sp] 23)
  have HB := Lib.hid ((Below.refl w.heap.size w).alloc (Nat.le_refl _) (.cells #[.int .i64 x0.ep, .int .i64 x0.ix, .bool x0.fr, .string sp] 23))
  go_enter Tryz.func3, Tryz.ntmps3
  go_upto_region 1 with fail
  generalize w.alloc (.cells #[.int .i64 x0.ep, .int .i64 x0.ix, .bool x0.fr, .string sp] 23) = X at *
  have p0 := HX.out.cell 0
  have p1 := HX.out.cell 1
  have p2 := HX.out.cell 2
  have p3 := HX.out.cell 3
  simp only [List.getElem?_toArray, List.getElem?_cons_zero, List.getElem?_cons_succ] at p0 p1 p2 p3
  by_cases d1 : 100 < x0.pl.length
  · have d1' : (100 : Int) < (x0.pl.length : Int) := by omega
    clear PU RPU GT RGT F4
    as_aux_lemma =>
      go_wp2_with fail
      refine (AL.out _).mono ?_; rintro e u ⟨rfl, hb⟩
      have HZ := Lib.hid (HB.out.trans (hb.mono HB.out.size))
      clear hb
      go_wp2_with fail
      go_ret
      exact ⟨by trivial, HZ.out⟩
  · have d1' : ¬ (100 : Int) < (x0.pl.length : Int) := by omega
    by_cases d2 : 100 < bb.length
    · have d2' : (100 : Int) < (bb.length : Int) := by omega
      clear PU RPU GT RGT F4
      as_aux_lemma =>
        go_wp2_with fail
        refine (AL.out _).mono ?_; rintro e u ⟨rfl, hb⟩
        have HZ := Lib.hid (HB.out.trans (hb.mono HB.out.size))
        clear hb
        go_wp2_with fail
        go_ret
        exact ⟨by trivial, HZ.out⟩
    · have d2' : ¬ (100 : Int) < (bb.length : Int) := by omega
      go_wp2_with fail
      refine (F4.out _ HB.out).mono ?_; rintro e u1 ⟨rfl, hb⟩
      replace HB := Lib.hid (HB.out.trans (hb.mono HB.out.size))
      replace HX := Lib.hid (HX.out.held hb)
      clear hb
      clear p0 p1 p2 p3
      clear F4
      cases hf : fewB l4 with
      | false =>
        clear PU RPU GT RGT
        as_aux_lemma =>
          go_wp2_with fail
          refine (AL.out _).mono ?_; rintro e u ⟨rfl, hb⟩
          have HZ := Lib.hid (HB.out.trans (hb.mono HB.out.size))
          clear hb
          go_wp2_with fail
          go_ret
          exact ⟨by trivial, HZ.out⟩
      | true =>
        by_cases d4 : 40 < n5
        · have d4' : (40 : Int) < (n5 : Int) := by omega
          clear PU RPU GT RGT
          as_aux_lemma =>
            go_wp2_with fail
            refine (AL.out _).mono ?_; rintro e u ⟨rfl, hb⟩
            have HZ := Lib.hid (HB.out.trans (hb.mono HB.out.size))
            clear hb
            go_wp2_with fail
            go_ret
            exact ⟨by trivial, HZ.out⟩
        · have d4' : ¬ (40 : Int) < (n5 : Int) := by omega
          go_wp2_with fail
          refine (AL.out _).mono ?_; rintro e u2 ⟨rfl, hb⟩
          replace HB := Lib.hid (HB.out.trans (hb.mono HB.out.size))
          replace HX := Lib.hid (HX.out.held hb)
          clear hb
          clear AL
          go_wp2_with fail
          go_loopw [61] (fun x wr => ∃ i : Nat, i ≤ n5 ∧ x = .int .i64 i ∧ Hid (Below w.heap.size w wr ∧ Bx wr w.heap.size #[.int .i64 x0.ep, .int .i64 x0.ix, .bool x0.fr, .string sp] 23 ∧ ∀ j, j < i → (l5.getD j []).length ≤ 100)) (fun x _ => n5 - (intOf x).toNat)
          case atStart => exact ⟨0, Nat.zero_le _, rfl, Lib.hid ⟨HB.out, HX.out, fun j hj => absurd hj (Nat.not_lt_zero _)⟩⟩
          case round =>
            clear HB HX
            obtain ⟨i, hi, rfl, hq⟩ := hrel
            have HB := Lib.hid hq.out.1
            have HX := Lib.hid hq.out.2.1
            have HA := Lib.hid hq.out.2.2
            clear hq
            have i0 : (0 : Int) ≤ (i : Int) := by omega
            by_cases hlt : i < n5
            · have i1 : (i : Int) < (n5 : Int) := by omega
              obtain ⟨bk, off, rfl, _, c0, _⟩ := (W5.out.kept HB.out).2.2 i hlt
              have hz : (str (l5.getD i [])).size = (l5.getD i []).length := rfl
              have HA2 := Lib.hid (fun (h : (l5.getD i []).length ≤ 100) => show ∀ j, j < i + 1 → (l5.getD j []).length ≤ 100 from fun j hj => by
                by_cases e : j < i
                · exact HA.out j e
                · obtain rfl : j = i := by omega
                  exact h)
              generalize str (l5.getD i []) = s at *
              generalize (l5.getD i []).length = z at *
              clear HA PU RPU GT RGT
              by_cases h1 : z ≤ 100
              · have h1' : ¬ (100 : Int) < (z : Int) := by omega
                have HA3 := Lib.hid (HA2.out h1)
                clear HA2
                as_aux_lemma =>
                  go_wp2_with fail
                  go_roundw
                  case rel => exact ⟨i + 1, by omega, by go_num, Lib.hid ⟨HB.out, HX.out, HA3.out⟩⟩
                  case measure => simp [intOf] <;> omega
              · have h1' : (100 : Int) < (z : Int) := by omega
                as_aux_lemma =>
                  go_wp2_with fail
                  go_ret
                  exact ⟨by trivial, HB.out⟩
            · obtain rfl : i = n5 := by omega
              have i1 : ¬ (i : Int) < (i : Int) := by omega
              have HL5 := Lib.hid (show ∀ z ∈ l5, z.length ≤ 100 from fun z hz => by
                obtain ⟨j, hj, rfl⟩ := List.getElem_of_mem hz
                have h2 := HA.out j (by rw [← W5.out.1]; exact hj)
                rwa [getD_at hj] at h2)
              clear HA
              have p0 := HX.out.cell 0
              have p1 := HX.out.cell 1
              have p2 := HX.out.cell 2
              have p3 := HX.out.cell 3
              simp only [List.getElem?_toArray, List.getElem?_cons_zero, List.getElem?_cons_succ] at p0 p1 p2 p3
              go_wp2_with fail
              refine (PU.out _).mono ?_; rintro e u3 ⟨rfl, hb⟩
              replace HB := Lib.hid (HB.out.trans (hb.mono HB.out.size))
              replace HX := Lib.hid (HX.out.held hb)
              clear hb
              clear p0 p1 p2 p3
              clear PU
              have p0 := HX.out.cell 0
              have p1 := HX.out.cell 1
              have p2 := HX.out.cell 2
              have p3 := HX.out.cell 3
              simp only [List.getElem?_toArray, List.getElem?_cons_zero, List.getElem?_cons_succ] at p0 p1 p2 p3
              go_wp2_with fail
              refine (RPU.out _).mono ?_; rintro e u4 ⟨rfl, hb⟩
              replace HB := Lib.hid (HB.out.trans (hb.mono HB.out.size))
              replace HX := Lib.hid (HX.out.held hb)
              clear hb
              clear p0 p1 p2 p3
              clear RPU
              go_wp2_with fail
              refine (GT.out _).mono ?_; rintro e u5 ⟨rfl, hb⟩
              replace HB := Lib.hid (HB.out.trans (hb.mono HB.out.size))
              clear hb HX GT
              go_upto_region 12 with fail
              have HY := Lib.hid (Bx.new u5 #[.int .i64 y.ep, .int .i64 y.ix, .bool y.fr, .string (str y.pl)] 23)
              replace HB := Lib.hid (HB.out.trans (((Below.refl u5.heap.size u5).alloc (Nat.le_refl _) (.cells #[.int .i64 y.ep, .int .i64 y.ix, .bool y.fr, .string (str y.pl)] 23)).mono HB.out.size))
              generalize u5.alloc (.cells #[.int .i64 y.ep, .int .i64 y.ix, .bool y.fr, .string (str y.pl)] 23) = U at *
              generalize u5.heap.size = g1 at *
              go_wp2_with fail
              refine (RGT.out _).mono ?_; rintro e u6 ⟨rfl, hb⟩
              replace HB := Lib.hid (HB.out.trans (hb.mono HB.out.size))
              replace HY := Lib.hid (HY.out.held hb)
              clear hb
              clear RGT
              go_upto_region 13 with fail
              have HZ := Lib.hid (Bx.new u6 #[.int .i64 y.ep, .int .i64 y.ix, .bool y.fr, .string (str y.pl)] 30)
              have hb := (Below.refl u6.heap.size u6).alloc (Nat.le_refl _) (.cells #[.int .i64 y.ep, .int .i64 y.ix, .bool y.fr, .string (str y.pl)] 30)
              replace HB := Lib.hid (HB.out.trans (hb.mono HB.out.size))
              replace HY := Lib.hid (HY.out.held hb)
              clear hb
              generalize u6.alloc (.cells #[.int .i64 y.ep, .int .i64 y.ix, .bool y.fr, .string (str y.pl)] 30) = V at *
              generalize u6.heap.size = g2 at *
              have y0 := HY.out.cell 0
              have y1 := HY.out.cell 1
              have y2 := HY.out.cell 2
              have y3 := HY.out.cell 3
              simp only [List.getElem?_toArray, List.getElem?_cons_zero, List.getElem?_cons_succ] at y0 y1 y2 y3
              have z0 := HZ.out.cell 0
              have z1 := HZ.out.cell 1
              have z2 := HZ.out.cell 2
              have z3 := HZ.out.cell 3
              simp only [List.getElem?_toArray, List.getElem?_cons_zero, List.getElem?_cons_succ] at z0 z1 z2 z3
              have NE := neq_sec y y
              rw [eqX_refl] at NE
              have eqs : (P.toList == P.toList) = true := by rw [beq_iff_eq]
              go_upto_region 15 with fail
              clear y0 y1 y2 y3
              clear z0 z1 z2 z3
              clear NE eqs HY HZ
              go_upto_region 16 with fail
              have HBK := Lib.hid (Bk.Bks.new w.heap.size V HB.out.size)
              have hb := (Below.refl V.heap.size V).alloc (Nat.le_refl _) (.cells Bk.bookC 46)
              replace HB := Lib.hid (HB.out.trans (hb.mono HB.out.size))
              clear hb
              unfold Bk.bookC at *
              obtain ⟨B, hB⟩ : ∃ B, B = V.heap.size := ⟨_, rfl⟩
              rw [← hB] at HBK ⊢
              clear hB
              generalize V.alloc (.cells #[.slice none 0 0, .slice none 0 0, .slice none 0 0, .slice none 0 0, .slice none 0 0, .slice none 0 0, .slice none 0 0, .slice none 0 0, .slice none 0 0, .slice none 0 0, .slice none 0 0, .slice none 0 0, .slice none 0 0, .slice none 0 0, .slice none 0 0, .slice none 0 0, .slice none 0 0, .slice none 0 0] 46) = V1 at *
              have hn4 : n4 ≤ 20 := by rw [← W4.out.1]; exact (few_strm hf).1
              have HF4 := Lib.hid (few_size hf)
              have LT4 := Lib.hid (lent_txt (c := c4) V1 (W4.out.kept HB.out) (by omega))
              go_wp2_with fail
              refine LT4.out.mono ?_; rintro e v1 ⟨g4, e4, rfl, hl, hg, hb⟩
              replace HB := Lib.hid (HB.out.trans (hb.mono HB.out.size))
              replace HBK := Lib.hid (HBK.out.below hb)
              clear hb
              have L4F := Lib.hid hl
              clear hl hg LT4
              have LT5 := Lib.hid (lent_txt (c := c5) v1 (W5.out.kept HB.out) (by omega))
              go_wp2_with fail
              refine LT5.out.mono ?_; rintro e v2 ⟨g5, e5, rfl, hl, hg, hb⟩
              replace HB := Lib.hid (HB.out.trans (hb.mono HB.out.size))
              replace HBK := Lib.hid (HBK.out.below hb)
              replace L4F := Lib.hid (L4F.out.kept hb)
              clear hb
              have L5F := Lib.hid hl
              have HV2 := Lib.hid HB.out.size
              clear hl hg LT5
              have BT := Lib.hid (batch_few (c := e4) a2 a3 R2 R3 (L4F.out.txt (fun x hx => Nat.le_trans (HF4.out x hx) (by unfold maxLen; omega)) (by unfold maxLen; omega)) (Nat.le_refl _) hf)
              have hbt := few_bat (e := a2) (i := a3) hf
              obtain ⟨kb, hkb⟩ : ∃ kb, batOk a2 a3 l4 = kb := ⟨_, rfl⟩
              obtain ⟨BL, hBL⟩ : ∃ BL, batB a2 a3 l4 = BL := ⟨_, rfl⟩
              obtain ⟨nb, hnb⟩ : ∃ nb, BL.length = nb := ⟨_, rfl⟩
              rw [hkb, hBL, hnb] at BT
              rw [hBL] at hbt
              have HKB := Lib.hid hkb
              have HBL := Lib.hid hBL
              have HNB := Lib.hid hnb
              have HBT := Lib.hid hbt
              clear hkb hBL hnb hbt
              go_wp2_with fail
              refine BT.out.mono ?_; rintro e v3 ⟨cA, cc, rfl, -, ho, hb⟩
              replace HB := Lib.hid (HB.out.trans (hb.mono HB.out.size))
              replace HBK := Lib.hid (HBK.out.below hb)
              replace L4F := Lib.hid (L4F.out.kept hb)
              replace L5F := Lib.hid (L5F.out.kept hb)
              clear hb
              have HC := Lib.hid ho
              clear ho BT
              have RB := Lib.hid (rbatch_is (c := c4) a2 a3 R3 v3 (W4.out.kept HB.out) HB.out.size hf)
              unfold BatP at RB
              rw [HKB.out, HBL.out] at RB
              go_wp2_with fail
              refine RB.out.mono ?_; rintro e v4 ⟨vd, rfl, ho, hb⟩
              replace HB := Lib.hid (HB.out.trans (hb.mono HB.out.size))
              replace HBK := Lib.hid (HBK.out.below hb)
              replace L4F := Lib.hid (L4F.out.kept hb)
              replace L5F := Lib.hid (L5F.out.kept hb)
              replace HC := Lib.hid (HC.out.kept hb)
              clear hb
              have HD := Lib.hid ho
              obtain ⟨dA, dc, rfl⟩ := HD.out.shape
              rw [HNB.out] at HD ⊢
              clear ho RB
              have hnb28 : nb ≤ 28 := by rw [← HNB.out]; exact HBT.out.1
              have K1 := Lib.hid (HBK.out.plusW ⟨cA, nb, cc⟩ (BL.map str) HB.out.size ((HC.out.base HV2.out).bk HNB.out.symm) (by dsimp only; omega) (by simp) (by simp) (fun x hx => by simp at hx))
              go_wp2_with fail
              refine K1.out.mono ?_; rintro e v5 ⟨rfl, f1, m1, hbk, rfl, hkt, hf1⟩
              replace HB := Lib.hid (HB.out.trans hkt.1)
              replace L4F := Lib.hid (L4F.out.kt hkt ⟨by decide, by decide⟩)
              replace L5F := Lib.hid (L5F.out.kt hkt ⟨by decide, by decide⟩)
              replace HC := Lib.hid (HC.out.kt hkt ⟨by decide, by decide⟩)
              replace HD := Lib.hid (HD.out.kt hkt ⟨by decide, by decide⟩)
              replace HBK := Lib.hid hbk
              simp only [List.nil_append] at HBK
              clear hbk hkt hf1 K1 HV2
              have hn5 := W5.out.1
              have SC := Lib.hid (scan_list (c := e5) (L5F.out.txt (fun x hx => Nat.le_trans (HL5.out x hx) (by unfold maxLen; omega)) (by unfold maxLen; omega)) (Nat.le_refl _) (by omega))
              have HSM := Lib.hid (scan_small (l := l5) (by omega))
              obtain ⟨SX, hSX⟩ : ∃ SX, scan l5 = SX := ⟨_, rfl⟩
              obtain ⟨ns, hns⟩ : ∃ ns, SX.out.length = ns := ⟨_, rfl⟩
              rw [hSX] at SC HSM
              rw [hns] at SC
              have HSX := Lib.hid hSX
              have HNS := Lib.hid hns
              have HPT := Lib.hid HBK.out.partW
              have HV5 := Lib.hid HB.out.size
              clear hSX hns hn5
              go_wp2_with fail
              refine SC.out.mono ?_; rintro e v6 ⟨sA, sc, rfl, ho, hb⟩
              have HFR := Lib.hid (show ∀ x ∈ [(⟨cA, nb, cc⟩ : Bk.E)] ++ [f1], Bk.FarR x ⟨sA, ns, sc⟩ from by
                obtain ⟨v, u, hp⟩ := HPT.out
                exact hp.far_new (Nat.le_refl _) (fun g hg => (World.ownsRow.lt ho g hg).1))
              replace HB := Lib.hid (HB.out.trans (hb.mono HB.out.size))
              replace HBK := Lib.hid (HBK.out.below hb)
              replace L4F := Lib.hid (L4F.out.kept hb)
              replace L5F := Lib.hid (L5F.out.kept hb)
              replace HC := Lib.hid (HC.out.kept hb)
              replace HD := Lib.hid (HD.out.kept hb)
              clear hb
              have HA := Lib.hid (ho.base HV5.out)
              clear ho SC HPT
              have RS := Lib.hid (rscan_is (c := c5) v6 (W5.out.kept HB.out) HB.out.size (by omega))
              unfold ScP at RS
              rw [HSX.out] at RS
              go_wp2_with fail
              refine RS.out.mono ?_; rintro e v7 ⟨vr, rfl, ho, hb⟩
              replace HB := Lib.hid (HB.out.trans (hb.mono HB.out.size))
              replace HBK := Lib.hid (HBK.out.below hb)
              replace L4F := Lib.hid (L4F.out.kept hb)
              replace L5F := Lib.hid (L5F.out.kept hb)
              replace HC := Lib.hid (HC.out.kept hb)
              replace HD := Lib.hid (HD.out.kept hb)
              replace HA := Lib.hid (HA.out.kept hb)
              clear hb
              have HE := Lib.hid ho
              obtain ⟨rA, rc, rfl⟩ := HE.out.shape
              rw [HNS.out] at HE ⊢
              clear ho RS
              have hns9 : ns ≤ 11200 := by rw [← HNS.out]; exact HSM.out.1
              have K2 := Lib.hid (HBK.out.plusW ⟨sA, ns, sc⟩ (SX.out.map str) HB.out.size (HA.out.bk HNS.out.symm) (by dsimp only; omega) (by simp) (by simp) HFR.out)
              go_wp2_with fail
              refine K2.out.mono ?_; rintro e v8 ⟨rfl, f2, m2, hbk, rfl, hkt, hf2⟩
              replace HB := Lib.hid (HB.out.trans hkt.1)
              replace L4F := Lib.hid (L4F.out.kt hkt ⟨by decide, by decide⟩)
              replace L5F := Lib.hid (L5F.out.kt hkt ⟨by decide, by decide⟩)
              replace HC := Lib.hid (HC.out.kt hkt ⟨by decide, by decide⟩)
              replace HD := Lib.hid (HD.out.kt hkt ⟨by decide, by decide⟩)
              replace HA := Lib.hid (HA.out.kt hkt ⟨by decide, by decide⟩)
              replace HE := Lib.hid (HE.out.kt hkt ⟨by decide, by decide⟩)
              replace HBK := Lib.hid hbk
              clear hbk hkt hf2 K2 HFR HV5
              have S1 := Lib.hid (same_b (c := cc) (d := dc) v8 ((HC.out.txt (fun x hx => by rw [HBT.out.2 x hx]; unfold maxLen; omega) (by rw [HNB.out]; unfold maxLen; omega)).2) ((HD.out.txt (fun x hx => by rw [HBT.out.2 x hx]; unfold maxLen; omega) (by rw [HNB.out]; unfold maxLen; omega)).2))
              rw [decide_eq_true (show BL = BL from rfl)] at S1
              go_wp2_with fail
              refine S1.out.mono ?_; rintro e v9 ⟨rfl, hb⟩
              replace HB := Lib.hid (HB.out.trans (hb.mono HB.out.size))
              replace HBK := Lib.hid (HBK.out.below hb)
              replace L4F := Lib.hid (L4F.out.kept hb)
              replace L5F := Lib.hid (L5F.out.kept hb)
              replace HC := Lib.hid (HC.out.kept hb)
              replace HD := Lib.hid (HD.out.kept hb)
              replace HA := Lib.hid (HA.out.kept hb)
              replace HE := Lib.hid (HE.out.kept hb)
              clear hb
              clear S1
              have CN := Lib.hid (count_any (c := e4) v9 (L4F.out.txt (fun x hx => Nat.le_trans (HF4.out x hx) (by unfold maxLen; omega)) (by unfold maxLen; omega)) (by omega))
              obtain ⟨kc, hkc⟩ : ∃ kc, cntB l4 = kc := ⟨_, rfl⟩
              rw [hkc] at CN
              have HKC := Lib.hid hkc
              clear hkc
              have ebb : (kb == kb) = true := by rw [beq_iff_eq]
              go_wp2_with fail
              refine CN.out.mono ?_; rintro e va ⟨rfl, q, rfl⟩
              have hb : Below v9.heap.size v9 (v9.drewN q) := below_drewN (Below.refl _ _) q
              replace HB := Lib.hid (HB.out.trans (hb.mono HB.out.size))
              replace HBK := Lib.hid (HBK.out.below hb)
              replace L4F := Lib.hid (L4F.out.kept hb)
              replace L5F := Lib.hid (L5F.out.kept hb)
              replace HC := Lib.hid (HC.out.kept hb)
              replace HD := Lib.hid (HD.out.kept hb)
              replace HA := Lib.hid (HA.out.kept hb)
              replace HE := Lib.hid (HE.out.kept hb)
              clear hb
              generalize v9.drewN q = va at *
              clear CN
              have RC := Lib.hid (rcount_is (c := c4) va (W4.out.kept HB.out) HB.out.size hf)
              rw [HKC.out] at RC
              go_wp2_with fail
              refine RC.out.mono ?_; rintro e vb ⟨rfl, hb⟩
              replace HB := Lib.hid (HB.out.trans (hb.mono HB.out.size))
              replace HBK := Lib.hid (HBK.out.below hb)
              replace L4F := Lib.hid (L4F.out.kept hb)
              replace L5F := Lib.hid (L5F.out.kept hb)
              replace HC := Lib.hid (HC.out.kept hb)
              replace HD := Lib.hid (HD.out.kept hb)
              replace HA := Lib.hid (HA.out.kept hb)
              replace HE := Lib.hid (HE.out.kept hb)
              clear hb
              clear RC
              have S2 := Lib.hid (same_b (c := sc) (d := rc) vb ((HA.out.txt (fun x hx => Nat.le_trans (HSM.out.2 x hx) (by unfold maxLen; omega)) (by rw [HNS.out]; unfold maxLen; omega)).2) ((HE.out.txt (fun x hx => Nat.le_trans (HSM.out.2 x hx) (by unfold maxLen; omega)) (by rw [HNS.out]; unfold maxLen; omega)).2))
              rw [decide_eq_true (show SX.out = SX.out from rfl)] at S2
              go_wp2_with fail
              refine S2.out.mono ?_; rintro e vc ⟨rfl, hb⟩
              replace HB := Lib.hid (HB.out.trans (hb.mono HB.out.size))
              replace HBK := Lib.hid (HBK.out.below hb)
              replace L4F := Lib.hid (L4F.out.kept hb)
              replace L5F := Lib.hid (L5F.out.kept hb)
              replace HC := Lib.hid (HC.out.kept hb)
              replace HD := Lib.hid (HD.out.kept hb)
              replace HA := Lib.hid (HA.out.kept hb)
              replace HE := Lib.hid (HE.out.kept hb)
              clear hb
              clear S2
              have T4 := Lib.hid (stays_txt (c := e4) (d := c4) vc L4F.out (W4.out.kept HB.out) (fun x hx => Nat.le_trans (HF4.out x hx) (by unfold maxLen; omega)) (by omega))
              go_wp2_with fail
              refine T4.out.mono ?_; rintro e vd ⟨rfl, hb⟩
              replace HB := Lib.hid (HB.out.trans (hb.mono HB.out.size))
              replace HBK := Lib.hid (HBK.out.below hb)
              replace L4F := Lib.hid (L4F.out.kept hb)
              replace L5F := Lib.hid (L5F.out.kept hb)
              replace HC := Lib.hid (HC.out.kept hb)
              replace HD := Lib.hid (HD.out.kept hb)
              replace HA := Lib.hid (HA.out.kept hb)
              replace HE := Lib.hid (HE.out.kept hb)
              clear hb
              clear T4
              have T5 := Lib.hid (stays_txt (c := e5) (d := c5) vd L5F.out (W5.out.kept HB.out) (fun x hx => Nat.le_trans (HL5.out x hx) (by unfold maxLen; omega)) (by omega))
              go_wp2_with fail
              refine T5.out.mono ?_; rintro e ve ⟨rfl, hb⟩
              replace HB := Lib.hid (HB.out.trans (hb.mono HB.out.size))
              replace HBK := Lib.hid (HBK.out.below hb)
              replace L4F := Lib.hid (L4F.out.kept hb)
              replace L5F := Lib.hid (L5F.out.kept hb)
              replace HC := Lib.hid (HC.out.kept hb)
              replace HD := Lib.hid (HD.out.kept hb)
              replace HA := Lib.hid (HA.out.kept hb)
              replace HE := Lib.hid (HE.out.kept hb)
              clear hb
              clear T5
              have AP := Lib.hid (HBK.out.apart HB.out.size (by simp) (fun i hi => by
                  rcases i with _ | _ | i
                  · show nb ≤ 90000; omega
                  · show ns ≤ 90000; omega
                  · exact absurd hi (by simp only [List.length_append, List.length_cons, List.length_nil]; omega))
                (fun i hi => by
                  rcases i with _ | _ | i
                  · exact small_bk (K := 64) (fun x hx => Nat.le_of_eq (HBT.out.2 x hx)) (by omega)
                  · exact small_bk (K := 11200) HSM.out.2 (by omega)
                  · exact absurd hi (by simp only [List.length_append, List.length_cons, List.length_nil]; omega)) rfl)
              clear HBK L4F L5F HC HD HA HE
              go_wp2_with fail
              refine AP.out.mono ?_; rintro e vf ⟨rfl, hb⟩
              have HZZ := Lib.hid (HB.out.trans hb)
              clear hb AP
              go_wp2_with fail
              go_ret
              exact ⟨by trivial, HZZ.out⟩

/-! The row's step. -/
set_option maxRecDepth 100000 in
theorem lifted (os : Os) (started : os.Started) (H : Type) (enc : TypeId × Value → H) :
    ReturnsInHanded {} Tryz.checked os 3 .any (Rows.frameTellsSpec.pre6 enc Tryz.prog Tryz.f3 Rows.frameTellsRow.domain false) (Rows.frameTellsSpec.post enc Tryz.prog Tryz.f3 false true false false) := by
  refine returnsInHanded_of_change_sized (C := Tryz.checked) own started (by kernel_rfl) Tryz.func3
    (ChangeSpec.witness6 (enc := enc) (C := Tryz.checked) false ⟨#[], #[.agg #[.int .i64 0, .int .i64 0, .bool false, .string ByteArray.empty], .string ByteArray.empty, .int .i64 0, .int .i64 0, .slice none 0 0, .slice none 0 0], []⟩ 8 (by kernel_rfl) (by kernel_rfl) (by kernel_rfl) (by kernel_rfl)) ?_
  intro W base args ds gs before hval0 hW hcnd hsz0 _
  have hsz : (DataW.weightsEach Tryz.prog (Tryz.f3.params.toList ++ Rows.frameTellsSpec.plain.varTypes Tryz.prog) (ds ++ gs)).all (· ≤ reachBytes) = true := hsz0
  have hval : ∀ (j : Nat) t v, Tryz.f3.params[j]? = some t → args[j]? = some v → Value.okWide Tryz.prog W .any base t v := hval0
  have hW' := hW
  obtain ⟨p, q, hA0, hV, rfl, hfz, hnd⟩ := hW
  have hA : DataW.TrodAll enc Tryz.prog W 0 (fun _ => true) true Tryz.f3.params.toList args.toList ds p := hA0
  rw [Tryz.params3] at hA hval hsz
  obtain ⟨v0, vs0, d0, ds0, p0, q0, hargs, rfl, rfl, h0, r0⟩ := trodAll_cons hA
  obtain ⟨v1, vs1, d1, ds1, p1, q1, rfl, rfl, rfl, h1, r1⟩ := trodAll_cons r0
  obtain ⟨v2, vs2, d2, ds2, p2, q2, rfl, rfl, rfl, h2, r2⟩ := trodAll_cons r1
  obtain ⟨v3, vs3, d3, ds3, p3, q3, rfl, rfl, rfl, h3, r3⟩ := trodAll_cons r2
  obtain ⟨v4, vs4, d4, ds4, p4, q4, rfl, rfl, rfl, h4, r4⟩ := trodAll_cons r3
  obtain ⟨v5, vs5, d5, ds5, p5, q5, rfl, rfl, rfl, h5, r5⟩ := trodAll_cons r4
  obtain ⟨rfl, rfl, rfl⟩ := trodAll_nil r5
  obtain rfl : args = #[v0, v1, v2, v3, v4, v5] := by cases args; simp_all
  obtain ⟨rfl, rfl⟩ := trodVars_none hV
  obtain ⟨x0, rfl, wa0, wb0, wc0, sh0⟩ := open_sector (hval 0 23 v0 rfl rfl) h0
  obtain ⟨a1, rfl, rfl, rfl, w1⟩ := Go.ChangeMaps.open_string Tryz.underlying9 (hval 1 9 v1 rfl rfl) h1
  obtain ⟨a2, rfl, rfl, rfl, w2⟩ := open_int Tryz.underlying3 (hval 2 3 v2 rfl rfl) h2
  obtain ⟨a3, rfl, rfl, rfl, w3⟩ := open_int Tryz.underlying3 (hval 3 3 v3 rfl rfl) h3
  obtain ⟨A4, n4, c4, rfl⟩ := okWide_slice Tryz.underlying24 (hval 4 24 v4 rfl rfl)
  have k4 := h4
  have lt4 : ∀ x ∈ p4, x.block < W.heap.size := by obtain ⟨m, hm⟩ := k4; exact DataW.trod_lt m _ _ _ hm
  obtain ⟨l4, w4, e4, f4, z4⟩ := (by obtain ⟨fuel, hf⟩ := h4; exact txt_read hf (fun _ => rfl) : ∃ l, Txt W.heap.size W A4 n4 l ∧ n4 ≤ c4 ∧ c4 ≤ maxLen ∧ ∀ n, (∀ m ∈ DataW.weights Tryz.prog 24 d4, m ≤ n) → ∀ s ∈ l, s.length ≤ n)
  have s4 := txt_sized (i := 4) z4 hsz rfl rfl
  obtain ⟨A5, n5, c5, rfl⟩ := okWide_slice Tryz.underlying24 (hval 5 24 v5 rfl rfl)
  have k5 := h5
  have lt5 : ∀ x ∈ p5, x.block < W.heap.size := by obtain ⟨m, hm⟩ := k5; exact DataW.trod_lt m _ _ _ hm
  obtain ⟨l5, w5, e5, f5, z5⟩ := (by obtain ⟨fuel, hf⟩ := h5; exact txt_read hf (fun _ => rfl) : ∃ l, Txt W.heap.size W A5 n5 l ∧ n5 ≤ c5 ∧ c5 ≤ maxLen ∧ ∀ n, (∀ m ∈ DataW.weights Tryz.prog 24 d5, m ≤ n) → ∀ s ∈ l, s.length ≤ n)
  have s5 := txt_sized (i := 5) z5 hsz rfl rfl
  clear hA0 hval0
  refine (walk x0 a1 a2 a3 A4 n4 c4 l4 A5 n5 c5 l5 W wa0 wb0 wc0 w1 w2 w3 w4 s4 w5 s5).mono fun e W' ⟨he, bel⟩ => ?_
  subst he
  exact ⟨_, rfl, _, _, _, [], _, [], hW', trodAll_mk1 (shut_bool Tryz.underlying4 _), (trodAll_cons_mk (sh0 _ _) (trodAll_cons_mk (Go.ChangeMaps.shut_string Tryz.underlying9 w1) (trodAll_cons_mk (shut_int Tryz.underlying3 w2) (trodAll_cons_mk (shut_int Tryz.underlying3 w3) (trodAll_cons_mk (Below.trod laidOut (by kernel_rfl) (of_decide_eq_true (by kernel_rfl)) k4 bel lt4) (trodAll_cons_mk (Below.trod laidOut (by kernel_rfl) (of_decide_eq_true (by kernel_rfl)) k5 bel lt5) trodAll_mk0)))))), rfl, bel.frame _, fun h => by cases h⟩

theorem over : Rows.frameTellsRow.holds Tryz.pinned (OpenSpec.ofChange Rows.frameTellsSpec) :=
  OpenClaim.holds_of_wide 3 Tryz.f3 rfl rfl rfl rfl rfl rfl rfl ⟨rfl, rfl, rfl, rfl, rfl⟩ rfl rfl rfl rfl rfl (by kernel_rfl) Tryz.func3 (by kernel_rfl)
    (of_decide_eq_true (by kernel_rfl)) (by unfold Func.isWrapper; first | (rw [if_pos (by decide +kernel)]; kernel_rfl) | (rw [if_neg (by decide +kernel)]; exact ⟨rfl, rfl⟩))
    (fun os started H enc _ => lifted os started H enc)

/-- The statement. -/
theorem proved : Rows.FrameTellsSaid := over
end Go.Proofs.YtbdpmfgphhgigaaGreat.frameTells
