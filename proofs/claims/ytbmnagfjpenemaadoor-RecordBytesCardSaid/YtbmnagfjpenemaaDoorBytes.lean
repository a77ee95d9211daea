/- What Get reads Put writes again; what Put wrote Get reads, and no less and no more. The row speaks of the table of names as the program's text lays it; the card ties that to the text. -/
import Derived.Test.YtbmnagfjpenemaaDoorRows
import Derived.Test.YtbmnagfjpenemaaDoorCards
import Derived.Test.YtbmnagfjpenemaaDoorTie
import Derived.Test.YtbmnagfjpenemaaDoorTurn
import Derived.Test.YtbmnagfjpenemaaDoorLight
import Derived.Test.YtbmnagfjpenemaaDoorBase
import Derived.Deep.RegionHeld3
import Derived.Deep.QuietTactic
import Derived.LoopTactic
import Derived.StillTailTactics
import Derived.BigQuiet
import Derived.Deep.DeepCutAuto
import Derived.Deep.RegionLaw
import Derived.Deep.CutBlock
import Derived.Lib.Hide
import Derived.WalkKit
import Derived.ProofKit
import Derived.OpenShut
import Derived.ChangeOld
import Derived.Below
import Derived.Carry
import Derived.LaidMore
import Derived.SevenTiedAt
namespace Go.Proofs.YtbmnagfjpenemaaDoor.recordBytes
open Go.ChangeShapes Go.WideShapes Go.ChangeAt Go.RowKit
set_option linter.unusedVariables false
set_option linter.unusedSimpArgs false
set_option maxRecDepth 100000

set_option maxRecDepth 100000 in
set_option maxHeartbeats 100000000 in
theorem walk (a0 : ByteArray) (r : Rc) (h : Hd) (a2 : Int) (a3 : ByteArray) (w : World) (w0 : a0.size ≤ maxLen) (hr : RcM w.heap.size w r h) (w2 : (Lit.int .i64 a2).wf = true) (w3 : a3.size ≤ maxLen) (hn : NamesAt w) :
    Calls Tryd.prog 3 #[.string a0, rcv r h, .int .i64 a2, .string a3] w fun e w' => e = .returned (.bool true) ∧ Below w.heap.size w w' := by
  have HN := Lib.hid hn
  have A0 := Lib.hid (fun u (hb : Below w.heap.size w u) => alive_yes u (HN.out.kept hb))
  have LI := Lib.hid (fun u (hb : Below w.heap.size w u) => light_any r h u (hr.kept hb) hb.size)
  have PU := Lib.hid (fun u (hb : Below w.heap.size w u) => put_any r h u (hr.kept hb) hb.size)
  have HRM := Lib.hid hr
  unfold rcv at LI PU ⊢
  unfold maxLen at w0 w3
  have i0 : (a0.size : Int) ≤ 9223372036854775807 := by omega
  have i3 : (a3.size : Int) ≤ 9223372036854775807 := by omega
  clear hr hn
  have HX := Lib.hid (Bx.new w #[.int .i64 r.kind, .int .i64 r.tx, .int .i64 r.prev, .int .i64 r.next, .string r.key, .bool r.had, .string r.old.k, .string r.old.v, .int .i64 r.old.b, .int .i64 r.old.z, .slice h.g.A h.g.n h.g.c, .slice h.p.A h.p.n h.p.c, .slice h.t.A h.t.n h.t.c, .slice h.d.A h.d.n h.d.c] 29)
  have HB := Lib.hid ((Below.refl w.heap.size w).alloc (Nat.le_refl _) (.cells #[.int .i64 r.kind, .int .i64 r.tx, .int .i64 r.prev, .int .i64 r.next, .string r.key, .bool r.had, .string r.old.k, .string r.old.v, .int .i64 r.old.b, .int .i64 r.old.z, .slice h.g.A h.g.n h.g.c, .slice h.p.A h.p.n h.p.c, .slice h.t.A h.t.n h.t.c, .slice h.d.A h.d.n h.d.c] 29))
  go_enter Tryd.func3, Tryd.ntmps3
  go_upto_region 1 with fail
  generalize w.alloc (.cells #[.int .i64 r.kind, .int .i64 r.tx, .int .i64 r.prev, .int .i64 r.next, .string r.key, .bool r.had, .string r.old.k, .string r.old.v, .int .i64 r.old.b, .int .i64 r.old.z, .slice h.g.A h.g.n h.g.c, .slice h.p.A h.p.n h.p.c, .slice h.t.A h.t.n h.t.c, .slice h.d.A h.d.n h.d.c] 29) = W at *
  by_cases d0 : (a0.size : Int) > 600
  · have d0' : (600 : Int) < (a0.size : Int) := d0
    go_wp2_with fail
    refine (A0.out _ HB.out).mono ?_; rintro e wz ⟨rfl, hb⟩
    have HBZ := Lib.hid (HB.out.trans (hb.mono HB.out.size))
    clear hb
    go_wp2_with fail
    go_ret
    exact ⟨rfl, HBZ.out⟩
  · have d0' : ¬ (600 : Int) < (a0.size : Int) := d0
    have d0'' : (a0.size : Int) ≤ 600 := by omega
    have hcs := fun j => HX.out.cell j
    have x0 := hcs 0
    have x1 := hcs 1
    have x2 := hcs 2
    have x3 := hcs 3
    have x4 := hcs 4
    have x5 := hcs 5
    have x6 := hcs 6
    have x7 := hcs 7
    have x8 := hcs 8
    have x9 := hcs 9
    have x10 := hcs 10
    have x11 := hcs 11
    have x12 := hcs 12
    have x13 := hcs 13
    clear hcs
    simp only [List.getElem?_toArray, List.getElem?_cons_zero, List.getElem?_cons_succ] at x0 x1 x2 x3 x4 x5 x6 x7 x8 x9 x10 x11 x12 x13
    go_wp2_with fail
    refine (LI.out _ HB.out).mono ?_; rintro e wl ⟨li, rfl, _, hb⟩
    have HB1 := Lib.hid (HB.out.trans (hb.mono HB.out.size))
    have HX1 := Lib.hid (HX.out.held hb)
    clear hb HX HB LI
    clear x0 x1 x2 x3 x4 x5 x6 x7 x8 x9 x10 x11 x12 x13
    cases li with
    | false =>
      go_wp2_with fail
      refine (A0.out _ HB1.out).mono ?_; rintro e wz ⟨rfl, hb⟩
      have HBZ := Lib.hid (HB1.out.trans (hb.mono HB1.out.size))
      clear hb
      go_wp2_with fail
      go_ret
      exact ⟨rfl, HBZ.out⟩
    | true =>
      by_cases d3 : (a3.size : Int) > 40
      · have d3' : (40 : Int) < (a3.size : Int) := d3
        go_wp2_with fail
        refine (A0.out _ HB1.out).mono ?_; rintro e wz ⟨rfl, hb⟩
        have HBZ := Lib.hid (HB1.out.trans (hb.mono HB1.out.size))
        clear hb
        go_wp2_with fail
        go_ret
        exact ⟨rfl, HBZ.out⟩
      · have d3' : ¬ (40 : Int) < (a3.size : Int) := d3
        have d3'' : (a3.size : Int) ≤ 40 := by omega
        have hl0 : a0.data.toList.length ≤ 800000 := by rw [size_data]; omega
        have GT0 := Lib.hid (fun u => got_any a0.data.toList hl0 u)
        rw [str_data] at GT0
        have GW0 := Lib.hid (got_w hl0)
        have HR2 := Lib.hid (show getOk a0.data.toList = true → rightR (gotR a0.data.toList) = true ∧ str (putS (gotR a0.data.toList)) = a0 from fun g => by
          have e : gotR a0.data.toList = readR a0.data.toList := by unfold gotR; rw [if_pos g]
          obtain ⟨h1, h2⟩ := getOk_iff.1 g
          rw [e]
          refine ⟨h1, ?_⟩
          unfold putS
          rw [if_pos h1, h2, str_data])
        have HR3 := Lib.hid (show getOk a0.data.toList = false → gotR a0.data.toList = nilR from fun g => by unfold gotR; rw [g]; rfl)
        generalize gotR a0.data.toList = r2 at *
        generalize getOk a0.data.toList = g at *
        clear hl0
        have eq0 : (a0.toList == a0.toList) = true := by rw [beq_iff_eq]
        go_wp2_with fail
        refine (A0.out _ HB1.out).mono ?_; rintro e U ⟨rfl, hb⟩
        have HB2 := Lib.hid (HB1.out.trans (hb.mono HB1.out.size))
        have HX2 := Lib.hid (HX1.out.held hb)
        clear hb HX1 HB1 A0
        unfold rcv at GT0
        cases g with
        | true =>
          go_wp2_with fail
          refine (GT0.out _).mono ?_; rintro e w5 ⟨h2, rfl, hb, ho⟩
          have HBVa := Lib.hid (HB2.out.trans (hb.mono HB2.out.size))
          have HBV := Lib.hid (HBVa.out.alloc HBVa.out.size (.cells (rcs r2 h2) 29))
          have HM := Lib.hid ((ho.m GW0.out).kept ((Below.refl w5.heap.size w5).alloc (Nat.le_refl _) (.cells (rcs r2 h2) 29)))
          have YB := Lib.hid (Bx.new w5 (rcs r2 h2) 29)
          have HXV := Lib.hid ((HX2.out.held hb).alloc (.cells (rcs r2 h2) 29))
          unfold rcs at HBV HM YB HXV
          clear hb ho HB2 HX2 HBVa
          have P2 := Lib.hid (put_any r2 h2 _ HM.out (by simp))
          obtain ⟨e1, e2⟩ := HR2.out (by trivial)
          rw [e1, e2] at P2
          unfold rcv at P2
          clear e1 e2
          have hcs := fun j => YB.out.cell j
          have y0 := hcs 0
          have y1 := hcs 1
          have y2 := hcs 2
          have y3 := hcs 3
          have y4 := hcs 4
          have y5 := hcs 5
          have y6 := hcs 6
          have y7 := hcs 7
          have y8 := hcs 8
          have y9 := hcs 9
          have y10 := hcs 10
          have y11 := hcs 11
          have y12 := hcs 12
          have y13 := hcs 13
          clear hcs
          simp only [List.getElem?_toArray, List.getElem?_cons_zero, List.getElem?_cons_succ] at y0 y1 y2 y3 y4 y5 y6 y7 y8 y9 y10 y11 y12 y13
          go_wp2_with fail
          refine P2.out.mono ?_; rintro e V2 ⟨rfl, hb⟩
          have HB3 := Lib.hid (HBV.out.trans (hb.mono HBV.out.size))
          have HX3 := Lib.hid (HXV.out.held hb)
          clear hb HBV HXV P2 YB HM
          clear y0 y1 y2 y3 y4 y5 y6 y7 y8 y9 y10 y11 y12 y13
          have hcs := fun j => HX3.out.cell j
          have x0 := hcs 0
          have x1 := hcs 1
          have x2 := hcs 2
          have x3 := hcs 3
          have x4 := hcs 4
          have x5 := hcs 5
          have x6 := hcs 6
          have x7 := hcs 7
          have x8 := hcs 8
          have x9 := hcs 9
          have x10 := hcs 10
          have x11 := hcs 11
          have x12 := hcs 12
          have x13 := hcs 13
          clear hcs
          simp only [List.getElem?_toArray, List.getElem?_cons_zero, List.getElem?_cons_succ] at x0 x1 x2 x3 x4 x5 x6 x7 x8 x9 x10 x11 x12 x13
          cases hz : rightR r with
          | false =>
            rw [hz, show putS r = [] from by unfold putS; rw [hz]; rfl] at PU
            have ee : (str []).toList.isEmpty = true := by rw [str_toList]; rfl
            have ee2 : (str []).toList = [] := str_toList []
            generalize str [] = be at *
            go_wp2_with fail
            refine (PU.out _ HB3.out).mono ?_; rintro e w6 ⟨rfl, hb⟩
            have HB4 := Lib.hid (HB3.out.trans (hb.mono HB3.out.size))
            clear hb
            go_wp2_with fail
            go_ret
            exact ⟨rfl, HB4.out⟩
          | true =>
            have hps : putS r = encR r := by unfold putS; rw [hz]; rfl
            rw [hz, hps] at PU
            have hE := enc_small (rightR_iff.1 hz)
            have hpos := encR_pos r
            obtain ⟨bb, hbb⟩ : ∃ bb, bb = str (encR r) := ⟨_, rfl⟩
            have hbs : bb.size = (encR r).length := by rw [hbb, str_size]
            obtain ⟨k, hk, hks⟩ := place a2 bb.size (by omega) (by omega)
            have HKs := Lib.hid hks
            clear hks
            have hkl : k < (encR r).length := Nat.lt_of_lt_of_eq hk hbs
            have hl3 : ((encR r).take k).length ≤ 800000 := by rw [List.length_take]; omega
            have hl4 : (encR r ++ a3.data.toList).length ≤ 800000 := by rw [List.length_append, size_data]; omega
            have G3 := Lib.hid (fun u => got_any ((encR r).take k) hl3 u)
            have W3 := Lib.hid (got_w hl3)
            rw [getOk_less hz k hkl] at G3
            have G4 := Lib.hid (fun u => got_any (encR r ++ a3.data.toList) hl4 u)
            have W4 := Lib.hid (got_w hl4)
            rw [getOk_more hz] at G4
            have HSH := run_slice_hi bb k (by omega)
            rw [show bb.data.toList.take k = (encR r).take k from by rw [hbb, data_str]] at HSH
            have SH := Lib.hid HSH
            clear HSH
            have HJ := Lib.hid (show bb ++ a3 = str (encR r ++ a3.data.toList) from by rw [hbb, ← str_join, str_data])
            rw [← hbb] at PU
            generalize gotR ((encR r).take k) = r3 at *
            generalize gotR (encR r ++ a3.data.toList) = r4 at *
            generalize str ((encR r).take k) = sA at *
            generalize str (encR r ++ a3.data.toList) = sD at *
            have HMORE := Lib.hid (show a3.toList.isEmpty = decide (a3.data.toList = []) from by
              rw [Lib.toList_data]
              cases a3.data.toList with
              | nil => rfl
              | cons x l => rfl)
            have HMORE2 := Lib.hid (show (a3.toList == []) = decide (a3.data.toList = []) from by
              rw [Lib.toList_data]
              cases a3.data.toList with
              | nil => rfl
              | cons x l => rfl)
            generalize hg4 : decide (a3.data.toList = []) = g4 at *
            clear hg4
            have k1 : (0 : Int) ≤ (k : Int) := by omega
            have k2 : (k : Int) < (bb.size : Int) := by omega
            have k3 : ((bb.size : Int) == 0) = false := by rw [beq_eq_false_iff_ne]; omega
            have k4 : ¬ (bb.size : Int) = 0 := by omega
            have k5 : (bb.size : Int) ≤ 20000 := by omega
            have HS34 := Lib.hid (⟨by omega, by omega⟩ : bb.size + a3.size ≤ 9223372036854775807 ∧ ¬ 9223372036854775807 < bb.size + a3.size)
            clear hps hz hE hpos hbb hbs hkl hl3 hl4 hk w0 w2 w3
            go_wp2_with fail
            refine (PU.out _ HB3.out).mono ?_; rintro e U2 ⟨rfl, hb⟩
            have HB4 := Lib.hid (HB3.out.trans (hb.mono HB3.out.size))
            clear hb HX3 HB3 PU
            clear x0 x1 x2 x3 x4 x5 x6 x7 x8 x9 x10 x11 x12 x13
            obtain ⟨_, hk1, hk2, hk3, hk4⟩ := HKs.out
            have sh := SH.out
            unfold rcv at G3 G4
            go_wp2_with fail
            refine (G3.out _).mono ?_; rintro e w7 ⟨h3, rfl, hb, ho⟩
            have HB5a := Lib.hid (HB4.out.trans (hb.mono HB4.out.size))
            have HB5 := Lib.hid (HB5a.out.alloc HB5a.out.size (.cells (rcs r3 h3) 29))
            unfold rcs at HB5
            clear hb ho HB4 HB5a
            clear hk1 hk2 hk3 hk4 sh
            obtain ⟨s34, s35⟩ := HS34.out
            have hJ := HJ.out
            have m1 := HMORE.out
            have m2 := HMORE2.out
            cases g4 with
            | false =>
              have m3 : ¬ a3.toList = [] := by intro e; rw [e] at m2; cases m2
              go_wp2_with fail
              refine (G4.out _).mono ?_; rintro e w8 ⟨h4, rfl, hb, ho⟩
              have HB6a := Lib.hid (HB5.out.trans (hb.mono HB5.out.size))
              have HB6 := Lib.hid (HB6a.out.alloc HB6a.out.size (.cells (rcs r4 h4) 29))
              unfold rcs at HB6
              clear hb ho HB5 HB6a
              go_wp2_with fail
              go_ret
              exact ⟨rfl, HB6.out⟩
            | true =>
              have m3 : a3.toList = [] := by simpa using m2
              go_wp2_with fail
              refine (G4.out _).mono ?_; rintro e w8 ⟨h4, rfl, hb, ho⟩
              have HB6a := Lib.hid (HB5.out.trans (hb.mono HB5.out.size))
              have HB6 := Lib.hid (HB6a.out.alloc HB6a.out.size (.cells (rcs r4 h4) 29))
              unfold rcs at HB6
              clear hb ho HB5 HB6a
              go_wp2_with fail
              go_ret
              exact ⟨rfl, HB6.out⟩
        | false =>
          obtain rfl : r2 = nilR := HR3.out (by trivial)
          go_wp2_with fail
          refine (GT0.out _).mono ?_; rintro e w5 ⟨h2, rfl, hb, ho⟩
          have HBVa := Lib.hid (HB2.out.trans (hb.mono HB2.out.size))
          have HBV := Lib.hid (HBVa.out.alloc HBVa.out.size (.cells (rcs nilR h2) 29))
          have HM := Lib.hid ((ho.m GW0.out).kept ((Below.refl w5.heap.size w5).alloc (Nat.le_refl _) (.cells (rcs nilR h2) 29)))
          have YB := Lib.hid (Bx.new w5 (rcs nilR h2) 29)
          have HXV := Lib.hid ((HX2.out.held hb).alloc (.cells (rcs nilR h2) 29))
          unfold rcs at HBV HM YB HXV
          clear hb ho HB2 HX2 HBVa
          have S2 := Lib.hid (samer_is nilR nilR h2 hd0 _ HM.out (RcM.zero 0 _) (by simp) (Nat.zero_le _))
          rw [eqR_self] at S2
          unfold rcv at S2
          have hcs := fun j => YB.out.cell j
          have y0 := hcs 0
          have y1 := hcs 1
          have y2 := hcs 2
          have y3 := hcs 3
          have y4 := hcs 4
          have y5 := hcs 5
          have y6 := hcs 6
          have y7 := hcs 7
          have y8 := hcs 8
          have y9 := hcs 9
          have y10 := hcs 10
          have y11 := hcs 11
          have y12 := hcs 12
          have y13 := hcs 13
          clear hcs
          simp only [List.getElem?_toArray, List.getElem?_cons_zero, List.getElem?_cons_succ] at y0 y1 y2 y3 y4 y5 y6 y7 y8 y9 y10 y11 y12 y13
          go_wp2_with fail
          refine S2.out.mono ?_; rintro e V2 ⟨rfl, hb⟩
          have HB3 := Lib.hid (HBV.out.trans (hb.mono HBV.out.size))
          have HX3 := Lib.hid (HXV.out.held hb)
          clear hb HBV HXV S2 YB HM
          clear y0 y1 y2 y3 y4 y5 y6 y7 y8 y9 y10 y11 y12 y13
          have hcs := fun j => HX3.out.cell j
          have x0 := hcs 0
          have x1 := hcs 1
          have x2 := hcs 2
          have x3 := hcs 3
          have x4 := hcs 4
          have x5 := hcs 5
          have x6 := hcs 6
          have x7 := hcs 7
          have x8 := hcs 8
          have x9 := hcs 9
          have x10 := hcs 10
          have x11 := hcs 11
          have x12 := hcs 12
          have x13 := hcs 13
          clear hcs
          simp only [List.getElem?_toArray, List.getElem?_cons_zero, List.getElem?_cons_succ] at x0 x1 x2 x3 x4 x5 x6 x7 x8 x9 x10 x11 x12 x13
          cases hz : rightR r with
          | false =>
            rw [hz, show putS r = [] from by unfold putS; rw [hz]; rfl] at PU
            have ee : (str []).toList.isEmpty = true := by rw [str_toList]; rfl
            have ee2 : (str []).toList = [] := str_toList []
            generalize str [] = be at *
            go_wp2_with fail
            refine (PU.out _ HB3.out).mono ?_; rintro e w6 ⟨rfl, hb⟩
            have HB4 := Lib.hid (HB3.out.trans (hb.mono HB3.out.size))
            clear hb
            go_wp2_with fail
            go_ret
            exact ⟨rfl, HB4.out⟩
          | true =>
            have hps : putS r = encR r := by unfold putS; rw [hz]; rfl
            rw [hz, hps] at PU
            have hE := enc_small (rightR_iff.1 hz)
            have hpos := encR_pos r
            obtain ⟨bb, hbb⟩ : ∃ bb, bb = str (encR r) := ⟨_, rfl⟩
            have hbs : bb.size = (encR r).length := by rw [hbb, str_size]
            obtain ⟨k, hk, hks⟩ := place a2 bb.size (by omega) (by omega)
            have HKs := Lib.hid hks
            clear hks
            have hkl : k < (encR r).length := Nat.lt_of_lt_of_eq hk hbs
            have hl3 : ((encR r).take k).length ≤ 800000 := by rw [List.length_take]; omega
            have hl4 : (encR r ++ a3.data.toList).length ≤ 800000 := by rw [List.length_append, size_data]; omega
            have G3 := Lib.hid (fun u => got_any ((encR r).take k) hl3 u)
            have W3 := Lib.hid (got_w hl3)
            rw [getOk_less hz k hkl] at G3
            have G4 := Lib.hid (fun u => got_any (encR r ++ a3.data.toList) hl4 u)
            have W4 := Lib.hid (got_w hl4)
            rw [getOk_more hz] at G4
            have HSH := run_slice_hi bb k (by omega)
            rw [show bb.data.toList.take k = (encR r).take k from by rw [hbb, data_str]] at HSH
            have SH := Lib.hid HSH
            clear HSH
            have HJ := Lib.hid (show bb ++ a3 = str (encR r ++ a3.data.toList) from by rw [hbb, ← str_join, str_data])
            rw [← hbb] at PU
            generalize gotR ((encR r).take k) = r3 at *
            generalize gotR (encR r ++ a3.data.toList) = r4 at *
            generalize str ((encR r).take k) = sA at *
            generalize str (encR r ++ a3.data.toList) = sD at *
            have HMORE := Lib.hid (show a3.toList.isEmpty = decide (a3.data.toList = []) from by
              rw [Lib.toList_data]
              cases a3.data.toList with
              | nil => rfl
              | cons x l => rfl)
            have HMORE2 := Lib.hid (show (a3.toList == []) = decide (a3.data.toList = []) from by
              rw [Lib.toList_data]
              cases a3.data.toList with
              | nil => rfl
              | cons x l => rfl)
            generalize hg4 : decide (a3.data.toList = []) = g4 at *
            clear hg4
            have k1 : (0 : Int) ≤ (k : Int) := by omega
            have k2 : (k : Int) < (bb.size : Int) := by omega
            have k3 : ((bb.size : Int) == 0) = false := by rw [beq_eq_false_iff_ne]; omega
            have k4 : ¬ (bb.size : Int) = 0 := by omega
            have k5 : (bb.size : Int) ≤ 20000 := by omega
            have HS34 := Lib.hid (⟨by omega, by omega⟩ : bb.size + a3.size ≤ 9223372036854775807 ∧ ¬ 9223372036854775807 < bb.size + a3.size)
            clear hps hz hE hpos hbb hbs hkl hl3 hl4 hk w0 w2 w3
            go_wp2_with fail
            refine (PU.out _ HB3.out).mono ?_; rintro e U2 ⟨rfl, hb⟩
            have HB4 := Lib.hid (HB3.out.trans (hb.mono HB3.out.size))
            clear hb HX3 HB3 PU
            clear x0 x1 x2 x3 x4 x5 x6 x7 x8 x9 x10 x11 x12 x13
            obtain ⟨_, hk1, hk2, hk3, hk4⟩ := HKs.out
            have sh := SH.out
            unfold rcv at G3 G4
            go_wp2_with fail
            refine (G3.out _).mono ?_; rintro e w7 ⟨h3, rfl, hb, ho⟩
            have HB5a := Lib.hid (HB4.out.trans (hb.mono HB4.out.size))
            have HB5 := Lib.hid (HB5a.out.alloc HB5a.out.size (.cells (rcs r3 h3) 29))
            unfold rcs at HB5
            clear hb ho HB4 HB5a
            clear hk1 hk2 hk3 hk4 sh
            obtain ⟨s34, s35⟩ := HS34.out
            have hJ := HJ.out
            have m1 := HMORE.out
            have m2 := HMORE2.out
            cases g4 with
            | false =>
              have m3 : ¬ a3.toList = [] := by intro e; rw [e] at m2; cases m2
              go_wp2_with fail
              refine (G4.out _).mono ?_; rintro e w8 ⟨h4, rfl, hb, ho⟩
              have HB6a := Lib.hid (HB5.out.trans (hb.mono HB5.out.size))
              have HB6 := Lib.hid (HB6a.out.alloc HB6a.out.size (.cells (rcs r4 h4) 29))
              unfold rcs at HB6
              clear hb ho HB5 HB6a
              go_wp2_with fail
              go_ret
              exact ⟨rfl, HB6.out⟩
            | true =>
              have m3 : a3.toList = [] := by simpa using m2
              go_wp2_with fail
              refine (G4.out _).mono ?_; rintro e w8 ⟨h4, rfl, hb, ho⟩
              have HB6a := Lib.hid (HB5.out.trans (hb.mono HB5.out.size))
              have HB6 := Lib.hid (HB6a.out.alloc HB6a.out.size (.cells (rcs r4 h4) 29))
              unfold rcs at HB6
              clear hb ho HB5 HB6a
              go_wp2_with fail
              go_ret
              exact ⟨rfl, HB6.out⟩

/-! The row's step. -/
set_option maxRecDepth 100000 in
theorem lifted (os : Os) (started : os.Started) (H : Type) (enc : TypeId × Value → H) :
    ReturnsInHanded {} Tryd.checked os 3 .any (fun w args => (Rows.recordBytesSpec.pre enc Tryd.prog Tryd.f3 [] false w args ∧ laidMetH Tryd.prog laidL w) ∧ sizedMet enc Tryd.prog Tryd.f3 (OpenSpec.ofChange Rows.recordBytesSpec) false w args)
      (Rows.recordBytesSpec.post enc Tryd.prog Tryd.f3 false true false false) := by
  refine returnsInHanded_of_change_and (C := Tryd.checked) (X := fun w _ => laidMetH Tryd.prog laidL w) (fun _ _ _ hh h => h.of_heap hh) own started (by kernel_rfl) Tryd.func3
    (ChangeSpec.witness_shaped (enc := enc) (C := Tryd.checked) (os := os) (X := fun w _ => laidMetH Tryd.prog laidL w) false (World.doorLaid Tryd.prog 400 os) #[.string ByteArray.empty, .agg #[.int .i64 0, .int .i64 0, .int .i64 0, .int .i64 0, .string ByteArray.empty, .bool false, .string ByteArray.empty, .string ByteArray.empty, .int .i64 0, .int .i64 0, .slice none 0 0, .slice none 0 0, .slice none 0 0, .slice none 0 0], .int .i64 0, .string ByteArray.empty] 8 rfl (World.shaped_of_RefB (by kernel_rfl) (by kernel_rfl)) (by kernel_rfl) (by kernel_rfl) (by kernel_rfl) (door_met os _)) ?_
  intro W base args ds gs before hval0 hW _ _ hL _
  have hval : ∀ (j : Nat) t v, Tryd.f3.params[j]? = some t → args[j]? = some v → Value.okWide Tryd.prog W .any base t v := hval0
  have hW' := hW
  obtain ⟨p, q, hA0, hV, rfl, hfz, hnd⟩ := hW
  have hA : DataW.TrodAll enc Tryd.prog W 0 (fun _ => true) true Tryd.f3.params.toList args.toList ds p := hA0
  rw [Tryd.params3] at hA hval
  obtain ⟨v0, vs0, d0, ds0, p0, q0, hargs, rfl, rfl, h0, r0⟩ := trodAll_cons hA
  obtain ⟨v1, vs1, d1, ds1, p1, q1, rfl, rfl, rfl, h1, r1⟩ := trodAll_cons r0
  obtain ⟨v2, vs2, d2, ds2, p2, q2, rfl, rfl, rfl, h2, r2⟩ := trodAll_cons r1
  obtain ⟨v3, vs3, d3, ds3, p3, q3, rfl, rfl, rfl, h3, r3⟩ := trodAll_cons r2
  obtain ⟨rfl, rfl, rfl⟩ := trodAll_nil r3
  obtain rfl : args = #[v0, v1, v2, v3] := by cases args; simp_all
  obtain ⟨rfl, rfl⟩ := trodVars_none hV
  obtain ⟨a0, rfl, rfl, rfl, w0⟩ := Go.ChangeMaps.open_string Tryd.underlying9 (hval 0 9 v0 rfl rfl) h0
  have k1 := h1
  have lt1 : ∀ x ∈ p1, x.block < W.heap.size := by obtain ⟨m, hm⟩ := k1; exact DataW.trod_lt m _ _ _ hm
  obtain ⟨r1r, r1h, rfl, r1m⟩ := rec_read (hval 1 29 v1 rfl rfl) h1 (fun _ => rfl)
  obtain ⟨a2, rfl, rfl, rfl, w2⟩ := open_int Tryd.underlying3 (hval 2 3 v2 rfl rfl) h2
  obtain ⟨a3, rfl, rfl, rfl, w3⟩ := Go.ChangeMaps.open_string Tryd.underlying9 (hval 3 9 v3 rfl rfl) h3
  clear hA0 hval0
  refine (walk a0 r1r r1h a2 a3 W w0 r1m w2 w3 (of_laid hL)).mono fun e W' ⟨he, bel⟩ => ?_
  subst he
  exact ⟨_, rfl, _, _, _, [], _, [], hW', trodAll_mk1 (shut_bool Tryd.underlying4 _), (trodAll_cons_mk (Go.ChangeMaps.shut_string Tryd.underlying9 w0) (trodAll_cons_mk (Below.trod laidOut (by kernel_rfl) (of_decide_eq_true (by kernel_rfl)) k1 bel lt1) (trodAll_cons_mk (shut_int Tryd.underlying3 w2) (trodAll_cons_mk (Go.ChangeMaps.shut_string Tryd.underlying9 w3) trodAll_mk0)))), rfl, bel.frame _, fun h => by cases h⟩

/-- The row's statement. -/
theorem over : Rows.RecordBytesSaid :=
  OpenClaim.holds_of_wide 3 Tryd.f3 rfl rfl rfl rfl rfl rfl rfl ⟨rfl, rfl, rfl, rfl, rfl⟩ rfl rfl rfl rfl rfl (by kernel_rfl) Tryd.func3 (by kernel_rfl)
    (of_decide_eq_true (by kernel_rfl)) (by unfold Func.isWrapper; first | (rw [if_pos (by decide +kernel)]; kernel_rfl) | (rw [if_neg (by decide +kernel)]; exact ⟨rfl, rfl⟩))
    (fun os started H enc _ => lifted os started H enc)

/-- The card. -/
theorem proved : Rows.RecordBytesCardSaid :=
  Claim7.holds_tied_plain_at .later [] [.data] true Rows.recordBytesCard.stood.harness false
    over (fun _ h => by cases h) (by kernel_rfl) (fun _ h => by cases h) recordBytes_row_tie rfl ⟨rfl, rfl⟩ (by kernel_rfl) rfl
    (fun f fn hf hfn => by
      obtain rfl : f = 3 := Option.some.inj ((show Tryd.prog.funcNamed "honeycomb/honeycomblaw12.RecordBytes" = some 3 by kernel_rfl).symm.trans hf) |>.symm
      obtain rfl : fn = Tryd.f3 := (Option.some.inj (Tryd.func3.symm.trans hfn)).symm
      exact ⟨by kernel_rfl, fun j t ht => by
        rw [Tryd.params3] at ht
        have hm : t ∈ [9, 29, 3, 9] := by simpa using Array.mem_of_getElem? ht
        have hall : ([9, 29, 3, 9].all fun u => !Tryd.prog.wantsStandIn u) = true := by kernel_rfl
        exact (show Tryd.prog.wantsStandIn t = false by simpa using List.all_eq_true.1 hall t hm)⟩)
    (by kernel_rfl)
end Go.Proofs.YtbmnagfjpenemaaDoor.recordBytes
