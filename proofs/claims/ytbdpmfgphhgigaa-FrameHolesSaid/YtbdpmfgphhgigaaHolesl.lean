/- Of a batch of which sectors were never written, the first records are read; written anew, it is read whole. -/
import Derived.Test.YtbdpmfgphhgigaaRows
import Derived.Test.YtbdpmfgphhgigaaHolb
import Derived.Deep.RegionHeld3
import Derived.Deep.QuietTactic
import Derived.LoopTactic
import Derived.StillTailTactics
import Derived.BigQuiet
import Derived.Deep.DeepCutAuto
import Derived.Deep.RegionLaw
import Derived.Deep.CutBlock
import Derived.Lib.Hide
import Derived.WalkKit
import Derived.SizedLaws
import Derived.ProofKit
import Derived.OpenShut
import Derived.ChangeOld
import Derived.Below
import Derived.Carry
namespace Go.Proofs.Ytbdpmfgphhgigaa.frameHoles
open Go.ChangeShapes Go.WideShapes Go.ChangeAt Go.RowKit
set_option linter.unusedVariables false

theorem own : ownKnob Try.prog.godebug = none := by kernel_rfl
theorem laidOut : laidOutB Try.prog = true := by kernel_rfl


set_option maxRecDepth 100000 in
set_option maxHeartbeats 100000000 in
theorem walk (A0 : Option Addr) (n0 c0 : Nat) (l0 : List BA) (A1 : Option Addr) (n1 c1 : Nat) (l1 : List BA) (A2 : Option Addr) (n2 c2 : Nat) (l2 : List BA) (A3 : Option Addr) (n3 c3 : Nat) (l3 : List BA) (A4 : Option Addr) (n4 c4 : Nat) (l4 : List Bool) (w : World) (w0t : Txt w.heap.size w A0 n0 l0) (s0 : ∀ x ∈ l0, x.length ≤ 140737488351232) (w1t : Txt w.heap.size w A1 n1 l1) (s1 : ∀ x ∈ l1, x.length ≤ 140737488351232) (w2t : Txt w.heap.size w A2 n2 l2) (s2 : ∀ x ∈ l2, x.length ≤ 140737488351232) (e2 : n2 ≤ c2) (w3t : Txt w.heap.size w A3 n3 l3) (s3 : ∀ x ∈ l3, x.length ≤ 140737488351232) (w4t : Bools w A4 n4 l4) (m4 : n4 ≤ maxLen) :
    Calls Try.prog 4 #[.slice A0 n0 c0, .slice A1 n1 c1, .slice A2 n2 c2, .slice A3 n3 c3, .slice A4 n4 c4] w fun e w' => e = .returned (.bool true) ∧ Below w.heap.size w w' := by
  have AL := Lib.hid alive_yes
  have F0 := Lib.hid (fun w' (hb : Below w.heap.size w w') => few_b (c := c0) w' (w0t.kept hb) s0)
  have F1 := Lib.hid (fun w' (hb : Below w.heap.size w w') => few_b (c := c1) w' (w1t.kept hb) s1)
  have F2 := Lib.hid (fun w' (hb : Below w.heap.size w w') => few_b (c := c2) w' (w2t.kept hb) s2)
  have F3 := Lib.hid (fun w' (hb : Below w.heap.size w w') => few_b (c := c3) w' (w3t.kept hb) s3)
  cases hf0 : fewB l0 with
  | false =>
    rw [hf0] at F0
    as_aux_lemma =>
      have HB0 := Lib.hid (Below.refl w.heap.size w)
      go_enter Try.func4, Try.ntmps4
      go_wp2_with fail
      refine (F0.out _ HB0.out).mono ?_; rintro e w1 ⟨rfl, hb⟩
      have HB1 := Lib.hid (HB0.out.trans (hb.mono HB0.out.size))
      clear hb HB0
      go_wp2_with fail
      refine (AL.out _).mono ?_; rintro e w2 ⟨rfl, hb⟩
      have HB2 := Lib.hid (HB1.out.trans (hb.mono HB1.out.size))
      clear hb HB1
      go_wp2_with fail
      go_ret
      exact ⟨by trivial, HB2.out⟩
  | true =>
    rw [hf0] at F0
    cases hf1 : fewB l1 with
    | false =>
      rw [hf1] at F1
      as_aux_lemma =>
        have HB0 := Lib.hid (Below.refl w.heap.size w)
        go_enter Try.func4, Try.ntmps4
        go_wp2_with fail
        refine (F0.out _ HB0.out).mono ?_; rintro e w1 ⟨rfl, hb⟩
        have HB1 := Lib.hid (HB0.out.trans (hb.mono HB0.out.size))
        clear hb HB0
        go_wp2_with fail
        refine (F1.out _ HB1.out).mono ?_; rintro e w2 ⟨rfl, hb⟩
        have HB2 := Lib.hid (HB1.out.trans (hb.mono HB1.out.size))
        clear hb HB1
        go_wp2_with fail
        refine (AL.out _).mono ?_; rintro e w3 ⟨rfl, hb⟩
        have HB3 := Lib.hid (HB2.out.trans (hb.mono HB2.out.size))
        clear hb HB2
        go_wp2_with fail
        go_ret
        exact ⟨by trivial, HB3.out⟩
    | true =>
      rw [hf1] at F1
      cases hf2 : fewB l2 with
      | false =>
        rw [hf2] at F2
        as_aux_lemma =>
          have HB0 := Lib.hid (Below.refl w.heap.size w)
          go_enter Try.func4, Try.ntmps4
          go_wp2_with fail
          refine (F0.out _ HB0.out).mono ?_; rintro e w1 ⟨rfl, hb⟩
          have HB1 := Lib.hid (HB0.out.trans (hb.mono HB0.out.size))
          clear hb HB0
          go_wp2_with fail
          refine (F1.out _ HB1.out).mono ?_; rintro e w2 ⟨rfl, hb⟩
          have HB2 := Lib.hid (HB1.out.trans (hb.mono HB1.out.size))
          clear hb HB1
          go_wp2_with fail
          refine (F2.out _ HB2.out).mono ?_; rintro e w3 ⟨rfl, hb⟩
          have HB3 := Lib.hid (HB2.out.trans (hb.mono HB2.out.size))
          clear hb HB2
          go_wp2_with fail
          refine (AL.out _).mono ?_; rintro e w4 ⟨rfl, hb⟩
          have HB4 := Lib.hid (HB3.out.trans (hb.mono HB3.out.size))
          clear hb HB3
          go_wp2_with fail
          go_ret
          exact ⟨by trivial, HB4.out⟩
      | true =>
        rw [hf2] at F2
        cases hf3 : fewB l3 with
        | false =>
          rw [hf3] at F3
          as_aux_lemma =>
            have HB0 := Lib.hid (Below.refl w.heap.size w)
            go_enter Try.func4, Try.ntmps4
            go_wp2_with fail
            refine (F0.out _ HB0.out).mono ?_; rintro e w1 ⟨rfl, hb⟩
            have HB1 := Lib.hid (HB0.out.trans (hb.mono HB0.out.size))
            clear hb HB0
            go_wp2_with fail
            refine (F1.out _ HB1.out).mono ?_; rintro e w2 ⟨rfl, hb⟩
            have HB2 := Lib.hid (HB1.out.trans (hb.mono HB1.out.size))
            clear hb HB1
            go_wp2_with fail
            refine (F2.out _ HB2.out).mono ?_; rintro e w3 ⟨rfl, hb⟩
            have HB3 := Lib.hid (HB2.out.trans (hb.mono HB2.out.size))
            clear hb HB2
            go_wp2_with fail
            refine (F3.out _ HB3.out).mono ?_; rintro e w4 ⟨rfl, hb⟩
            have HB4 := Lib.hid (HB3.out.trans (hb.mono HB3.out.size))
            clear hb HB3
            go_wp2_with fail
            refine (AL.out _).mono ?_; rintro e w5 ⟨rfl, hb⟩
            have HB5 := Lib.hid (HB4.out.trans (hb.mono HB4.out.size))
            clear hb HB4
            go_wp2_with fail
            go_ret
            exact ⟨by trivial, HB5.out⟩
        | true =>
          rw [hf3] at F3
          by_cases d4 : (60 : Int) < (n4 : Int)
          · as_aux_lemma =>
              have HB0 := Lib.hid (Below.refl w.heap.size w)
              go_enter Try.func4, Try.ntmps4
              go_wp2_with fail
              refine (F0.out _ HB0.out).mono ?_; rintro e w1 ⟨rfl, hb⟩
              have HB1 := Lib.hid (HB0.out.trans (hb.mono HB0.out.size))
              clear hb HB0
              go_wp2_with fail
              refine (F1.out _ HB1.out).mono ?_; rintro e w2 ⟨rfl, hb⟩
              have HB2 := Lib.hid (HB1.out.trans (hb.mono HB1.out.size))
              clear hb HB1
              go_wp2_with fail
              refine (F2.out _ HB2.out).mono ?_; rintro e w3 ⟨rfl, hb⟩
              have HB3 := Lib.hid (HB2.out.trans (hb.mono HB2.out.size))
              clear hb HB2
              go_wp2_with fail
              refine (F3.out _ HB3.out).mono ?_; rintro e w4 ⟨rfl, hb⟩
              have HB4 := Lib.hid (HB3.out.trans (hb.mono HB3.out.size))
              clear hb HB3
              go_wp2_with fail
              refine (AL.out _).mono ?_; rintro e w5 ⟨rfl, hb⟩
              have HB5 := Lib.hid (HB4.out.trans (hb.mono HB4.out.size))
              clear hb HB4
              go_wp2_with fail
              go_ret
              exact ⟨by trivial, HB5.out⟩
          · skip
            have CE := Lib.hid (fun i (h : i < 4) => show ∃ A n c l, (#[.slice A0 n0 c0, .slice A1 n1 c1, .slice A2 n2 c2, .slice A3 n3 c3] : Array Value)[i]? = some (.slice A n c) ∧ Txt w.heap.size w A n l ∧ n ≤ 1000000 ∧ l = ([l0, l1, l2, l3] : List (List BA)).getD i [] from by
              have h0 := (few_strm hf0).1
              have h1 := (few_strm hf1).1
              have h2 := (few_strm hf2).1
              have h3 := (few_strm hf3).1
              rcases i with _ | _ | _ | _ | i
              · exact ⟨A0, n0, c0, l0, rfl, w0t, by rw [← w0t.1]; omega, rfl⟩
              · exact ⟨A1, n1, c1, l1, rfl, w1t, by rw [← w1t.1]; omega, rfl⟩
              · exact ⟨A2, n2, c2, l2, rfl, w2t, by rw [← w2t.1]; omega, rfl⟩
              · exact ⟨A3, n3, c3, l3, rfl, w3t, by rw [← w3t.1]; omega, rfl⟩
              · omega)
            have W0 := Lib.hid w0t
            have W1 := Lib.hid w1t
            have W2 := Lib.hid w2t
            have W3 := Lib.hid w3t
            have W4 := Lib.hid w4t
            clear w0t w1t w2t w3t w4t
            have HB0 := Lib.hid (Below.refl w.heap.size w)
            go_enter Try.func4, Try.ntmps4
            go_wp2_with fail
            refine (F0.out _ HB0.out).mono ?_; rintro e w1 ⟨rfl, hb⟩
            have HB1 := Lib.hid (HB0.out.trans (hb.mono HB0.out.size))
            clear hb HB0
            go_wp2_with fail
            refine (F1.out _ HB1.out).mono ?_; rintro e w2 ⟨rfl, hb⟩
            have HB2 := Lib.hid (HB1.out.trans (hb.mono HB1.out.size))
            clear hb HB1
            go_wp2_with fail
            refine (F2.out _ HB2.out).mono ?_; rintro e w3 ⟨rfl, hb⟩
            have HB3 := Lib.hid (HB2.out.trans (hb.mono HB2.out.size))
            clear hb HB2
            go_wp2_with fail
            refine (F3.out _ HB3.out).mono ?_; rintro e w4 ⟨rfl, hb⟩
            have HB4 := Lib.hid (HB3.out.trans (hb.mono HB3.out.size))
            clear hb HB3
            go_wp2_with fail
            refine (AL.out _).mono ?_; rintro e w5 ⟨rfl, hb⟩
            have HB5 := Lib.hid (HB4.out.trans (hb.mono HB4.out.size))
            clear hb HB4
            go_wp2_with fail
            have HBX := Lib.hid (Bx.new w5 #[.slice A0 n0 c0, .slice A1 n1 c1, .slice A2 n2 c2, .slice A3 n3 c3] 25)
            have HY := Lib.hid (HB5.out.alloc HB5.out.size (.cells #[.slice A0 n0 c0, .slice A1 n1 c1, .slice A2 n2 c2, .slice A3 n3 c3] 25))
            clear HB5 F0 F1 F2 F3 AL
            generalize w5.alloc (.cells #[.slice A0 n0 c0, .slice A1 n1 c1, .slice A2 n2 c2, .slice A3 n3 c3] 25) = y0 at *
            generalize w5.heap.size = g4 at *
            go_loopw [69] (fun x wr => ∃ i : Nat, i ≤ 4 ∧ x = .int .i64 i ∧ Hid (Below w.heap.size w wr ∧ Bx wr g4 #[.slice A0 n0 c0, .slice A1 n1 c1, .slice A2 n2 c2, .slice A3 n3 c3] 25 ∧ ∀ t, t < i → cntB (([l0, l1, l2, l3] : List (List BA)).getD t []) ≠ 0)) (fun x _ => 4 - (intOf x).toNat)
            case atStart => exact ⟨0, Nat.zero_le _, rfl, Lib.hid ⟨HY.out, HBX.out, fun t ht => by omega⟩⟩
            case round =>
              obtain ⟨i, hi, rfl, hq⟩ := hrel
              have HQ := Lib.hid hq.out.1
              have HX := Lib.hid hq.out.2.1
              have HC := Lib.hid hq.out.2.2
              clear hq HBX HY
              have i0 : (0 : Int) ≤ (i : Int) := by omega
              by_cases hlt : i < 4
              · have i1 : (i : Int) < 4 := by omega
                obtain ⟨A, n, c, l, e1, e2, e3, e4⟩ := CE.out i hlt
                have cA : wr.cell? ⟨g4, i, none⟩ = some (.slice A n c) := (Bx.cell HX.out i).trans e1
                have CO := Lib.hid (count_b (c := c) wr (e2.kept HQ.out) e3)
                have HL := Lib.hid (fun (h : cntB l ≠ 0) t (ht : t < i + 1) => show cntB (([l0, l1, l2, l3] : List (List BA)).getD t []) ≠ 0 from by
                  by_cases e : t < i
                  · exact HC.out t e
                  · obtain rfl : t = i := by omega
                    rw [← e4]; exact h)
                clear e1 e2 e3 e4 HC
                by_cases h0 : cntB l = 0
                · rw [h0] at CO
                  as_aux_lemma =>
                    go_wp2_with fail
                    refine CO.out.mono ?_; rintro _ y1 ⟨rfl, hb⟩
                    have HY := Lib.hid (HQ.out.trans (hb.mono HQ.out.size))
                    clear hb CO
                    go_wp2_with fail
                    go_ret
                    exact ⟨by trivial, HY.out⟩
                · have HL2 := Lib.hid (HL.out h0)
                  have hcz : ((cntB l : Int) == 0) = false := by rw [beq_eq_false_iff_ne]; omega
                  clear HL
                  generalize cntB l = cz at *
                  go_wp2_with fail
                  refine CO.out.mono ?_; rintro _ y1 ⟨rfl, hb⟩
                  have HY := Lib.hid (HQ.out.trans (hb.mono HQ.out.size))
                  have HX1 := Lib.hid (Bx.held HX.out hb)
                  clear hb CO
                  go_wp2_with fail
                  go_roundw
                  case rel => exact ⟨i + 1, by omega, by go_num, Lib.hid ⟨HY.out, HX1.out, HL2.out⟩⟩
                  case measure => simp [intOf] <;> omega
              · obtain rfl : i = 4 := by omega
                have i1 : ¬ ((4 : Nat) : Int) < 4 := by omega
                have z0 : cntB l0 ≠ 0 := HC.out 0 (by omega)
                have z1 : cntB l1 ≠ 0 := HC.out 1 (by omega)
                have z2 : cntB l2 ≠ 0 := HC.out 2 (by omega)
                have z3 : cntB l3 ≠ 0 := HC.out 3 (by omega)
                clear HC HX CE
                obtain ⟨a, o, b, ha, ho, hb, ok0, ok1, ok2, a28, o28, b28, b64, hall⟩ := holes_facts hf0 hf1 hf2 z0 z1 z2
                have HALL := Lib.hid hall
                have HAG := Lib.hid (fun (e i : Int) (he : 1 ≤ e ∧ e ≤ 1000) (hi : 0 ≤ i ∧ i ≤ 1000) => few_ok (e := e) (i := i) hf3 z3 he hi)
                have B64 := Lib.hid b64
                have BA := Lib.hid (fun w' (hb : Below w.heap.size w w') => batch_few (c := c0) 1 0 (by unfold rng; omega) (by unfold rng; omega) (W0.out.kept hb) hb.size hf0)
                have BO := Lib.hid (fun w' (hb : Below w.heap.size w w') => batch_few (c := c1) 2 (a.length : Nat) (by unfold rng; omega) (by unfold rng; omega) (W1.out.kept hb) hb.size hf1)
                have BB := Lib.hid (fun w' (hb : Below w.heap.size w w') => batch_few (c := c2) 3 (a.length : Nat) (by unfold rng; omega) (by unfold rng; omega) (W2.out.kept hb) hb.size hf2)
                rw [← ha, ok0] at BA
                rw [← ho, ok1] at BO
                rw [← hb, ok2] at BB
                clear ha ho hb ok0 ok1 ok2 hall b64 z0 z1 z2 z3
                have BA1 := Lib.hid (BA.out wr HQ.out)
                clear BA
                go_wp2_with fail
                refine BA1.out.mono ?_; rintro _ y1 ⟨XA, ga, rfl, ht, hoo, hb⟩
                have HY1 := Lib.hid (HQ.out.trans (hb.mono HQ.out.size))
                have TA1 := Lib.hid ht
                have BO1 := Lib.hid (BO.out y1 HY1.out)
                clear hb ht hoo BA1 BO HQ
                go_wp2_with fail
                refine BO1.out.mono ?_; rintro _ y2 ⟨XO, go, rfl, ht, hoo, hb⟩
                have HY2 := Lib.hid (HY1.out.trans (hb.mono HY1.out.size))
                have TA2 := Lib.hid (TA1.out.kept hb)
                have TO2 := Lib.hid ht
                have S2 := Lib.hid hb.size
                have BB1 := Lib.hid (BB.out y2 HY2.out)
                clear hb ht hoo BO1 BB HY1 TA1
                go_wp2_with fail
                refine BB1.out.mono ?_; rintro _ y3 ⟨XB, gb, rfl, ht, hoo, hb⟩
                have HY3 := Lib.hid (HY2.out.trans (hb.mono HY2.out.size))
                have TA3 := Lib.hid ((TA2.out.kept (hb.mono S2.out)).more (Nat.le_trans S2.out hb.size))
                have TO3 := Lib.hid ((TO2.out.kept hb).more hb.size)
                have TB3 := Lib.hid ht
                clear hb ht hoo BB1 HY2 TA2 TO2 S2
                obtain ⟨y4, hmk, htab, hbm⟩ := make_tab 120 (by omega) y3
                rw [show ((120 : Nat) : Int) = 120 from rfl] at hmk
                have HT0 := Lib.hid htab
                have HB34 := Lib.hid hbm
                have HY4 := Lib.hid (HY3.out.trans (hbm.mono HY3.out.size))
                have HG := Lib.hid HY3.out.size
                clear htab hbm
                go_wp2_with fail
                have HGS := Lib.hid (fun W (h : Below y3.heap.size y3 W) => h.size)
                generalize y3.heap.size = g at *
                have ZB := Lib.hid (fun w => zeros_b 64 (by omega) w)
                rw [show ((64 : Nat) : Int) = 64 from rfl] at ZB
                obtain ⟨z, hz⟩ : ∃ z, z = zs 64 := ⟨_, rfl⟩
                rw [← hz] at ZB HALL
                clear hz
                go_loopw [101] (fun x wr2 => ∃ i : Nat, i ≤ 120 ∧ x = .int .i64 i ∧ Hid (Tab wr2 g (List.replicate i z ++ List.replicate (120 - i) []) ∧ Below g y3 wr2)) (fun x _ => 120 - (intOf x).toNat)
                case atStart => exact ⟨0, by omega, rfl, Lib.hid ⟨by simpa using HT0.out, HB34.out⟩⟩
                case round =>
                  obtain ⟨i, hi, rfl, hq⟩ := hrel
                  have HT := Lib.hid hq.out.1
                  have HB := Lib.hid hq.out.2
                  clear hq HT0 HB34 HY4
                  have i0 : (0 : Int) ≤ (i : Int) := by omega
                  by_cases hlt : i < 120
                  · have i2 : (i : Int) < 120 := by omega
                    obtain ⟨L, hL⟩ : ∃ L, L = List.replicate i z ++ List.replicate (120 - i) [] := ⟨_, rfl⟩
                    have hll : L.length = 120 := by rw [hL, List.length_append, List.length_replicate, List.length_replicate]; omega
                    have HR := Lib.hid (rep_set hlt hL)
                    rw [← hL] at HT
                    clear hL
                    have ZW := Lib.hid (ZB.out wr)
                    as_aux_lemma =>
                      go_wp2_with fail
                      refine ZW.out.mono ?_; rintro _ v1 ⟨rfl, hb⟩
                      have HT1 := Lib.hid (HT.out.held hb)
                      have HB1 := Lib.hid (HB.out.trans (hb.mono (HGS.out _ HB.out)))
                      have hc := HT1.out.cell (k := i) (by omega)
                      have hf := HT1.out.free i
                      have HT2 := Lib.hid (HT1.out.set i z)
                      rw [HR.out] at HT2
                      have HB2 := Lib.hid (HB1.out.setCell (p := ⟨g, i, none⟩) (Nat.le_refl _) (.string (str z)))
                      clear hb ZW HT HB HT1 HB1
                      generalize str (L.getD i []) = s9 at *
                      generalize str z = s8 at *
                      go_wp2_with fail
                      go_roundw
                      case rel => exact ⟨i + 1, by omega, by go_num, Lib.hid ⟨HT2.out, HB2.out⟩⟩
                      case measure => simp [intOf] <;> omega
                  · obtain rfl : i = 120 := by omega
                    have i2 : ¬ ((120 : Nat) : Int) < 120 := by omega
                    have HT9 := Lib.hid (show Tab wr g (List.replicate 120 z) from by simpa using HT.out)
                    obtain ⟨L0, hL0⟩ : ∃ L0, L0 = List.replicate 120 z := ⟨_, rfl⟩
                    have l0n : L0.length = 120 := by rw [hL0, List.length_replicate]
                    obtain ⟨L1, hL1⟩ : ∃ L1, L1 = splice L0 0 a := ⟨_, rfl⟩
                    have l1n : L1.length = 120 := by rw [hL1, length_splice _ _ _ (by omega), l0n]
                    have HDS := Lib.hid (fun keep => (show splice L1 a.length o = diskX a o b (kp keep 0) z 120 from by rw [hL1, hL0]; exact disk_start (by omega)))
                    rw [← hL0] at HT9
                    have H1 := Lib.hid hL1
                    have TA := Lib.hid (TA3.out.kept HB.out)
                    have hcut := cut_lo (some ⟨g, 0, none⟩) 120 120 a.length (by omega)
                    have hAo : (loA (some ⟨g, 0, none⟩) 120 a.length) = some ⟨g, a.length, none⟩ := by simp [loA, add_plain]; omega
                    obtain ⟨A9, hA9⟩ : ∃ A9, A9 = loA (some ⟨g, 0, none⟩) 120 a.length := ⟨_, rfl⟩
                    rw [← hA9] at hcut hAo
                    clear hA9 hL0 hL1 HT TA3 ZB
                    have HA9 := Lib.hid hAo
                    clear hAo
                    go_upto_region 21 with fail
                    go_wp2_with (refine copy_tab rfl (.tmp 109) (.tmp 110) rfl (some ⟨g, 0, none⟩) XA 120 120 a.length ga rfl rfl g 0 g L0 a HT9.out TA.out (fun _ => rfl) (by omega) (by omega) g y3 HB.out (Nat.le_refl _) ?_)
                    intro v1 K1 hb1
                    rw [← H1.out] at K1
                    have HB1 := Lib.hid hb1
                    have TO := Lib.hid (TO3.out.kept hb1)
                    clear HT9 TA HB hb1 H1 TO3
                    go_wp2_with (refine copy_tab rfl (.tmp 114) (.tmp 115) rfl A9 XO (120 - a.length) (120 - a.length) o.length go rfl rfl g a.length g L1 o K1.out TO.out (fun _ => HA9.out) (by omega) (by omega) g y3 HB1.out (Nat.le_refl _) ?_)
                    intro v2 K2 hb2
                    have HB2 := Lib.hid hb2
                    clear K1 TO HB1 hb2 HA9 hcut
                    obtain ⟨keep, hkeep⟩ : ∃ keep : Nat → Bool, keep = fun t => l4.getD t false := ⟨_, rfl⟩
                    rw [HDS.out keep] at K2
                    clear HDS
                    go_wp2_with fail
                    go_loopw [119] (fun x wr2 => ∃ i : Nat, i ≤ b.length ∧ x = .int .i64 i ∧ Hid (Tab wr2 g (diskX a o b (kp keep i) z 120) ∧ Below g y3 wr2)) (fun x _ => b.length - (intOf x).toNat)
                    case atStart => exact ⟨0, by omega, rfl, Lib.hid ⟨K2.out, HB2.out⟩⟩
                    case round =>
                      obtain ⟨i, hi, rfl, hq⟩ := hrel
                      have HT := Lib.hid hq.out.1
                      have HB := Lib.hid hq.out.2
                      clear hq K2 HB2
                      have i0 : (0 : Int) ≤ (i : Int) := by omega
                      by_cases hlt : i < b.length
                      · have i3 : (i : Int) < (b.length : Int) := by omega
                        have HYB := Lib.hid (HY3.out.trans (HB.out.mono HG.out))
                        by_cases hk4 : i < n4
                        · have i4 : (i : Int) < (n4 : Int) := by omega
                          obtain ⟨bk, ok, rfl, hbk, ck⟩ := W4.out.2 i hk4
                          have ck1 := cell_kept HYB.out hbk ck
                          have hki : keep i = l4.getD i false := by rw [hkeep]
                          rw [← hki] at ck1
                          have HW4 := W4
                          clear ck hki hkeep
                          cases hk : keep i with
                          | true =>
                            rw [hk] at ck1
                            obtain ⟨bb, ob, rfl, -, cb, -⟩ := (TB3.out.kept HB.out).2.2 i hlt
                            have hc := HT.out.cell (k := a.length + i) (by rw [disk_length]; omega)
                            have hf := HT.out.free (a.length + i)
                            have HT2 := Lib.hid (HT.out.set (a.length + i) (b.getD i []))
                            rw [disk_yes hlt (by omega) hk] at HT2
                            have HB2 := Lib.hid (HB.out.setCell (p := ⟨g, a.length + i, none⟩) (Nat.le_refl _) (.string (str (b.getD i []))))
                            have e1 : IntKind.i64.wrap ((a.length : Int) + (i : Int)) = (a.length : Int) + (i : Int) := IntWalk.i64_in _ (by omega)
                            have e2 : (0 : Int) ≤ (a.length : Int) + (i : Int) := by omega
                            have e3 : (a.length : Int) + (i : Int) < 120 := by omega
                            have e4 : ((a.length : Int) + (i : Int)).toNat = a.length + i := by omega
                            generalize str ((diskX a o b (kp keep i) z 120).getD (a.length + i) []) = s9 at *
                            generalize str (b.getD i []) = s8 at *
                            as_aux_lemma =>
                              go_wp2_with fail
                              go_roundw
                              case rel => exact ⟨i + 1, by omega, by go_num, Lib.hid ⟨HT2.out, HB2.out⟩⟩
                              case measure => simp [intOf] <;> omega
                          | false =>
                            rw [hk] at ck1
                            have HT2 := Lib.hid HT.out
                            rw [disk_same hk] at HT2
                            as_aux_lemma =>
                              go_wp2_with fail
                              go_roundw
                              case rel => exact ⟨i + 1, by omega, by go_num, Lib.hid ⟨HT2.out, HB.out⟩⟩
                              case measure => simp [intOf] <;> omega
                        · have i4 : ¬ (i : Int) < (n4 : Int) := by omega
                          have hk : keep i = false := by rw [hkeep]; show l4.getD i false = false; rw [List.getD_eq_getElem?_getD, List.getElem?_eq_none (by rw [W4.out.1]; omega)]; rfl
                          have HT2 := Lib.hid HT.out
                          rw [disk_same hk] at HT2
                          clear hkeep hk
                          as_aux_lemma =>
                            go_wp2_with fail
                            go_roundw
                            case rel => exact ⟨i + 1, by omega, by go_num, Lib.hid ⟨HT2.out, HB.out⟩⟩
                            case measure => simp [intOf] <;> omega
                      · obtain rfl : i = b.length := by omega
                        have i3 : ¬ (b.length : Int) < (b.length : Int) := by omega
                        rw [disk_all] at HT
                        go_wp2_with fail
                        go_loopw [23, 24, 146] (fun vf vl x wr2 => ∃ (i f : Nat) (lost : Bool), i ≤ b.length ∧ x = .int .i64 i ∧ vf = .int .i64 f ∧ vl = .bool lost ∧ Hid (((lost = false ∧ f = b.length ∧ ∀ t, t < i → keep t = true) ∨ (lost = true ∧ f < i ∧ (∀ t, t < f → keep t = true) ∧ keep f = false)) ∧ Tab wr2 g (diskX a o b keep z 120) ∧ Below g y3 wr2)) (fun _ _ x _ => b.length - (intOf x).toNat)
                        case atStart => exact ⟨0, b.length, false, by omega, rfl, rfl, rfl, Lib.hid ⟨.inl ⟨rfl, rfl, fun t ht => by omega⟩, HT.out, HB.out⟩⟩
                        case round =>
                          obtain ⟨j, f, lost, hj, rfl, rfl, rfl, hq⟩ := hrel
                          have HF := Lib.hid hq.out.1
                          have HT' := Lib.hid hq.out.2.1
                          have HB' := Lib.hid hq.out.2.2
                          clear hq HT HB
                          have j0 : (0 : Int) ≤ (j : Int) := by omega
                          by_cases hlj : j < b.length
                          · have j3 : (j : Int) < (b.length : Int) := by omega
                            have HYB := Lib.hid (HY3.out.trans (HB'.out.mono HG.out))
                            have hstep : ∃ (f2 : Nat) (lost2 : Bool), (f2 = if lost = false ∧ keep j = false then j else f) ∧ (lost2 = (lost || !keep j)) ∧ Hid ((lost2 = false ∧ f2 = b.length ∧ ∀ t, t < j + 1 → keep t = true) ∨ (lost2 = true ∧ f2 < j + 1 ∧ (∀ t, t < f2 → keep t = true) ∧ keep f2 = false)) := by
                              refine ⟨_, _, rfl, rfl, Lib.hid ?_⟩
                              rcases HF.out with ⟨rfl, h2, h3⟩ | ⟨rfl, h2, h3, h4⟩
                              · cases hk : keep j with
                                | true =>
                                  left
                                  refine ⟨by simp, by simp [h2], fun t ht => ?_⟩
                                  by_cases e : t < j
                                  · exact h3 t e
                                  · obtain rfl : t = j := by omega
                                    exact hk
                                | false =>
                                  right
                                  exact ⟨by simp, by simp, by simpa using h3, by simpa using hk⟩
                              · right
                                exact ⟨by simp, by simp; omega, by simpa using h3, by simpa using h4⟩
                            obtain ⟨f2, lost2, hf2, hl2, HF2⟩ := hstep
                            cases lost with
                            | true =>
                              obtain rfl : f2 = f := by simpa using hf2
                              obtain rfl : lost2 = true := by simpa using hl2
                              clear hf2 hl2 HF
                              as_aux_lemma =>
                                go_wp2_with fail
                                go_roundw
                                case rel => exact ⟨j + 1, f2, true, by omega, by go_num, rfl, rfl, Lib.hid ⟨HF2.out, HT'.out, HB'.out⟩⟩
                                case measure => simp [intOf] <;> omega
                            | false =>
                              by_cases hk4 : j < n4
                              · have j4 : (j : Int) < (n4 : Int) := by omega
                                obtain ⟨bk, ok, rfl, hbk, ck⟩ := W4.out.2 j hk4
                                have ck1 := cell_kept HYB.out hbk ck
                                have hki : keep j = l4.getD j false := by rw [hkeep]
                                rw [← hki] at ck1
                                clear ck hki hkeep HF
                                cases hk : keep j with
                                | true =>
                                  rw [hk] at ck1 hf2 hl2
                                  obtain rfl : f2 = f := by simpa using hf2
                                  obtain rfl : lost2 = false := by simpa using hl2
                                  clear hf2 hl2
                                  as_aux_lemma =>
                                    go_wp2_with fail
                                    go_roundw
                                    case rel => exact ⟨j + 1, f2, false, by omega, by go_num, rfl, rfl, Lib.hid ⟨HF2.out, HT'.out, HB'.out⟩⟩
                                    case measure => simp [intOf] <;> omega
                                | false =>
                                  rw [hk] at ck1 hf2 hl2
                                  obtain rfl : f2 = j := by simpa using hf2
                                  obtain rfl : lost2 = true := by simpa using hl2
                                  clear hf2 hl2
                                  as_aux_lemma =>
                                    go_wp2_with fail
                                    go_roundw
                                    case rel => exact ⟨f2 + 1, f2, true, by omega, by go_num, rfl, rfl, Lib.hid ⟨HF2.out, HT'.out, HB'.out⟩⟩
                                    case measure => simp [intOf] <;> omega
                              · have j4 : ¬ (j : Int) < (n4 : Int) := by omega
                                have hk : keep j = false := by rw [hkeep]; show l4.getD j false = false; rw [List.getD_eq_getElem?_getD, List.getElem?_eq_none (by rw [W4.out.1]; omega)]; rfl
                                rw [hk] at hf2 hl2
                                obtain rfl : f2 = j := by simpa using hf2
                                obtain rfl : lost2 = true := by simpa using hl2
                                clear hf2 hl2 hk hkeep HF
                                as_aux_lemma =>
                                  go_wp2_with fail
                                  go_roundw
                                  case rel => exact ⟨f2 + 1, f2, true, by omega, by go_num, rfl, rfl, Lib.hid ⟨HF2.out, HT'.out, HB'.out⟩⟩
                                  case measure => simp [intOf] <;> omega
                          · obtain rfl : j = b.length := by omega
                            have j3 : ¬ (b.length : Int) < (b.length : Int) := by omega
                            have hff : f ≤ b.length ∧ (∀ t, t < f → keep t = true) ∧ (f < b.length → keep f = false) ∧ lost = decide (f < b.length) := by
                              rcases HF.out with ⟨h1, h2, h3⟩ | ⟨h1, h2, h3, h4⟩
                              · exact ⟨by omega, by rw [h2]; exact h3, fun h => by omega, by rw [h1, h2]; simp⟩
                              · exact ⟨by omega, h3, fun _ => h4, by rw [h1]; simp [h2]⟩
                            obtain ⟨f1, f2, f3, hlost⟩ := hff
                            have HLOST := Lib.hid hlost
                            clear hlost
                            obtain ⟨D, hD, hm, hu, hlow, d120, d64⟩ := HALL.out keep f f1 f2 f3
                            rw [← hD] at HT'
                            have TD := Lib.hid (HT'.out.txt (fun x hx => by rw [d64 x hx]; unfold maxLen; omega) (by rw [d120]; unfold maxLen; omega))
                            rw [d120] at TD
                            have HGB := Lib.hid (HGS.out _ HB'.out)
                            have SC := Lib.hid (scan_list (c := 120) TD.out (Nat.le_refl _) (by omega))
                            have hsm := scan_small (l := D) (by omega)
                            have hnl := scan_next_le D
                            have hee := scan_ep hlow (by omega)
                            have AG := Lib.hid (fun hb => scan_holes2 (again := l3) hlow (by omega) (by omega) hb)
                            obtain ⟨R, hR⟩ : ∃ R, R = (scan D).out := ⟨_, rfl⟩
                            obtain ⟨nx, hnx⟩ : ∃ nx, nx = (scan D).next := ⟨_, rfl⟩
                            obtain ⟨ep, hep⟩ : ∃ ep, ep = (scan D).ep := ⟨_, rfl⟩
                            rw [← hR, ← hnx, ← hep] at SC AG
                            rw [← hR] at hm hu hsm
                            rw [← hnx, d120] at hnl
                            rw [← hep] at hee
                            obtain ⟨m, hm⟩ := hm
                            have hn0 := W0.out.1
                            have hn2 := W2.out.1
                            have hn3 := W3.out.1
                            have hRl : R.length = n0 + m.length := by rw [hm, List.length_append, hn0]
                            have hRt : R.take n0 = l0 := by rw [hm, ← hn0, List.take_left]
                            have hRd : R.drop n0 = m := by rw [hm, ← hn0, List.drop_left]
                            have D64 := Lib.hid d64
                            have D120 := Lib.hid d120
                            have HU := Lib.hid hu
                            have HRT := Lib.hid (And.intro hRt hRd)
                            have HSM := Lib.hid hsm
                            have HM := Lib.hid hm
                            clear hD hR hnx hep hlow hm hu hRt hRd hsm d64 d120 HF HALL f2 f3 hkeep W4 TB3
                            go_wp2_with fail
                            refine SC.out.mono ?_; rintro _ v1 ⟨A7, c7, rfl, ho, hb⟩
                            have hcap := ho.cap
                            have HO := Lib.hid (ho.txt (fun x hx => Nat.le_trans (HSM.out.2 x hx) (by unfold maxLen; omega)) (Nat.le_trans HSM.out.1 (by unfold maxLen; omega))).2
                            have HOO := Lib.hid (ho.base (D := g + 1) HT'.out.lt)
                            have HB1 := Lib.hid (HB'.out.trans (hb.mono HGB.out))
                            have HYV := Lib.hid (HY3.out.trans (HB1.out.mono HG.out))
                            have HT1 := Lib.hid (HT'.out.held hb)
                            clear ho hb SC TD
                            have hch := cut_hi A7 R.length c7 n0 (by omega)
                            have hn0R : n0 ≤ R.length := by omega
                            have hcl := cut_lo A7 R.length c7 n0 (by omega)
                            have hml : R.length - n0 = m.length := by omega
                            rw [hml] at hcl
                            have TM := Lib.hid (HO.out.drop (k := n0) (cap := c7) (by omega) hcap)
                            rw [HRT.out.2, hml] at TM
                            obtain ⟨A8, hA8⟩ : ∃ A8, A8 = loA A7 c7 n0 := ⟨_, rfl⟩
                            rw [← hA8] at hcl TM
                            have HRL := Lib.hid hRl
                            have k1 : ¬ (R.length : Int) < (n0 : Int) := by omega
                            clear hA8 hml hRl
                            have TH := Lib.hid (HO.out.take (k := n0) (by omega))
                            rw [HRT.out.1] at TH
                            have S1 := Lib.hid (same_b (c := c7) (d := c0) v1 TH.out (W0.out.kept HYV.out))
                            rw [decide_eq_true (show l0 = l0 from rfl)] at S1
                            go_wp2_with fail
                            refine S1.out.mono ?_; rintro _ v2 ⟨rfl, hb⟩
                            have HB2 := Lib.hid (HB1.out.trans (hb.mono (HGS.out _ HB1.out)))
                            have HYV2 := Lib.hid (HY3.out.trans (HB2.out.mono HG.out))
                            have HT2 := Lib.hid (HT1.out.held hb)
                            have HO2 := Lib.hid (HOO.out.kept hb)
                            have TM2 := Lib.hid (TM.out.kept hb)
                            clear hb S1 TH hch k1 HB1 HYV HT1 HO HOO TM
                            have ft0 : (0 : Int) ≤ (f : Int) := by omega
                            go_upto_if 191 with fail
                            go_cut [] from 36 (fun wx => Hid (Below g y3 wx ∧ Tab wx g D ∧ OwnT (g + 1) wx (.slice A7 R.length c7) R))
                            case first =>
                              by_cases hf0 : 0 < f
                              · have k2 : (0 : Int) < (f : Int) := by omega
                                obtain ⟨u, cx, e1, e2, e3⟩ := HU.out hf0
                                have hmu : m = u := by
                                  have := HM.out.symm.trans e2
                                  exact List.append_cancel_left this
                                subst hmu
                                have hm2 : m.length ≤ n2 := by rw [← hn2, e1, List.length_append]; omega
                                have k3 : ¬ (n2 : Int) < (m.length : Int) := by omega
                                have hch2 := cut_hi A2 n2 c2 m.length (by omega)
                                have hlt : l2.take m.length = m := by rw [e1, List.take_left]
                                have T2 := Lib.hid ((W2.out.kept HYV2.out).take (k := m.length) hm2)
                                rw [hlt] at T2
                                have S2 := Lib.hid (same_b (c := c7 - n0) (d := c2) v2 TM2.out T2.out)
                                rw [decide_eq_true (show m = m from rfl)] at S2
                                have HE3 := Lib.hid e3
                                clear e1 e2 e3 hlt T2
                                cases lost with
                                | true =>
                                  clear HE3 HLOST
                                  as_aux_lemma =>
                                    go_wp2_with fail
                                    refine S2.out.mono ?_; rintro _ v3 ⟨rfl, hb⟩
                                    have R3 := Lib.hid (show Below g y3 v3 ∧ Tab v3 g D ∧ OwnT (g + 1) v3 (.slice A7 R.length c7) R from ⟨HB2.out.trans (hb.mono (HGS.out _ HB2.out)), HT2.out.held hb, HO2.out.kept hb⟩)
                                    clear hb S2 HB2 HYV2 HT2 HO2 TM2 hcl hch2
                                    go_wp2_with fail
                                    go_meet
                                    case rel => exact R3
                                | false =>
                                  have hmn : m.length = n2 := by
                                    have hfb : f = b.length := by
                                      have := HLOST.out.symm
                                      simp at this
                                      omega
                                    rw [HE3.out hfb, hn2]
                                  have k4 : ((m.length : Int) == (n2 : Int)) = true := by rw [beq_iff_eq]; omega
                                  have HMN := Lib.hid hmn
                                  clear HE3 hmn HLOST
                                  as_aux_lemma =>
                                    go_wp2_with fail
                                    refine S2.out.mono ?_; rintro _ v3 ⟨rfl, hb⟩
                                    have R3 := Lib.hid (show Below g y3 v3 ∧ Tab v3 g D ∧ OwnT (g + 1) v3 (.slice A7 R.length c7) R from ⟨HB2.out.trans (hb.mono (HGS.out _ HB2.out)), HT2.out.held hb, HO2.out.kept hb⟩)
                                    clear hb S2 HB2 HYV2 HT2 HO2 TM2 hcl hch2
                                    go_wp2_with fail
                                    go_meet
                                    case rel => exact R3
                              · have k2 : ¬ (0 : Int) < (f : Int) := by omega
                                have R3 := Lib.hid (show Below g y3 v2 ∧ Tab v2 g D ∧ OwnT (g + 1) v2 (.slice A7 R.length c7) R from ⟨HB2.out, HT2.out, HO2.out⟩)
                                clear HB2 HYV2 HT2 HO2 TM2 hcl
                                as_aux_lemma =>
                                  go_wp2_with fail
                                  go_meet
                                  case rel => exact R3
                            case rest =>
                              have HBT := Lib.hid hcut.out.1
                              have HTT := Lib.hid hcut.out.2.1
                              have HOT := Lib.hid hcut.out.2.2
                              have HYVT := Lib.hid (HY3.out.trans (HBT.out.mono HG.out))
                              clear hcut HB2 HT2 HO2 HYV2 TM2 HM HU HRT hcl W0 W1 W2 HLOST ft0 hn0R hn0 hn2
                              have BC := Lib.hid (batch_few (c := c3) (ep + 9) (nx : Nat) (by unfold rng; omega) (by unfold rng; omega) (W3.out.kept HYVT.out) HYVT.out.size hf3)
                              have hok := HAG.out (ep + 9) (nx : Nat) (by omega) (by omega)
                              have AG2 := Lib.hid (AG.out hok)
                              have hcc := few_bat (e := ep + 9) (i := (nx : Nat)) hf3
                              have hcp := np_pos hok
                              rw [← batB_length hok] at hcp
                              obtain ⟨cc, hccd⟩ : ∃ cc, cc = batB (ep + 9) (nx : Nat) l3 := ⟨_, rfl⟩
                              rw [← hccd, hok] at BC
                              rw [← hccd] at AG2 hcc hcp
                              have hc28 := hcc.1
                              have HC64 := Lib.hid hcc.2
                              have w1 : IntKind.i64.wrap (ep + 9) = ep + 9 := IntWalk.i64_in _ (by omega)
                              have w2 : IntKind.i64.wrap ((nx : Int) + (cc.length : Int)) = (nx : Int) + (cc.length : Int) := IntWalk.i64_in _ (by omega)
                              have hRb := HSM.out.1
                              have hn3b : n3 ≤ 20 := by rw [← hn3]; exact (few_strm hf3).1
                              have w3 : IntKind.i64.wrap ((R.length : Int) + (n3 : Int)) = (R.length : Int) + (n3 : Int) := IntWalk.i64_in _ (by omega)
                              clear hccd hok hcc AG HAG
                              go_wp2_with fail
                              refine BC.out.mono ?_; rintro _ t1 ⟨XC, gc, rfl, ht, hoo, hb⟩
                              have HBT1 := Lib.hid (HBT.out.trans (hb.mono (HGS.out _ HBT.out)))
                              have HTT1 := Lib.hid (HTT.out.held hb)
                              have HOT1 := Lib.hid (HOT.out.kept hb)
                              have TC := Lib.hid ht
                              clear hb ht hoo BC HTT HOT HYVT HBT
                              by_cases hbig : 120 < nx + cc.length
                              · have k5 : (120 : Int) < (nx : Int) + (cc.length : Int) := by omega
                                have HYZ := Lib.hid (HY3.out.trans (HBT1.out.mono HG.out))
                                as_aux_lemma =>
                                  go_wp2_with fail
                                  go_ret
                                  exact ⟨by trivial, HYZ.out⟩
                              · have k5 : ¬ (120 : Int) < (nx : Int) + (cc.length : Int) := by omega
                                have hnx : nx < 120 := by omega
                                have hcut := cut_lo (some ⟨g, 0, none⟩) 120 120 nx (by omega)
                                have hAo : (loA (some ⟨g, 0, none⟩) 120 nx) = some ⟨g, nx, none⟩ := by simp [loA, add_plain]; omega
                                obtain ⟨A9, hA9⟩ : ∃ A9, A9 = loA (some ⟨g, 0, none⟩) 120 nx := ⟨_, rfl⟩
                                rw [← hA9] at hcut hAo
                                clear hA9
                                have HA9 := Lib.hid hAo
                                clear hAo
                                go_upto_region 46 with fail
                                go_wp2_with (refine copy_tab2 rfl (.tmp 245) (.tmp 246) rfl A9 XC (120 - nx) (120 - nx) cc.length gc rfl rfl g nx _ D cc HTT1.out TC.out hcp HA9.out (by omega) (by rw [D120.out]; omega) g y3 HBT1.out (Nat.le_refl _) ?_)
                                intro t2 K2 hb2 hoth
                                have HBT2 := Lib.hid hb2
                                have HOT2 := Lib.hid (HOT1.out.past (Nat.lt_succ_self g) hoth.out)
                                have HR2 := Lib.hid (HOT2.out.txt (fun x hx => Nat.le_trans (HSM.out.2 x hx) (by unfold maxLen; omega)) (Nat.le_trans HSM.out.1 (by unfold maxLen; omega))).2
                                have hspl := splice_all (by rw [D120.out]; omega) D64.out HC64.out (D := D) (cc := cc) (nx := nx)
                                obtain ⟨D2, hD2⟩ : ∃ D2, D2 = splice D nx cc := ⟨_, rfl⟩
                                have AG3 := Lib.hid (show (scan D2).out = R ++ l3 ∧ (scan D2).next = nx + cc.length ∧ (scan D2).ep = ep + 9 from by rw [hD2]; exact AG2.out)
                                rw [← hD2] at K2 hspl
                                have d2n := hspl.1.trans D120.out
                                have TD2 := Lib.hid (K2.out.txt (fun x hx => by rw [hspl.2 x hx]; unfold maxLen; omega) (by rw [d2n]; unfold maxLen; omega))
                                rw [d2n] at TD2
                                have SC2 := Lib.hid (scan_list (c := 120) TD2.out (Nat.le_refl _) (by omega))
                                rw [AG3.out.1, AG3.out.2.1, AG3.out.2.2, Int.natCast_add] at SC2
                                have HCS := Lib.hid (cat_small (n := 0) HSM.out hf3)
                                obtain ⟨N9, hN9⟩ : ∃ N9, N9 = (R ++ l3).length := ⟨_, rfl⟩
                                have hN : N9 = R.length + n3 := by rw [hN9, List.length_append, hn3]
                                rw [← hN9] at SC2
                                have HN9 := Lib.hid hN9
                                clear hN9 hb2 hoth hspl hD2 d2n AG3 AG2 K2 TD2 HOT2 HOT1 HTT1 TC HBT1 HA9 hcut D64 D120 HC64
                                go_wp2_with fail
                                refine SC2.out.mono ?_; rintro _ t3 ⟨A6, c6, rfl, ho, hb⟩
                                have hcap := ho.cap
                                have HO6 := Lib.hid (ho.txt HCS.out.2 HCS.out.1).2
                                have HR3 := Lib.hid (HR2.out.kept hb)
                                have HBT3 := Lib.hid (HBT2.out.trans (hb.mono (HGS.out _ HBT2.out)))
                                have HY4 := Lib.hid (HY3.out.trans (HBT3.out.mono HG.out))
                                clear ho hb SC2 HR2 HBT2
                                have hch := cut_hi A6 N9 c6 R.length (by omega)
                                have hcl := cut_lo A6 N9 c6 R.length (by omega)
                                have hsub : N9 - R.length = n3 := by omega
                                rw [hsub] at hcl
                                have TH := Lib.hid (HO6.out.take (k := R.length) (by omega))
                                have TL := Lib.hid (HO6.out.drop (k := R.length) (cap := c6) (by omega) hcap)
                                rw [List.take_left] at TH
                                rw [List.drop_left, hsub] at TL
                                obtain ⟨A5, hA5⟩ : ∃ A5, A5 = loA A6 c6 R.length := ⟨_, rfl⟩
                                rw [← hA5] at hcl TL
                                have HNN := Lib.hid hN
                                have k6 : ((N9 : Int) == (R.length : Int) + (n3 : Int)) = true := by rw [beq_iff_eq]; omega
                                have S3 := Lib.hid (same_b (c := c6) (d := c7) t3 TH.out HR3.out)
                                rw [decide_eq_true (show R = R from rfl)] at S3
                                clear hA5 hsub hN HN9 TH HR3 HO6
                                go_wp2_with fail
                                refine S3.out.mono ?_; rintro _ t4 ⟨rfl, hb⟩
                                have HBT4 := Lib.hid (HBT3.out.trans (hb.mono (HGS.out _ HBT3.out)))
                                have HY5 := Lib.hid (HY3.out.trans (HBT4.out.mono HG.out))
                                have S4 := Lib.hid (same_b (c := c6 - R.length) (d := c3) t4 (TL.out.kept hb) (W3.out.kept HY5.out))
                                rw [decide_eq_true (show l3 = l3 from rfl)] at S4
                                clear hb S3 TL HBT3 HY4 hch
                                go_wp2_with fail
                                refine S4.out.mono ?_; rintro _ t5 ⟨rfl, hb⟩
                                have HYZ := Lib.hid (HY3.out.trans ((HBT4.out.trans (hb.mono (HGS.out _ HBT4.out))).mono HG.out))
                                clear hb S4 HBT4 HY5
                                go_wp2_with fail
                                go_ret
                                exact ⟨by trivial, HYZ.out⟩

/-! The row's step. -/
set_option maxRecDepth 100000 in
theorem lifted (os : Os) (started : os.Started) (H : Type) (enc : TypeId × Value → H) :
    ReturnsInHanded {} Try.checked os 4 .any (Rows.frameHolesSpec.pre6 enc Try.prog Try.f4 Rows.frameHolesRow.domain false) (Rows.frameHolesSpec.post enc Try.prog Try.f4 false true false false) := by
  refine returnsInHanded_of_change_sized (C := Try.checked) own started (by kernel_rfl) Try.func4
    (ChangeSpec.witness6 (enc := enc) (C := Try.checked) false ⟨#[], #[.slice none 0 0, .slice none 0 0, .slice none 0 0, .slice none 0 0, .slice none 0 0], []⟩ 8 (by kernel_rfl) (by kernel_rfl) (by kernel_rfl) (by kernel_rfl)) ?_
  intro W base args ds gs before hval0 hW hcnd hsz0 _
  have hsz : (DataW.weightsEach Try.prog (Try.f4.params.toList ++ Rows.frameHolesSpec.plain.varTypes Try.prog) (ds ++ gs)).all (· ≤ reachBytes) = true := hsz0
  have hval : ∀ (j : Nat) t v, Try.f4.params[j]? = some t → args[j]? = some v → Value.okWide Try.prog W .any base t v := hval0
  have hW' := hW
  obtain ⟨p, q, hA0, hV, rfl, hfz, hnd⟩ := hW
  have hA : DataW.TrodAll enc Try.prog W 0 (fun _ => true) true Try.f4.params.toList args.toList ds p := hA0
  rw [Try.params4] at hA hval hsz
  obtain ⟨v0, vs0, d0, ds0, p0, q0, hargs, rfl, rfl, h0, r0⟩ := trodAll_cons hA
  obtain ⟨v1, vs1, d1, ds1, p1, q1, rfl, rfl, rfl, h1, r1⟩ := trodAll_cons r0
  obtain ⟨v2, vs2, d2, ds2, p2, q2, rfl, rfl, rfl, h2, r2⟩ := trodAll_cons r1
  obtain ⟨v3, vs3, d3, ds3, p3, q3, rfl, rfl, rfl, h3, r3⟩ := trodAll_cons r2
  obtain ⟨v4, vs4, d4, ds4, p4, q4, rfl, rfl, rfl, h4, r4⟩ := trodAll_cons r3
  obtain ⟨rfl, rfl, rfl⟩ := trodAll_nil r4
  obtain rfl : args = #[v0, v1, v2, v3, v4] := by cases args; simp_all
  obtain ⟨rfl, rfl⟩ := trodVars_none hV
  obtain ⟨A0, n0, c0, rfl⟩ := okWide_slice Try.underlying25 (hval 0 25 v0 rfl rfl)
  have k0 := h0
  have lt0 : ∀ x ∈ p0, x.block < W.heap.size := by obtain ⟨m, hm⟩ := k0; exact DataW.trod_lt m _ _ _ hm
  obtain ⟨l0, w0, e0, f0, z0⟩ := (by obtain ⟨fuel, hf⟩ := h0; exact txt_read hf (fun _ => rfl) : ∃ l, Txt W.heap.size W A0 n0 l ∧ n0 ≤ c0 ∧ c0 ≤ maxLen ∧ ∀ n, (∀ m ∈ DataW.weights Try.prog 25 d0, m ≤ n) → ∀ s ∈ l, s.length ≤ n)
  have s0 := txt_sized (i := 0) z0 hsz rfl rfl
  obtain ⟨A1, n1, c1, rfl⟩ := okWide_slice Try.underlying25 (hval 1 25 v1 rfl rfl)
  have k1 := h1
  have lt1 : ∀ x ∈ p1, x.block < W.heap.size := by obtain ⟨m, hm⟩ := k1; exact DataW.trod_lt m _ _ _ hm
  obtain ⟨l1, w1, e1, f1, z1⟩ := (by obtain ⟨fuel, hf⟩ := h1; exact txt_read hf (fun _ => rfl) : ∃ l, Txt W.heap.size W A1 n1 l ∧ n1 ≤ c1 ∧ c1 ≤ maxLen ∧ ∀ n, (∀ m ∈ DataW.weights Try.prog 25 d1, m ≤ n) → ∀ s ∈ l, s.length ≤ n)
  have s1 := txt_sized (i := 1) z1 hsz rfl rfl
  obtain ⟨A2, n2, c2, rfl⟩ := okWide_slice Try.underlying25 (hval 2 25 v2 rfl rfl)
  have k2 := h2
  have lt2 : ∀ x ∈ p2, x.block < W.heap.size := by obtain ⟨m, hm⟩ := k2; exact DataW.trod_lt m _ _ _ hm
  obtain ⟨l2, w2, e2, f2, z2⟩ := (by obtain ⟨fuel, hf⟩ := h2; exact txt_read hf (fun _ => rfl) : ∃ l, Txt W.heap.size W A2 n2 l ∧ n2 ≤ c2 ∧ c2 ≤ maxLen ∧ ∀ n, (∀ m ∈ DataW.weights Try.prog 25 d2, m ≤ n) → ∀ s ∈ l, s.length ≤ n)
  have s2 := txt_sized (i := 2) z2 hsz rfl rfl
  obtain ⟨A3, n3, c3, rfl⟩ := okWide_slice Try.underlying25 (hval 3 25 v3 rfl rfl)
  have k3 := h3
  have lt3 : ∀ x ∈ p3, x.block < W.heap.size := by obtain ⟨m, hm⟩ := k3; exact DataW.trod_lt m _ _ _ hm
  obtain ⟨l3, w3, e3, f3, z3⟩ := (by obtain ⟨fuel, hf⟩ := h3; exact txt_read hf (fun _ => rfl) : ∃ l, Txt W.heap.size W A3 n3 l ∧ n3 ≤ c3 ∧ c3 ≤ maxLen ∧ ∀ n, (∀ m ∈ DataW.weights Try.prog 25 d3, m ≤ n) → ∀ s ∈ l, s.length ≤ n)
  have s3 := txt_sized (i := 3) z3 hsz rfl rfl
  obtain ⟨A4, n4, c4, rfl⟩ := okWide_slice Try.underlying34 (hval 4 34 v4 rfl rfl)
  have k4 := h4
  have lt4 : ∀ x ∈ p4, x.block < W.heap.size := by obtain ⟨m, hm⟩ := k4; exact DataW.trod_lt m _ _ _ hm
  obtain ⟨l4, w4, e4, f4⟩ := (by obtain ⟨fuel, hf⟩ := h4; exact bools_read hf (fun _ => rfl) : ∃ l, Bools W A4 n4 l ∧ n4 ≤ c4 ∧ c4 ≤ maxLen)
  clear hA0 hval0
  refine (walk A0 n0 c0 l0 A1 n1 c1 l1 A2 n2 c2 l2 A3 n3 c3 l3 A4 n4 c4 l4 W w0 s0 w1 s1 w2 s2 e2 w3 s3 w4 (Nat.le_trans e4 f4)).mono fun e W' ⟨he, bel⟩ => ?_
  subst he
  exact ⟨_, rfl, _, _, _, [], _, [], hW', trodAll_mk1 (shut_bool Try.underlying4 _), (trodAll_cons_mk (Below.trod laidOut (by kernel_rfl) (of_decide_eq_true (by kernel_rfl)) k0 bel lt0) (trodAll_cons_mk (Below.trod laidOut (by kernel_rfl) (of_decide_eq_true (by kernel_rfl)) k1 bel lt1) (trodAll_cons_mk (Below.trod laidOut (by kernel_rfl) (of_decide_eq_true (by kernel_rfl)) k2 bel lt2) (trodAll_cons_mk (Below.trod laidOut (by kernel_rfl) (of_decide_eq_true (by kernel_rfl)) k3 bel lt3) (trodAll_cons_mk (Below.trod laidOut (by kernel_rfl) (of_decide_eq_true (by kernel_rfl)) k4 bel lt4) trodAll_mk0))))), rfl, bel.frame _, fun h => by cases h⟩

theorem over : Rows.frameHolesRow.holds Try.pinned (OpenSpec.ofChange Rows.frameHolesSpec) :=
  OpenClaim.holds_of_wide 4 Try.f4 rfl rfl rfl rfl rfl rfl rfl ⟨rfl, rfl, rfl, rfl, rfl⟩ rfl rfl rfl rfl rfl (by kernel_rfl) Try.func4 (by kernel_rfl)
    (of_decide_eq_true (by kernel_rfl)) (by unfold Func.isWrapper; first | (rw [if_pos (by decide +kernel)]; kernel_rfl) | (rw [if_neg (by decide +kernel)]; exact ⟨rfl, rfl⟩))
    (fun os started H enc _ => lifted os started H enc)

/-- The statement. -/
theorem proved : Rows.FrameHolesSaid := over
end Go.Proofs.Ytbdpmfgphhgigaa.frameHoles
