/- Of each of a record its numbers the greatest that has room is written, and what has no room is refused. The row speaks of the table of names as the program's text lays it; the card ties that to the text. -/
import Derived.Test.YtbmnagfjpenemaaDoorRows
import Derived.Test.YtbmnagfjpenemaaDoorCards
import Derived.Test.YtbmnagfjpenemaaDoorTie
import Derived.Test.YtbmnagfjpenemaaDoorAlive
import Derived.Deep.QuietTactic
import Derived.LoopTactic
import Derived.StillTailTactics
import Derived.BigQuiet
import Derived.Deep.DeepCutAuto
import Derived.Deep.RegionLaw
import Derived.Deep.CutBlock
import Derived.Lib.Hide
import Derived.WalkKit
import Derived.ProofKit
import Derived.OpenShut
import Derived.ChangeOld
import Derived.Below
import Derived.Carry
import Derived.LaidMore
import Derived.SevenTiedAt
namespace Go.Proofs.YtbmnagfjpenemaaDoor.recordEdges
open Go.ChangeShapes Go.WideShapes Go.ChangeAt Go.RowKit
set_option linter.unusedVariables false
set_option linter.unusedSimpArgs false
set_option maxRecDepth 100000
def re (kind tx prev next : Int) (g : List Int) : Rc := ⟨kind, tx, prev, next, ⟨#[]⟩, false, nilC, g, [], [], []⟩
theorem re_in {w : World} {kind tx prev next : Int} {g : List Int} {s : Sl} (h1 : rng kind) (h2 : rng tx) (h3 : rng prev) (h4 : rng next) (hg : IntsM w.heap.size w s.A s.n g) : RcM w.heap.size w (re kind tx prev next g) ⟨s, sl0, sl0, sl0⟩ :=
  ⟨h1, h2, h3, h4, Nat.zero_le _, ⟨zero_rng, zero_rng, Nat.zero_le _, Nat.zero_le _⟩, hg, PtsM.nil _ _ _, TxsM.nil _ _ _, DysM.nil _ _ _⟩
theorem zeroC_nil : rightO nilC = true := rfl
theorem re_right (kind tx prev next : Int) (g : List Int) : rightR (re kind tx prev next g) = (rightK kind && (two tx && (four prev && (four next && rightPs g)))) := by
  unfold rightR re
  dsimp only
  rw [zeroC_nil]
  rw [show decide ((⟨#[]⟩ : ByteArray).size ≤ 255) = true from rfl, show everyB ([] : List Pt) 40 rightP = true from rfl, show everyB ([] : List Tx) 8 rightT = true from rfl, show everyB ([] : List Dy) 64 rightD = true from rfl]
  simp
theorem put_empty {r : Rc} : ((str (putS r)).toList == ([] : BA)) = !rightR r := by
  rw [str_toList]
  unfold putS
  cases rightR r with
  | false => rfl
  | true =>
    have := encR_pos r
    simp only [if_true, Bool.not_true, beq_eq_false_iff_ne]
    intro h
    rw [h] at this
    simp at this
theorem rng_of {n : Int} (h : (Lit.int .i64 n).wf = true) : rng n := by
  have b1 : IntKind.i64.min = -9223372036854775808 := rfl
  have b2 : IntKind.i64.max = 9223372036854775807 := rfl
  simpa only [rng, Lit.wf, Bool.and_eq_true, decide_eq_true_eq, b1, b2] using h
theorem rng0 : rng 0 := zero_rng
theorem rng1 : rng 1 := by unfold rng; decide
theorem two_ints {w : World} {B : Nat} {a b : Int} (h : Bx w B #[.int .i64 a, .int .i64 b] 3) (ra : rng a) (rb : rng b) : IntsM w.heap.size w (some ⟨B, 0, none⟩) 2 [a, b] := by
  refine ⟨rfl, by decide, ?_⟩
  intro k hk
  match k, hk with
  | 0, _ => exact ⟨_, 0, rfl, h.lt, h.cell 0, ra⟩
  | 1, _ => exact ⟨_, 0, rfl, h.lt, h.cell 1, rb⟩
  | k + 2, hk => exact absurd hk (by omega)
set_option maxHeartbeats 100000000 in
theorem walk0 (a0 a1 : Int) (w : World) (w0 : (Lit.int .i64 a0).wf = true) (w1 : (Lit.int .i64 a1).wf = true) (hn : NamesAt w) (hk : (a0.tmod 5 + 5).tmod 5 = 0) :
    Calls Tryd.prog 7 #[.int .i64 a0, .int .i64 a1] w fun e w' => e = .returned (.bool true) ∧ Below w.heap.size w w' := by
  have HN := Lib.hid hn
  have A0 := Lib.hid (alive_yes w HN.out)
  have rv := rng_of w1
  have ra := rng_of w0
  unfold rng at ra
  have hm : 0 = (a0.tmod 5 + 5).tmod 5 := hk.symm
  have t0 : a0.tmod 5 < 5 := Int.tmod_lt_of_pos _ (by omega)
  have t1 : -5 < a0.tmod 5 := Int.lt_tmod_of_pos _ (by omega)
  have e1 : wrap64 (a0.tmod 5) = a0.tmod 5 := IntWalk.wrap64_in _ (by omega)
  have e2 : wrap64 (a0.tmod 5 + 5) = a0.tmod 5 + 5 := IntWalk.wrap64_in _ (by omega)
  have t3 : (a0.tmod 5 + 5).tmod 5 < 5 := Int.tmod_lt_of_pos _ (by omega)
  have t4 : 0 ≤ (a0.tmod 5 + 5).tmod 5 := Int.tmod_nonneg _ (by omega)
  have e3 : wrap64 ((a0.tmod 5 + 5).tmod 5) = 0 := by rw [← hm]; exact IntWalk.wrap64_in _ (by omega)
  have e4 : (a0.tmod 5 + 5).tmod 5 = 0 := hm.symm
  clear hk t0 t1 t3 t4 ra hm hn w0 w1
  go_enter Tryd.func7, Tryd.ntmps7
  go_wp2_with fail
  refine A0.out.mono ?_; rintro e w1 ⟨rfl, hb⟩
  have HB1 := Lib.hid hb
  clear hb
  go_upto_region 4 with fail
  have HX := Lib.hid (Bx.new w1 #[.int .i64 1, .int .i64 0, .int .i64 0, .int .i64 0, .string ⟨#[]⟩, .bool false, .string ⟨#[]⟩, .string ⟨#[]⟩, .int .i64 0, .int .i64 0, .slice none 0 0, .slice none 0 0, .slice none 0 0, .slice none 0 0] 29)
  have HB := Lib.hid (HB1.out.alloc HB1.out.size (.cells #[.int .i64 1, .int .i64 0, .int .i64 0, .int .i64 0, .string ⟨#[]⟩, .bool false, .string ⟨#[]⟩, .string ⟨#[]⟩, .int .i64 0, .int .i64 0, .slice none 0 0, .slice none 0 0, .slice none 0 0, .slice none 0 0] 29))
  generalize w1.alloc (.cells #[.int .i64 1, .int .i64 0, .int .i64 0, .int .i64 0, .string ⟨#[]⟩, .bool false, .string ⟨#[]⟩, .string ⟨#[]⟩, .int .i64 0, .int .i64 0, .slice none 0 0, .slice none 0 0, .slice none 0 0, .slice none 0 0] 29) = W at *
  have hcs := fun j => HX.out.cell j
  have hfs := fun j => HX.out.free j
  have x0 := hcs 0
  have f0 := hfs 0
  have x1 := hcs 1
  have f1 := hfs 1
  have x2 := hcs 2
  have f2 := hfs 2
  have x3 := hcs 3
  have f3 := hfs 3
  have x4 := hcs 4
  have f4 := hfs 4
  have x5 := hcs 5
  have f5 := hfs 5
  have x6 := hcs 6
  have f6 := hfs 6
  have x7 := hcs 7
  have f7 := hfs 7
  have x8 := hcs 8
  have f8 := hfs 8
  have x9 := hcs 9
  have f9 := hfs 9
  have x10 := hcs 10
  have f10 := hfs 10
  have x11 := hcs 11
  have f11 := hfs 11
  have x12 := hcs 12
  have f12 := hfs 12
  have x13 := hcs 13
  have f13 := hfs 13
  clear hcs hfs
  simp only [List.getElem?_toArray, List.getElem?_cons_zero, List.getElem?_cons_succ] at x0 x1 x2 x3 x4 x5 x6 x7 x8 x9 x10 x11 x12 x13
  have hz : rightR (re 1 a1 0 0 []) = two a1 := by rw [re_right]; simp [rightK, two, four, rightPs, everyB]
  have HX2 := Lib.hid (show Bx (W.setCell ⟨w1.heap.size, 1, none⟩ (.int .i64 a1)) w1.heap.size #[.int .i64 1, .int .i64 a1, .int .i64 0, .int .i64 0, .string ⟨#[]⟩, .bool false, .string ⟨#[]⟩, .string ⟨#[]⟩, .int .i64 0, .int .i64 0, .slice none 0 0, .slice none 0 0, .slice none 0 0, .slice none 0 0] 29 from HX.out.set (i := 1) (.int .i64 a1))
  have HB2 := Lib.hid (HB.out.setCell (p := ⟨w1.heap.size, 1, none⟩) HB1.out.size (.int .i64 a1) : Below w.heap.size w (W.setCell ⟨w1.heap.size, 1, none⟩ (.int .i64 a1)))
  have HRM := Lib.hid (re_in (w := (W.setCell ⟨w1.heap.size, 1, none⟩ (.int .i64 a1))) (s := sl0) rng1 rv rng0 rng0 (IntsM.nil _ _ _))
  have PU := Lib.hid (show Calls Tryd.prog 12 #[.agg #[.int .i64 1, .int .i64 a1, .int .i64 0, .int .i64 0, .string ⟨#[]⟩, .bool false, .string ⟨#[]⟩, .string ⟨#[]⟩, .int .i64 0, .int .i64 0, .slice none 0 0, .slice none 0 0, .slice none 0 0, .slice none 0 0]] (W.setCell ⟨w1.heap.size, 1, none⟩ (.int .i64 a1)) fun e w' => e = .returned (.tuple #[.string (str (putS (re 1 a1 0 0 []))), .bool (two a1)]) ∧ Below (W.setCell ⟨w1.heap.size, 1, none⟩ (.int .i64 a1)).heap.size (W.setCell ⟨w1.heap.size, 1, none⟩ (.int .i64 a1)) w' from by
    have h := put_any (re 1 a1 0 0 []) ⟨sl0, sl0, sl0, sl0⟩ (W.setCell ⟨w1.heap.size, 1, none⟩ (.int .i64 a1)) HRM.out (Nat.le_refl _)
    rw [hz] at h
    exact h)
  have RI := Lib.hid (fun u (hb : Below (W.setCell ⟨w1.heap.size, 1, none⟩ (.int .i64 a1)).heap.size (W.setCell ⟨w1.heap.size, 1, none⟩ (.int .i64 a1)) u) => (show Calls Tryd.prog 14 #[.agg #[.int .i64 1, .int .i64 a1, .int .i64 0, .int .i64 0, .string ⟨#[]⟩, .bool false, .string ⟨#[]⟩, .string ⟨#[]⟩, .int .i64 0, .int .i64 0, .slice none 0 0, .slice none 0 0, .slice none 0 0, .slice none 0 0]] u fun e w' => e = .returned (.bool (two a1)) ∧ Below u.heap.size u w' from by
    have h := right_is (re 1 a1 0 0 []) ⟨sl0, sl0, sl0, sl0⟩ u (HRM.out.kept hb) hb.size
    rw [hz] at h
    exact h))
  have PE := put_empty (r := re 1 a1 0 0 [])
  rw [hz] at PE
  generalize str (putS (re 1 a1 0 0 [])) = b at *
  clear hz
  by_cases h1 : 0 ≤ a1
  · by_cases h2 : a1 ≤ 65535
    · rw [show two a1 = true from decide_eq_true ⟨h1, h2⟩] at PU RI PE
      have em1 : ¬ b.toList = [] := by simpa using PE
      have em2 : b.toList.isEmpty = false := by rw [List.isEmpty_eq_false_iff]; exact em1
      clear PE
      go_upto_region 18 with fail
      go_wp2_with fail
      refine PU.out.mono ?_; rintro e w3 ⟨rfl, hb⟩
      have HB3 := Lib.hid (HB2.out.trans (hb.mono HB2.out.size))
      have R3 := Lib.hid (RI.out w3 hb)
      have HX3 := Lib.hid (HX2.out.held hb)
      clear hb PU RI x0 f0 x1 f1 x2 f2 x3 f3 x4 f4 x5 f5 x6 f6 x7 f7 x8 f8 x9 f9 x10 f10 x11 f11 x12 f12 x13 f13
      have hcs := fun j => HX3.out.cell j
      have x0 := hcs 0
      have x1 := hcs 1
      have x2 := hcs 2
      have x3 := hcs 3
      have x4 := hcs 4
      have x5 := hcs 5
      have x6 := hcs 6
      have x7 := hcs 7
      have x8 := hcs 8
      have x9 := hcs 9
      have x10 := hcs 10
      have x11 := hcs 11
      have x12 := hcs 12
      have x13 := hcs 13
      clear hcs
      simp only [List.getElem?_toArray, List.getElem?_cons_zero, List.getElem?_cons_succ] at x0 x1 x2 x3 x4 x5 x6 x7 x8 x9 x10 x11 x12 x13
      go_wp2_with fail
      refine R3.out.mono ?_; rintro e w4 ⟨rfl, hb⟩
      have HB4 := Lib.hid (HB3.out.trans (hb.mono HB3.out.size))
      clear hb
      go_wp2_with fail
      go_ret
      exact ⟨rfl, HB4.out⟩
    · rw [show two a1 = false from decide_eq_false (fun h => h2 h.2)] at PU RI PE
      have em1 : b.toList = [] := by simpa using PE
      have em2 : b.toList.isEmpty = true := by rw [em1]; rfl
      clear PE
      go_upto_region 18 with fail
      go_wp2_with fail
      refine PU.out.mono ?_; rintro e w3 ⟨rfl, hb⟩
      have HB3 := Lib.hid (HB2.out.trans (hb.mono HB2.out.size))
      have R3 := Lib.hid (RI.out w3 hb)
      have HX3 := Lib.hid (HX2.out.held hb)
      clear hb PU RI x0 f0 x1 f1 x2 f2 x3 f3 x4 f4 x5 f5 x6 f6 x7 f7 x8 f8 x9 f9 x10 f10 x11 f11 x12 f12 x13 f13
      have hcs := fun j => HX3.out.cell j
      have x0 := hcs 0
      have x1 := hcs 1
      have x2 := hcs 2
      have x3 := hcs 3
      have x4 := hcs 4
      have x5 := hcs 5
      have x6 := hcs 6
      have x7 := hcs 7
      have x8 := hcs 8
      have x9 := hcs 9
      have x10 := hcs 10
      have x11 := hcs 11
      have x12 := hcs 12
      have x13 := hcs 13
      clear hcs
      simp only [List.getElem?_toArray, List.getElem?_cons_zero, List.getElem?_cons_succ] at x0 x1 x2 x3 x4 x5 x6 x7 x8 x9 x10 x11 x12 x13
      go_wp2_with fail
      refine R3.out.mono ?_; rintro e w4 ⟨rfl, hb⟩
      have HB4 := Lib.hid (HB3.out.trans (hb.mono HB3.out.size))
      clear hb
      go_wp2_with fail
      go_ret
      exact ⟨rfl, HB4.out⟩
  · rw [show two a1 = false from decide_eq_false (fun h => h1 h.1)] at PU RI PE
    have em1 : b.toList = [] := by simpa using PE
    have em2 : b.toList.isEmpty = true := by rw [em1]; rfl
    clear PE
    go_upto_region 18 with fail
    go_wp2_with fail
    refine PU.out.mono ?_; rintro e w3 ⟨rfl, hb⟩
    have HB3 := Lib.hid (HB2.out.trans (hb.mono HB2.out.size))
    have R3 := Lib.hid (RI.out w3 hb)
    have HX3 := Lib.hid (HX2.out.held hb)
    clear hb PU RI x0 f0 x1 f1 x2 f2 x3 f3 x4 f4 x5 f5 x6 f6 x7 f7 x8 f8 x9 f9 x10 f10 x11 f11 x12 f12 x13 f13
    have hcs := fun j => HX3.out.cell j
    have x0 := hcs 0
    have x1 := hcs 1
    have x2 := hcs 2
    have x3 := hcs 3
    have x4 := hcs 4
    have x5 := hcs 5
    have x6 := hcs 6
    have x7 := hcs 7
    have x8 := hcs 8
    have x9 := hcs 9
    have x10 := hcs 10
    have x11 := hcs 11
    have x12 := hcs 12
    have x13 := hcs 13
    clear hcs
    simp only [List.getElem?_toArray, List.getElem?_cons_zero, List.getElem?_cons_succ] at x0 x1 x2 x3 x4 x5 x6 x7 x8 x9 x10 x11 x12 x13
    go_wp2_with fail
    refine R3.out.mono ?_; rintro e w4 ⟨rfl, hb⟩
    have HB4 := Lib.hid (HB3.out.trans (hb.mono HB3.out.size))
    clear hb
    go_wp2_with fail
    go_ret
    exact ⟨rfl, HB4.out⟩
set_option maxHeartbeats 100000000 in
theorem walk1 (a0 a1 : Int) (w : World) (w0 : (Lit.int .i64 a0).wf = true) (w1 : (Lit.int .i64 a1).wf = true) (hn : NamesAt w) (hk : (a0.tmod 5 + 5).tmod 5 = 1) :
    Calls Tryd.prog 7 #[.int .i64 a0, .int .i64 a1] w fun e w' => e = .returned (.bool true) ∧ Below w.heap.size w w' := by
  have HN := Lib.hid hn
  have A0 := Lib.hid (alive_yes w HN.out)
  have rv := rng_of w1
  have ra := rng_of w0
  unfold rng at ra
  have hm : 1 = (a0.tmod 5 + 5).tmod 5 := hk.symm
  have t0 : a0.tmod 5 < 5 := Int.tmod_lt_of_pos _ (by omega)
  have t1 : -5 < a0.tmod 5 := Int.lt_tmod_of_pos _ (by omega)
  have e1 : wrap64 (a0.tmod 5) = a0.tmod 5 := IntWalk.wrap64_in _ (by omega)
  have e2 : wrap64 (a0.tmod 5 + 5) = a0.tmod 5 + 5 := IntWalk.wrap64_in _ (by omega)
  have t3 : (a0.tmod 5 + 5).tmod 5 < 5 := Int.tmod_lt_of_pos _ (by omega)
  have t4 : 0 ≤ (a0.tmod 5 + 5).tmod 5 := Int.tmod_nonneg _ (by omega)
  have e3 : wrap64 ((a0.tmod 5 + 5).tmod 5) = 1 := by rw [← hm]; exact IntWalk.wrap64_in _ (by omega)
  have e4 : (a0.tmod 5 + 5).tmod 5 = 1 := hm.symm
  clear hk t0 t1 t3 t4 ra hm hn w0 w1
  go_enter Tryd.func7, Tryd.ntmps7
  go_wp2_with fail
  refine A0.out.mono ?_; rintro e w1 ⟨rfl, hb⟩
  have HB1 := Lib.hid hb
  clear hb
  go_upto_region 4 with fail
  have HX := Lib.hid (Bx.new w1 #[.int .i64 1, .int .i64 0, .int .i64 0, .int .i64 0, .string ⟨#[]⟩, .bool false, .string ⟨#[]⟩, .string ⟨#[]⟩, .int .i64 0, .int .i64 0, .slice none 0 0, .slice none 0 0, .slice none 0 0, .slice none 0 0] 29)
  have HB := Lib.hid (HB1.out.alloc HB1.out.size (.cells #[.int .i64 1, .int .i64 0, .int .i64 0, .int .i64 0, .string ⟨#[]⟩, .bool false, .string ⟨#[]⟩, .string ⟨#[]⟩, .int .i64 0, .int .i64 0, .slice none 0 0, .slice none 0 0, .slice none 0 0, .slice none 0 0] 29))
  generalize w1.alloc (.cells #[.int .i64 1, .int .i64 0, .int .i64 0, .int .i64 0, .string ⟨#[]⟩, .bool false, .string ⟨#[]⟩, .string ⟨#[]⟩, .int .i64 0, .int .i64 0, .slice none 0 0, .slice none 0 0, .slice none 0 0, .slice none 0 0] 29) = W at *
  have hcs := fun j => HX.out.cell j
  have hfs := fun j => HX.out.free j
  have x0 := hcs 0
  have f0 := hfs 0
  have x1 := hcs 1
  have f1 := hfs 1
  have x2 := hcs 2
  have f2 := hfs 2
  have x3 := hcs 3
  have f3 := hfs 3
  have x4 := hcs 4
  have f4 := hfs 4
  have x5 := hcs 5
  have f5 := hfs 5
  have x6 := hcs 6
  have f6 := hfs 6
  have x7 := hcs 7
  have f7 := hfs 7
  have x8 := hcs 8
  have f8 := hfs 8
  have x9 := hcs 9
  have f9 := hfs 9
  have x10 := hcs 10
  have f10 := hfs 10
  have x11 := hcs 11
  have f11 := hfs 11
  have x12 := hcs 12
  have f12 := hfs 12
  have x13 := hcs 13
  have f13 := hfs 13
  clear hcs hfs
  simp only [List.getElem?_toArray, List.getElem?_cons_zero, List.getElem?_cons_succ] at x0 x1 x2 x3 x4 x5 x6 x7 x8 x9 x10 x11 x12 x13
  have hz : rightR (re 1 0 a1 0 []) = four a1 := by rw [re_right]; simp [rightK, two, four, rightPs, everyB]
  have HX2 := Lib.hid (show Bx (W.setCell ⟨w1.heap.size, 2, none⟩ (.int .i64 a1)) w1.heap.size #[.int .i64 1, .int .i64 0, .int .i64 a1, .int .i64 0, .string ⟨#[]⟩, .bool false, .string ⟨#[]⟩, .string ⟨#[]⟩, .int .i64 0, .int .i64 0, .slice none 0 0, .slice none 0 0, .slice none 0 0, .slice none 0 0] 29 from HX.out.set (i := 2) (.int .i64 a1))
  have HB2 := Lib.hid (HB.out.setCell (p := ⟨w1.heap.size, 2, none⟩) HB1.out.size (.int .i64 a1) : Below w.heap.size w (W.setCell ⟨w1.heap.size, 2, none⟩ (.int .i64 a1)))
  have HRM := Lib.hid (re_in (w := (W.setCell ⟨w1.heap.size, 2, none⟩ (.int .i64 a1))) (s := sl0) rng1 rng0 rv rng0 (IntsM.nil _ _ _))
  have PU := Lib.hid (show Calls Tryd.prog 12 #[.agg #[.int .i64 1, .int .i64 0, .int .i64 a1, .int .i64 0, .string ⟨#[]⟩, .bool false, .string ⟨#[]⟩, .string ⟨#[]⟩, .int .i64 0, .int .i64 0, .slice none 0 0, .slice none 0 0, .slice none 0 0, .slice none 0 0]] (W.setCell ⟨w1.heap.size, 2, none⟩ (.int .i64 a1)) fun e w' => e = .returned (.tuple #[.string (str (putS (re 1 0 a1 0 []))), .bool (four a1)]) ∧ Below (W.setCell ⟨w1.heap.size, 2, none⟩ (.int .i64 a1)).heap.size (W.setCell ⟨w1.heap.size, 2, none⟩ (.int .i64 a1)) w' from by
    have h := put_any (re 1 0 a1 0 []) ⟨sl0, sl0, sl0, sl0⟩ (W.setCell ⟨w1.heap.size, 2, none⟩ (.int .i64 a1)) HRM.out (Nat.le_refl _)
    rw [hz] at h
    exact h)
  have RI := Lib.hid (fun u (hb : Below (W.setCell ⟨w1.heap.size, 2, none⟩ (.int .i64 a1)).heap.size (W.setCell ⟨w1.heap.size, 2, none⟩ (.int .i64 a1)) u) => (show Calls Tryd.prog 14 #[.agg #[.int .i64 1, .int .i64 0, .int .i64 a1, .int .i64 0, .string ⟨#[]⟩, .bool false, .string ⟨#[]⟩, .string ⟨#[]⟩, .int .i64 0, .int .i64 0, .slice none 0 0, .slice none 0 0, .slice none 0 0, .slice none 0 0]] u fun e w' => e = .returned (.bool (four a1)) ∧ Below u.heap.size u w' from by
    have h := right_is (re 1 0 a1 0 []) ⟨sl0, sl0, sl0, sl0⟩ u (HRM.out.kept hb) hb.size
    rw [hz] at h
    exact h))
  have PE := put_empty (r := re 1 0 a1 0 [])
  rw [hz] at PE
  generalize str (putS (re 1 0 a1 0 [])) = b at *
  clear hz
  by_cases h1 : 0 ≤ a1
  · by_cases h2 : a1 ≤ 4294967295
    · rw [show four a1 = true from decide_eq_true ⟨h1, h2⟩] at PU RI PE
      have em1 : ¬ b.toList = [] := by simpa using PE
      have em2 : b.toList.isEmpty = false := by rw [List.isEmpty_eq_false_iff]; exact em1
      clear PE
      go_upto_region 18 with fail
      go_wp2_with fail
      refine PU.out.mono ?_; rintro e w3 ⟨rfl, hb⟩
      have HB3 := Lib.hid (HB2.out.trans (hb.mono HB2.out.size))
      have R3 := Lib.hid (RI.out w3 hb)
      have HX3 := Lib.hid (HX2.out.held hb)
      clear hb PU RI x0 f0 x1 f1 x2 f2 x3 f3 x4 f4 x5 f5 x6 f6 x7 f7 x8 f8 x9 f9 x10 f10 x11 f11 x12 f12 x13 f13
      have hcs := fun j => HX3.out.cell j
      have x0 := hcs 0
      have x1 := hcs 1
      have x2 := hcs 2
      have x3 := hcs 3
      have x4 := hcs 4
      have x5 := hcs 5
      have x6 := hcs 6
      have x7 := hcs 7
      have x8 := hcs 8
      have x9 := hcs 9
      have x10 := hcs 10
      have x11 := hcs 11
      have x12 := hcs 12
      have x13 := hcs 13
      clear hcs
      simp only [List.getElem?_toArray, List.getElem?_cons_zero, List.getElem?_cons_succ] at x0 x1 x2 x3 x4 x5 x6 x7 x8 x9 x10 x11 x12 x13
      go_wp2_with fail
      refine R3.out.mono ?_; rintro e w4 ⟨rfl, hb⟩
      have HB4 := Lib.hid (HB3.out.trans (hb.mono HB3.out.size))
      clear hb
      go_wp2_with fail
      go_ret
      exact ⟨rfl, HB4.out⟩
    · rw [show four a1 = false from decide_eq_false (fun h => h2 h.2)] at PU RI PE
      have em1 : b.toList = [] := by simpa using PE
      have em2 : b.toList.isEmpty = true := by rw [em1]; rfl
      clear PE
      go_upto_region 18 with fail
      go_wp2_with fail
      refine PU.out.mono ?_; rintro e w3 ⟨rfl, hb⟩
      have HB3 := Lib.hid (HB2.out.trans (hb.mono HB2.out.size))
      have R3 := Lib.hid (RI.out w3 hb)
      have HX3 := Lib.hid (HX2.out.held hb)
      clear hb PU RI x0 f0 x1 f1 x2 f2 x3 f3 x4 f4 x5 f5 x6 f6 x7 f7 x8 f8 x9 f9 x10 f10 x11 f11 x12 f12 x13 f13
      have hcs := fun j => HX3.out.cell j
      have x0 := hcs 0
      have x1 := hcs 1
      have x2 := hcs 2
      have x3 := hcs 3
      have x4 := hcs 4
      have x5 := hcs 5
      have x6 := hcs 6
      have x7 := hcs 7
      have x8 := hcs 8
      have x9 := hcs 9
      have x10 := hcs 10
      have x11 := hcs 11
      have x12 := hcs 12
      have x13 := hcs 13
      clear hcs
      simp only [List.getElem?_toArray, List.getElem?_cons_zero, List.getElem?_cons_succ] at x0 x1 x2 x3 x4 x5 x6 x7 x8 x9 x10 x11 x12 x13
      go_wp2_with fail
      refine R3.out.mono ?_; rintro e w4 ⟨rfl, hb⟩
      have HB4 := Lib.hid (HB3.out.trans (hb.mono HB3.out.size))
      clear hb
      go_wp2_with fail
      go_ret
      exact ⟨rfl, HB4.out⟩
  · rw [show four a1 = false from decide_eq_false (fun h => h1 h.1)] at PU RI PE
    have em1 : b.toList = [] := by simpa using PE
    have em2 : b.toList.isEmpty = true := by rw [em1]; rfl
    clear PE
    go_upto_region 18 with fail
    go_wp2_with fail
    refine PU.out.mono ?_; rintro e w3 ⟨rfl, hb⟩
    have HB3 := Lib.hid (HB2.out.trans (hb.mono HB2.out.size))
    have R3 := Lib.hid (RI.out w3 hb)
    have HX3 := Lib.hid (HX2.out.held hb)
    clear hb PU RI x0 f0 x1 f1 x2 f2 x3 f3 x4 f4 x5 f5 x6 f6 x7 f7 x8 f8 x9 f9 x10 f10 x11 f11 x12 f12 x13 f13
    have hcs := fun j => HX3.out.cell j
    have x0 := hcs 0
    have x1 := hcs 1
    have x2 := hcs 2
    have x3 := hcs 3
    have x4 := hcs 4
    have x5 := hcs 5
    have x6 := hcs 6
    have x7 := hcs 7
    have x8 := hcs 8
    have x9 := hcs 9
    have x10 := hcs 10
    have x11 := hcs 11
    have x12 := hcs 12
    have x13 := hcs 13
    clear hcs
    simp only [List.getElem?_toArray, List.getElem?_cons_zero, List.getElem?_cons_succ] at x0 x1 x2 x3 x4 x5 x6 x7 x8 x9 x10 x11 x12 x13
    go_wp2_with fail
    refine R3.out.mono ?_; rintro e w4 ⟨rfl, hb⟩
    have HB4 := Lib.hid (HB3.out.trans (hb.mono HB3.out.size))
    clear hb
    go_wp2_with fail
    go_ret
    exact ⟨rfl, HB4.out⟩
set_option maxHeartbeats 100000000 in
theorem walk2 (a0 a1 : Int) (w : World) (w0 : (Lit.int .i64 a0).wf = true) (w1 : (Lit.int .i64 a1).wf = true) (hn : NamesAt w) (hk : (a0.tmod 5 + 5).tmod 5 = 2) :
    Calls Tryd.prog 7 #[.int .i64 a0, .int .i64 a1] w fun e w' => e = .returned (.bool true) ∧ Below w.heap.size w w' := by
  have HN := Lib.hid hn
  have A0 := Lib.hid (alive_yes w HN.out)
  have rv := rng_of w1
  have ra := rng_of w0
  unfold rng at ra
  have hm : 2 = (a0.tmod 5 + 5).tmod 5 := hk.symm
  have t0 : a0.tmod 5 < 5 := Int.tmod_lt_of_pos _ (by omega)
  have t1 : -5 < a0.tmod 5 := Int.lt_tmod_of_pos _ (by omega)
  have e1 : wrap64 (a0.tmod 5) = a0.tmod 5 := IntWalk.wrap64_in _ (by omega)
  have e2 : wrap64 (a0.tmod 5 + 5) = a0.tmod 5 + 5 := IntWalk.wrap64_in _ (by omega)
  have t3 : (a0.tmod 5 + 5).tmod 5 < 5 := Int.tmod_lt_of_pos _ (by omega)
  have t4 : 0 ≤ (a0.tmod 5 + 5).tmod 5 := Int.tmod_nonneg _ (by omega)
  have e3 : wrap64 ((a0.tmod 5 + 5).tmod 5) = 2 := by rw [← hm]; exact IntWalk.wrap64_in _ (by omega)
  have e4 : (a0.tmod 5 + 5).tmod 5 = 2 := hm.symm
  clear hk t0 t1 t3 t4 ra hm hn w0 w1
  go_enter Tryd.func7, Tryd.ntmps7
  go_wp2_with fail
  refine A0.out.mono ?_; rintro e w1 ⟨rfl, hb⟩
  have HB1 := Lib.hid hb
  clear hb
  go_upto_region 4 with fail
  have HX := Lib.hid (Bx.new w1 #[.int .i64 1, .int .i64 0, .int .i64 0, .int .i64 0, .string ⟨#[]⟩, .bool false, .string ⟨#[]⟩, .string ⟨#[]⟩, .int .i64 0, .int .i64 0, .slice none 0 0, .slice none 0 0, .slice none 0 0, .slice none 0 0] 29)
  have HB := Lib.hid (HB1.out.alloc HB1.out.size (.cells #[.int .i64 1, .int .i64 0, .int .i64 0, .int .i64 0, .string ⟨#[]⟩, .bool false, .string ⟨#[]⟩, .string ⟨#[]⟩, .int .i64 0, .int .i64 0, .slice none 0 0, .slice none 0 0, .slice none 0 0, .slice none 0 0] 29))
  generalize w1.alloc (.cells #[.int .i64 1, .int .i64 0, .int .i64 0, .int .i64 0, .string ⟨#[]⟩, .bool false, .string ⟨#[]⟩, .string ⟨#[]⟩, .int .i64 0, .int .i64 0, .slice none 0 0, .slice none 0 0, .slice none 0 0, .slice none 0 0] 29) = W at *
  have hcs := fun j => HX.out.cell j
  have hfs := fun j => HX.out.free j
  have x0 := hcs 0
  have f0 := hfs 0
  have x1 := hcs 1
  have f1 := hfs 1
  have x2 := hcs 2
  have f2 := hfs 2
  have x3 := hcs 3
  have f3 := hfs 3
  have x4 := hcs 4
  have f4 := hfs 4
  have x5 := hcs 5
  have f5 := hfs 5
  have x6 := hcs 6
  have f6 := hfs 6
  have x7 := hcs 7
  have f7 := hfs 7
  have x8 := hcs 8
  have f8 := hfs 8
  have x9 := hcs 9
  have f9 := hfs 9
  have x10 := hcs 10
  have f10 := hfs 10
  have x11 := hcs 11
  have f11 := hfs 11
  have x12 := hcs 12
  have f12 := hfs 12
  have x13 := hcs 13
  have f13 := hfs 13
  clear hcs hfs
  simp only [List.getElem?_toArray, List.getElem?_cons_zero, List.getElem?_cons_succ] at x0 x1 x2 x3 x4 x5 x6 x7 x8 x9 x10 x11 x12 x13
  have hz : rightR (re 1 0 0 a1 []) = four a1 := by rw [re_right]; simp [rightK, two, four, rightPs, everyB]
  have HX2 := Lib.hid (show Bx (W.setCell ⟨w1.heap.size, 3, none⟩ (.int .i64 a1)) w1.heap.size #[.int .i64 1, .int .i64 0, .int .i64 0, .int .i64 a1, .string ⟨#[]⟩, .bool false, .string ⟨#[]⟩, .string ⟨#[]⟩, .int .i64 0, .int .i64 0, .slice none 0 0, .slice none 0 0, .slice none 0 0, .slice none 0 0] 29 from HX.out.set (i := 3) (.int .i64 a1))
  have HB2 := Lib.hid (HB.out.setCell (p := ⟨w1.heap.size, 3, none⟩) HB1.out.size (.int .i64 a1) : Below w.heap.size w (W.setCell ⟨w1.heap.size, 3, none⟩ (.int .i64 a1)))
  have HRM := Lib.hid (re_in (w := (W.setCell ⟨w1.heap.size, 3, none⟩ (.int .i64 a1))) (s := sl0) rng1 rng0 rng0 rv (IntsM.nil _ _ _))
  have PU := Lib.hid (show Calls Tryd.prog 12 #[.agg #[.int .i64 1, .int .i64 0, .int .i64 0, .int .i64 a1, .string ⟨#[]⟩, .bool false, .string ⟨#[]⟩, .string ⟨#[]⟩, .int .i64 0, .int .i64 0, .slice none 0 0, .slice none 0 0, .slice none 0 0, .slice none 0 0]] (W.setCell ⟨w1.heap.size, 3, none⟩ (.int .i64 a1)) fun e w' => e = .returned (.tuple #[.string (str (putS (re 1 0 0 a1 []))), .bool (four a1)]) ∧ Below (W.setCell ⟨w1.heap.size, 3, none⟩ (.int .i64 a1)).heap.size (W.setCell ⟨w1.heap.size, 3, none⟩ (.int .i64 a1)) w' from by
    have h := put_any (re 1 0 0 a1 []) ⟨sl0, sl0, sl0, sl0⟩ (W.setCell ⟨w1.heap.size, 3, none⟩ (.int .i64 a1)) HRM.out (Nat.le_refl _)
    rw [hz] at h
    exact h)
  have RI := Lib.hid (fun u (hb : Below (W.setCell ⟨w1.heap.size, 3, none⟩ (.int .i64 a1)).heap.size (W.setCell ⟨w1.heap.size, 3, none⟩ (.int .i64 a1)) u) => (show Calls Tryd.prog 14 #[.agg #[.int .i64 1, .int .i64 0, .int .i64 0, .int .i64 a1, .string ⟨#[]⟩, .bool false, .string ⟨#[]⟩, .string ⟨#[]⟩, .int .i64 0, .int .i64 0, .slice none 0 0, .slice none 0 0, .slice none 0 0, .slice none 0 0]] u fun e w' => e = .returned (.bool (four a1)) ∧ Below u.heap.size u w' from by
    have h := right_is (re 1 0 0 a1 []) ⟨sl0, sl0, sl0, sl0⟩ u (HRM.out.kept hb) hb.size
    rw [hz] at h
    exact h))
  have PE := put_empty (r := re 1 0 0 a1 [])
  rw [hz] at PE
  generalize str (putS (re 1 0 0 a1 [])) = b at *
  clear hz
  by_cases h1 : 0 ≤ a1
  · by_cases h2 : a1 ≤ 4294967295
    · rw [show four a1 = true from decide_eq_true ⟨h1, h2⟩] at PU RI PE
      have em1 : ¬ b.toList = [] := by simpa using PE
      have em2 : b.toList.isEmpty = false := by rw [List.isEmpty_eq_false_iff]; exact em1
      clear PE
      go_upto_region 18 with fail
      go_wp2_with fail
      refine PU.out.mono ?_; rintro e w3 ⟨rfl, hb⟩
      have HB3 := Lib.hid (HB2.out.trans (hb.mono HB2.out.size))
      have R3 := Lib.hid (RI.out w3 hb)
      have HX3 := Lib.hid (HX2.out.held hb)
      clear hb PU RI x0 f0 x1 f1 x2 f2 x3 f3 x4 f4 x5 f5 x6 f6 x7 f7 x8 f8 x9 f9 x10 f10 x11 f11 x12 f12 x13 f13
      have hcs := fun j => HX3.out.cell j
      have x0 := hcs 0
      have x1 := hcs 1
      have x2 := hcs 2
      have x3 := hcs 3
      have x4 := hcs 4
      have x5 := hcs 5
      have x6 := hcs 6
      have x7 := hcs 7
      have x8 := hcs 8
      have x9 := hcs 9
      have x10 := hcs 10
      have x11 := hcs 11
      have x12 := hcs 12
      have x13 := hcs 13
      clear hcs
      simp only [List.getElem?_toArray, List.getElem?_cons_zero, List.getElem?_cons_succ] at x0 x1 x2 x3 x4 x5 x6 x7 x8 x9 x10 x11 x12 x13
      go_wp2_with fail
      refine R3.out.mono ?_; rintro e w4 ⟨rfl, hb⟩
      have HB4 := Lib.hid (HB3.out.trans (hb.mono HB3.out.size))
      clear hb
      go_wp2_with fail
      go_ret
      exact ⟨rfl, HB4.out⟩
    · rw [show four a1 = false from decide_eq_false (fun h => h2 h.2)] at PU RI PE
      have em1 : b.toList = [] := by simpa using PE
      have em2 : b.toList.isEmpty = true := by rw [em1]; rfl
      clear PE
      go_upto_region 18 with fail
      go_wp2_with fail
      refine PU.out.mono ?_; rintro e w3 ⟨rfl, hb⟩
      have HB3 := Lib.hid (HB2.out.trans (hb.mono HB2.out.size))
      have R3 := Lib.hid (RI.out w3 hb)
      have HX3 := Lib.hid (HX2.out.held hb)
      clear hb PU RI x0 f0 x1 f1 x2 f2 x3 f3 x4 f4 x5 f5 x6 f6 x7 f7 x8 f8 x9 f9 x10 f10 x11 f11 x12 f12 x13 f13
      have hcs := fun j => HX3.out.cell j
      have x0 := hcs 0
      have x1 := hcs 1
      have x2 := hcs 2
      have x3 := hcs 3
      have x4 := hcs 4
      have x5 := hcs 5
      have x6 := hcs 6
      have x7 := hcs 7
      have x8 := hcs 8
      have x9 := hcs 9
      have x10 := hcs 10
      have x11 := hcs 11
      have x12 := hcs 12
      have x13 := hcs 13
      clear hcs
      simp only [List.getElem?_toArray, List.getElem?_cons_zero, List.getElem?_cons_succ] at x0 x1 x2 x3 x4 x5 x6 x7 x8 x9 x10 x11 x12 x13
      go_wp2_with fail
      refine R3.out.mono ?_; rintro e w4 ⟨rfl, hb⟩
      have HB4 := Lib.hid (HB3.out.trans (hb.mono HB3.out.size))
      clear hb
      go_wp2_with fail
      go_ret
      exact ⟨rfl, HB4.out⟩
  · rw [show four a1 = false from decide_eq_false (fun h => h1 h.1)] at PU RI PE
    have em1 : b.toList = [] := by simpa using PE
    have em2 : b.toList.isEmpty = true := by rw [em1]; rfl
    clear PE
    go_upto_region 18 with fail
    go_wp2_with fail
    refine PU.out.mono ?_; rintro e w3 ⟨rfl, hb⟩
    have HB3 := Lib.hid (HB2.out.trans (hb.mono HB2.out.size))
    have R3 := Lib.hid (RI.out w3 hb)
    have HX3 := Lib.hid (HX2.out.held hb)
    clear hb PU RI x0 f0 x1 f1 x2 f2 x3 f3 x4 f4 x5 f5 x6 f6 x7 f7 x8 f8 x9 f9 x10 f10 x11 f11 x12 f12 x13 f13
    have hcs := fun j => HX3.out.cell j
    have x0 := hcs 0
    have x1 := hcs 1
    have x2 := hcs 2
    have x3 := hcs 3
    have x4 := hcs 4
    have x5 := hcs 5
    have x6 := hcs 6
    have x7 := hcs 7
    have x8 := hcs 8
    have x9 := hcs 9
    have x10 := hcs 10
    have x11 := hcs 11
    have x12 := hcs 12
    have x13 := hcs 13
    clear hcs
    simp only [List.getElem?_toArray, List.getElem?_cons_zero, List.getElem?_cons_succ] at x0 x1 x2 x3 x4 x5 x6 x7 x8 x9 x10 x11 x12 x13
    go_wp2_with fail
    refine R3.out.mono ?_; rintro e w4 ⟨rfl, hb⟩
    have HB4 := Lib.hid (HB3.out.trans (hb.mono HB3.out.size))
    clear hb
    go_wp2_with fail
    go_ret
    exact ⟨rfl, HB4.out⟩
set_option maxHeartbeats 100000000 in
theorem walk3 (a0 a1 : Int) (w : World) (w0 : (Lit.int .i64 a0).wf = true) (w1 : (Lit.int .i64 a1).wf = true) (hn : NamesAt w) (hk : (a0.tmod 5 + 5).tmod 5 = 3) :
    Calls Tryd.prog 7 #[.int .i64 a0, .int .i64 a1] w fun e w' => e = .returned (.bool true) ∧ Below w.heap.size w w' := by
  have HN := Lib.hid hn
  have A0 := Lib.hid (alive_yes w HN.out)
  have rv := rng_of w1
  have ra := rng_of w0
  unfold rng at ra
  have hm : 3 = (a0.tmod 5 + 5).tmod 5 := hk.symm
  have t0 : a0.tmod 5 < 5 := Int.tmod_lt_of_pos _ (by omega)
  have t1 : -5 < a0.tmod 5 := Int.lt_tmod_of_pos _ (by omega)
  have e1 : wrap64 (a0.tmod 5) = a0.tmod 5 := IntWalk.wrap64_in _ (by omega)
  have e2 : wrap64 (a0.tmod 5 + 5) = a0.tmod 5 + 5 := IntWalk.wrap64_in _ (by omega)
  have t3 : (a0.tmod 5 + 5).tmod 5 < 5 := Int.tmod_lt_of_pos _ (by omega)
  have t4 : 0 ≤ (a0.tmod 5 + 5).tmod 5 := Int.tmod_nonneg _ (by omega)
  have e3 : wrap64 ((a0.tmod 5 + 5).tmod 5) = 3 := by rw [← hm]; exact IntWalk.wrap64_in _ (by omega)
  have e4 : (a0.tmod 5 + 5).tmod 5 = 3 := hm.symm
  clear hk t0 t1 t3 t4 ra hm hn w0 w1
  go_enter Tryd.func7, Tryd.ntmps7
  go_wp2_with fail
  refine A0.out.mono ?_; rintro e w1 ⟨rfl, hb⟩
  have HB1 := Lib.hid hb
  clear hb
  go_upto_region 4 with fail
  have HX := Lib.hid (Bx.new w1 #[.int .i64 1, .int .i64 0, .int .i64 0, .int .i64 0, .string ⟨#[]⟩, .bool false, .string ⟨#[]⟩, .string ⟨#[]⟩, .int .i64 0, .int .i64 0, .slice none 0 0, .slice none 0 0, .slice none 0 0, .slice none 0 0] 29)
  have HB := Lib.hid (HB1.out.alloc HB1.out.size (.cells #[.int .i64 1, .int .i64 0, .int .i64 0, .int .i64 0, .string ⟨#[]⟩, .bool false, .string ⟨#[]⟩, .string ⟨#[]⟩, .int .i64 0, .int .i64 0, .slice none 0 0, .slice none 0 0, .slice none 0 0, .slice none 0 0] 29))
  generalize w1.alloc (.cells #[.int .i64 1, .int .i64 0, .int .i64 0, .int .i64 0, .string ⟨#[]⟩, .bool false, .string ⟨#[]⟩, .string ⟨#[]⟩, .int .i64 0, .int .i64 0, .slice none 0 0, .slice none 0 0, .slice none 0 0, .slice none 0 0] 29) = W at *
  have hcs := fun j => HX.out.cell j
  have hfs := fun j => HX.out.free j
  have x0 := hcs 0
  have f0 := hfs 0
  have x1 := hcs 1
  have f1 := hfs 1
  have x2 := hcs 2
  have f2 := hfs 2
  have x3 := hcs 3
  have f3 := hfs 3
  have x4 := hcs 4
  have f4 := hfs 4
  have x5 := hcs 5
  have f5 := hfs 5
  have x6 := hcs 6
  have f6 := hfs 6
  have x7 := hcs 7
  have f7 := hfs 7
  have x8 := hcs 8
  have f8 := hfs 8
  have x9 := hcs 9
  have f9 := hfs 9
  have x10 := hcs 10
  have f10 := hfs 10
  have x11 := hcs 11
  have f11 := hfs 11
  have x12 := hcs 12
  have f12 := hfs 12
  have x13 := hcs 13
  have f13 := hfs 13
  clear hcs hfs
  simp only [List.getElem?_toArray, List.getElem?_cons_zero, List.getElem?_cons_succ] at x0 x1 x2 x3 x4 x5 x6 x7 x8 x9 x10 x11 x12 x13
  have hz : rightR (re 1 0 0 0 [1, a1]) = two a1 := by rw [re_right]; unfold rightPs everyB; simp [rightK, two, four]
  have HX2 := Lib.hid (show Bx ((W.alloc (.cells #[.int .i64 1, .int .i64 a1] 3)).setCell ⟨w1.heap.size, 10, none⟩ (.slice (some ⟨W.heap.size, 0, none⟩) 2 2)) w1.heap.size #[.int .i64 1, .int .i64 0, .int .i64 0, .int .i64 0, .string ⟨#[]⟩, .bool false, .string ⟨#[]⟩, .string ⟨#[]⟩, .int .i64 0, .int .i64 0, .slice (some ⟨W.heap.size, 0, none⟩) 2 2, .slice none 0 0, .slice none 0 0, .slice none 0 0] 29 from (HX.out.alloc (.cells #[.int .i64 1, .int .i64 a1] 3)).set (i := 10) (.slice (some ⟨W.heap.size, 0, none⟩) 2 2))
  have HXA := Lib.hid (HX.out.alloc (.cells #[.int .i64 1, .int .i64 a1] 3))
  have fa10 := HXA.out.free 10
  have hcx := fun j => HXA.out.cell j
  have xa0 := hcx 0
  have xa1 := hcx 1
  have xa2 := hcx 2
  have xa3 := hcx 3
  have xa4 := hcx 4
  have xa5 := hcx 5
  have xa6 := hcx 6
  have xa7 := hcx 7
  have xa8 := hcx 8
  have xa9 := hcx 9
  have xa10 := hcx 10
  have xa11 := hcx 11
  have xa12 := hcx 12
  have xa13 := hcx 13
  clear hcx
  simp only [List.getElem?_toArray, List.getElem?_cons_zero, List.getElem?_cons_succ] at xa0 xa1 xa2 xa3 xa4 xa5 xa6 xa7 xa8 xa9 xa10 xa11 xa12 xa13
  have HI := Lib.hid (Bx.other (Bx.new W #[.int .i64 1, .int .i64 a1] 3) (Nat.ne_of_gt HX.out.lt) (.slice (some ⟨W.heap.size, 0, none⟩) 2 2) : Bx ((W.alloc (.cells #[.int .i64 1, .int .i64 a1] 3)).setCell ⟨w1.heap.size, 10, none⟩ (.slice (some ⟨W.heap.size, 0, none⟩) 2 2)) W.heap.size #[.int .i64 1, .int .i64 a1] 3)
  have HB2 := Lib.hid ((HB.out.alloc HB.out.size (.cells #[.int .i64 1, .int .i64 a1] 3)).setCell (p := ⟨w1.heap.size, 10, none⟩) HB1.out.size (.slice (some ⟨W.heap.size, 0, none⟩) 2 2) : Below w.heap.size w ((W.alloc (.cells #[.int .i64 1, .int .i64 a1] 3)).setCell ⟨w1.heap.size, 10, none⟩ (.slice (some ⟨W.heap.size, 0, none⟩) 2 2)))
  have HRM := Lib.hid (re_in (w := ((W.alloc (.cells #[.int .i64 1, .int .i64 a1] 3)).setCell ⟨w1.heap.size, 10, none⟩ (.slice (some ⟨W.heap.size, 0, none⟩) 2 2))) (s := ⟨some ⟨W.heap.size, 0, none⟩, 2, 2⟩) rng1 rng0 rng0 rng0 (two_ints HI.out rng1 rv))
  have PU := Lib.hid (show Calls Tryd.prog 12 #[.agg #[.int .i64 1, .int .i64 0, .int .i64 0, .int .i64 0, .string ⟨#[]⟩, .bool false, .string ⟨#[]⟩, .string ⟨#[]⟩, .int .i64 0, .int .i64 0, .slice (some ⟨W.heap.size, 0, none⟩) 2 2, .slice none 0 0, .slice none 0 0, .slice none 0 0]] ((W.alloc (.cells #[.int .i64 1, .int .i64 a1] 3)).setCell ⟨w1.heap.size, 10, none⟩ (.slice (some ⟨W.heap.size, 0, none⟩) 2 2)) fun e w' => e = .returned (.tuple #[.string (str (putS (re 1 0 0 0 [1, a1]))), .bool (two a1)]) ∧ Below ((W.alloc (.cells #[.int .i64 1, .int .i64 a1] 3)).setCell ⟨w1.heap.size, 10, none⟩ (.slice (some ⟨W.heap.size, 0, none⟩) 2 2)).heap.size ((W.alloc (.cells #[.int .i64 1, .int .i64 a1] 3)).setCell ⟨w1.heap.size, 10, none⟩ (.slice (some ⟨W.heap.size, 0, none⟩) 2 2)) w' from by
    have h := put_any (re 1 0 0 0 [1, a1]) ⟨⟨some ⟨W.heap.size, 0, none⟩, 2, 2⟩, sl0, sl0, sl0⟩ ((W.alloc (.cells #[.int .i64 1, .int .i64 a1] 3)).setCell ⟨w1.heap.size, 10, none⟩ (.slice (some ⟨W.heap.size, 0, none⟩) 2 2)) HRM.out (Nat.le_refl _)
    rw [hz] at h
    exact h)
  have RI := Lib.hid (fun u (hb : Below ((W.alloc (.cells #[.int .i64 1, .int .i64 a1] 3)).setCell ⟨w1.heap.size, 10, none⟩ (.slice (some ⟨W.heap.size, 0, none⟩) 2 2)).heap.size ((W.alloc (.cells #[.int .i64 1, .int .i64 a1] 3)).setCell ⟨w1.heap.size, 10, none⟩ (.slice (some ⟨W.heap.size, 0, none⟩) 2 2)) u) => (show Calls Tryd.prog 14 #[.agg #[.int .i64 1, .int .i64 0, .int .i64 0, .int .i64 0, .string ⟨#[]⟩, .bool false, .string ⟨#[]⟩, .string ⟨#[]⟩, .int .i64 0, .int .i64 0, .slice (some ⟨W.heap.size, 0, none⟩) 2 2, .slice none 0 0, .slice none 0 0, .slice none 0 0]] u fun e w' => e = .returned (.bool (two a1)) ∧ Below u.heap.size u w' from by
    have h := right_is (re 1 0 0 0 [1, a1]) ⟨⟨some ⟨W.heap.size, 0, none⟩, 2, 2⟩, sl0, sl0, sl0⟩ u (HRM.out.kept hb) hb.size
    rw [hz] at h
    exact h))
  have PE := put_empty (r := re 1 0 0 0 [1, a1])
  rw [hz] at PE
  generalize str (putS (re 1 0 0 0 [1, a1])) = b at *
  clear hz
  by_cases h1 : 0 ≤ a1
  · by_cases h2 : a1 ≤ 65535
    · rw [show two a1 = true from decide_eq_true ⟨h1, h2⟩] at PU RI PE
      have em1 : ¬ b.toList = [] := by simpa using PE
      have em2 : b.toList.isEmpty = false := by rw [List.isEmpty_eq_false_iff]; exact em1
      clear PE
      go_upto_region 18 with fail
      go_wp2_with fail
      refine PU.out.mono ?_; rintro e w3 ⟨rfl, hb⟩
      have HB3 := Lib.hid (HB2.out.trans (hb.mono HB2.out.size))
      have R3 := Lib.hid (RI.out w3 hb)
      have HX3 := Lib.hid (HX2.out.held hb)
      clear hb PU RI x0 f0 x1 f1 x2 f2 x3 f3 x4 f4 x5 f5 x6 f6 x7 f7 x8 f8 x9 f9 x10 f10 x11 f11 x12 f12 x13 f13
      have hcs := fun j => HX3.out.cell j
      have x0 := hcs 0
      have x1 := hcs 1
      have x2 := hcs 2
      have x3 := hcs 3
      have x4 := hcs 4
      have x5 := hcs 5
      have x6 := hcs 6
      have x7 := hcs 7
      have x8 := hcs 8
      have x9 := hcs 9
      have x10 := hcs 10
      have x11 := hcs 11
      have x12 := hcs 12
      have x13 := hcs 13
      clear hcs
      simp only [List.getElem?_toArray, List.getElem?_cons_zero, List.getElem?_cons_succ] at x0 x1 x2 x3 x4 x5 x6 x7 x8 x9 x10 x11 x12 x13
      go_wp2_with fail
      refine R3.out.mono ?_; rintro e w4 ⟨rfl, hb⟩
      have HB4 := Lib.hid (HB3.out.trans (hb.mono HB3.out.size))
      clear hb
      go_wp2_with fail
      go_ret
      exact ⟨rfl, HB4.out⟩
    · rw [show two a1 = false from decide_eq_false (fun h => h2 h.2)] at PU RI PE
      have em1 : b.toList = [] := by simpa using PE
      have em2 : b.toList.isEmpty = true := by rw [em1]; rfl
      clear PE
      go_upto_region 18 with fail
      go_wp2_with fail
      refine PU.out.mono ?_; rintro e w3 ⟨rfl, hb⟩
      have HB3 := Lib.hid (HB2.out.trans (hb.mono HB2.out.size))
      have R3 := Lib.hid (RI.out w3 hb)
      have HX3 := Lib.hid (HX2.out.held hb)
      clear hb PU RI x0 f0 x1 f1 x2 f2 x3 f3 x4 f4 x5 f5 x6 f6 x7 f7 x8 f8 x9 f9 x10 f10 x11 f11 x12 f12 x13 f13
      have hcs := fun j => HX3.out.cell j
      have x0 := hcs 0
      have x1 := hcs 1
      have x2 := hcs 2
      have x3 := hcs 3
      have x4 := hcs 4
      have x5 := hcs 5
      have x6 := hcs 6
      have x7 := hcs 7
      have x8 := hcs 8
      have x9 := hcs 9
      have x10 := hcs 10
      have x11 := hcs 11
      have x12 := hcs 12
      have x13 := hcs 13
      clear hcs
      simp only [List.getElem?_toArray, List.getElem?_cons_zero, List.getElem?_cons_succ] at x0 x1 x2 x3 x4 x5 x6 x7 x8 x9 x10 x11 x12 x13
      go_wp2_with fail
      refine R3.out.mono ?_; rintro e w4 ⟨rfl, hb⟩
      have HB4 := Lib.hid (HB3.out.trans (hb.mono HB3.out.size))
      clear hb
      go_wp2_with fail
      go_ret
      exact ⟨rfl, HB4.out⟩
  · rw [show two a1 = false from decide_eq_false (fun h => h1 h.1)] at PU RI PE
    have em1 : b.toList = [] := by simpa using PE
    have em2 : b.toList.isEmpty = true := by rw [em1]; rfl
    clear PE
    go_upto_region 18 with fail
    go_wp2_with fail
    refine PU.out.mono ?_; rintro e w3 ⟨rfl, hb⟩
    have HB3 := Lib.hid (HB2.out.trans (hb.mono HB2.out.size))
    have R3 := Lib.hid (RI.out w3 hb)
    have HX3 := Lib.hid (HX2.out.held hb)
    clear hb PU RI x0 f0 x1 f1 x2 f2 x3 f3 x4 f4 x5 f5 x6 f6 x7 f7 x8 f8 x9 f9 x10 f10 x11 f11 x12 f12 x13 f13
    have hcs := fun j => HX3.out.cell j
    have x0 := hcs 0
    have x1 := hcs 1
    have x2 := hcs 2
    have x3 := hcs 3
    have x4 := hcs 4
    have x5 := hcs 5
    have x6 := hcs 6
    have x7 := hcs 7
    have x8 := hcs 8
    have x9 := hcs 9
    have x10 := hcs 10
    have x11 := hcs 11
    have x12 := hcs 12
    have x13 := hcs 13
    clear hcs
    simp only [List.getElem?_toArray, List.getElem?_cons_zero, List.getElem?_cons_succ] at x0 x1 x2 x3 x4 x5 x6 x7 x8 x9 x10 x11 x12 x13
    go_wp2_with fail
    refine R3.out.mono ?_; rintro e w4 ⟨rfl, hb⟩
    have HB4 := Lib.hid (HB3.out.trans (hb.mono HB3.out.size))
    clear hb
    go_wp2_with fail
    go_ret
    exact ⟨rfl, HB4.out⟩
set_option maxHeartbeats 100000000 in
theorem walk4 (a0 a1 : Int) (w : World) (w0 : (Lit.int .i64 a0).wf = true) (w1 : (Lit.int .i64 a1).wf = true) (hn : NamesAt w) (hk : (a0.tmod 5 + 5).tmod 5 = 4) :
    Calls Tryd.prog 7 #[.int .i64 a0, .int .i64 a1] w fun e w' => e = .returned (.bool true) ∧ Below w.heap.size w w' := by
  have HN := Lib.hid hn
  have A0 := Lib.hid (alive_yes w HN.out)
  have rv := rng_of w1
  have ra := rng_of w0
  unfold rng at ra
  have hm : 4 = (a0.tmod 5 + 5).tmod 5 := hk.symm
  have t0 : a0.tmod 5 < 5 := Int.tmod_lt_of_pos _ (by omega)
  have t1 : -5 < a0.tmod 5 := Int.lt_tmod_of_pos _ (by omega)
  have e1 : wrap64 (a0.tmod 5) = a0.tmod 5 := IntWalk.wrap64_in _ (by omega)
  have e2 : wrap64 (a0.tmod 5 + 5) = a0.tmod 5 + 5 := IntWalk.wrap64_in _ (by omega)
  have t3 : (a0.tmod 5 + 5).tmod 5 < 5 := Int.tmod_lt_of_pos _ (by omega)
  have t4 : 0 ≤ (a0.tmod 5 + 5).tmod 5 := Int.tmod_nonneg _ (by omega)
  have e3 : wrap64 ((a0.tmod 5 + 5).tmod 5) = 4 := by rw [← hm]; exact IntWalk.wrap64_in _ (by omega)
  have e4 : (a0.tmod 5 + 5).tmod 5 = 4 := hm.symm
  clear hk t0 t1 t3 t4 ra hm hn w0 w1
  go_enter Tryd.func7, Tryd.ntmps7
  go_wp2_with fail
  refine A0.out.mono ?_; rintro e w1 ⟨rfl, hb⟩
  have HB1 := Lib.hid hb
  clear hb
  go_upto_region 4 with fail
  have HX := Lib.hid (Bx.new w1 #[.int .i64 1, .int .i64 0, .int .i64 0, .int .i64 0, .string ⟨#[]⟩, .bool false, .string ⟨#[]⟩, .string ⟨#[]⟩, .int .i64 0, .int .i64 0, .slice none 0 0, .slice none 0 0, .slice none 0 0, .slice none 0 0] 29)
  have HB := Lib.hid (HB1.out.alloc HB1.out.size (.cells #[.int .i64 1, .int .i64 0, .int .i64 0, .int .i64 0, .string ⟨#[]⟩, .bool false, .string ⟨#[]⟩, .string ⟨#[]⟩, .int .i64 0, .int .i64 0, .slice none 0 0, .slice none 0 0, .slice none 0 0, .slice none 0 0] 29))
  generalize w1.alloc (.cells #[.int .i64 1, .int .i64 0, .int .i64 0, .int .i64 0, .string ⟨#[]⟩, .bool false, .string ⟨#[]⟩, .string ⟨#[]⟩, .int .i64 0, .int .i64 0, .slice none 0 0, .slice none 0 0, .slice none 0 0, .slice none 0 0] 29) = W at *
  have hcs := fun j => HX.out.cell j
  have hfs := fun j => HX.out.free j
  have x0 := hcs 0
  have f0 := hfs 0
  have x1 := hcs 1
  have f1 := hfs 1
  have x2 := hcs 2
  have f2 := hfs 2
  have x3 := hcs 3
  have f3 := hfs 3
  have x4 := hcs 4
  have f4 := hfs 4
  have x5 := hcs 5
  have f5 := hfs 5
  have x6 := hcs 6
  have f6 := hfs 6
  have x7 := hcs 7
  have f7 := hfs 7
  have x8 := hcs 8
  have f8 := hfs 8
  have x9 := hcs 9
  have f9 := hfs 9
  have x10 := hcs 10
  have f10 := hfs 10
  have x11 := hcs 11
  have f11 := hfs 11
  have x12 := hcs 12
  have f12 := hfs 12
  have x13 := hcs 13
  have f13 := hfs 13
  clear hcs hfs
  simp only [List.getElem?_toArray, List.getElem?_cons_zero, List.getElem?_cons_succ] at x0 x1 x2 x3 x4 x5 x6 x7 x8 x9 x10 x11 x12 x13
  have hz : rightR (re a1 0 0 0 []) = rightK a1 := by rw [re_right]; simp [rightK, two, four, rightPs, everyB]
  have HX2 := Lib.hid (show Bx (W.setCell ⟨w1.heap.size, 0, none⟩ (.int .i64 a1)) w1.heap.size #[.int .i64 a1, .int .i64 0, .int .i64 0, .int .i64 0, .string ⟨#[]⟩, .bool false, .string ⟨#[]⟩, .string ⟨#[]⟩, .int .i64 0, .int .i64 0, .slice none 0 0, .slice none 0 0, .slice none 0 0, .slice none 0 0] 29 from HX.out.set (i := 0) (.int .i64 a1))
  have HB2 := Lib.hid (HB.out.setCell (p := ⟨w1.heap.size, 0, none⟩) HB1.out.size (.int .i64 a1) : Below w.heap.size w (W.setCell ⟨w1.heap.size, 0, none⟩ (.int .i64 a1)))
  have HRM := Lib.hid (re_in (w := (W.setCell ⟨w1.heap.size, 0, none⟩ (.int .i64 a1))) (s := sl0) rv rng0 rng0 rng0 (IntsM.nil _ _ _))
  have PU := Lib.hid (show Calls Tryd.prog 12 #[.agg #[.int .i64 a1, .int .i64 0, .int .i64 0, .int .i64 0, .string ⟨#[]⟩, .bool false, .string ⟨#[]⟩, .string ⟨#[]⟩, .int .i64 0, .int .i64 0, .slice none 0 0, .slice none 0 0, .slice none 0 0, .slice none 0 0]] (W.setCell ⟨w1.heap.size, 0, none⟩ (.int .i64 a1)) fun e w' => e = .returned (.tuple #[.string (str (putS (re a1 0 0 0 []))), .bool (rightK a1)]) ∧ Below (W.setCell ⟨w1.heap.size, 0, none⟩ (.int .i64 a1)).heap.size (W.setCell ⟨w1.heap.size, 0, none⟩ (.int .i64 a1)) w' from by
    have h := put_any (re a1 0 0 0 []) ⟨sl0, sl0, sl0, sl0⟩ (W.setCell ⟨w1.heap.size, 0, none⟩ (.int .i64 a1)) HRM.out (Nat.le_refl _)
    rw [hz] at h
    exact h)
  have RI := Lib.hid (fun u (hb : Below (W.setCell ⟨w1.heap.size, 0, none⟩ (.int .i64 a1)).heap.size (W.setCell ⟨w1.heap.size, 0, none⟩ (.int .i64 a1)) u) => (show Calls Tryd.prog 14 #[.agg #[.int .i64 a1, .int .i64 0, .int .i64 0, .int .i64 0, .string ⟨#[]⟩, .bool false, .string ⟨#[]⟩, .string ⟨#[]⟩, .int .i64 0, .int .i64 0, .slice none 0 0, .slice none 0 0, .slice none 0 0, .slice none 0 0]] u fun e w' => e = .returned (.bool (rightK a1)) ∧ Below u.heap.size u w' from by
    have h := right_is (re a1 0 0 0 []) ⟨sl0, sl0, sl0, sl0⟩ u (HRM.out.kept hb) hb.size
    rw [hz] at h
    exact h))
  have PE := put_empty (r := re a1 0 0 0 [])
  rw [hz] at PE
  generalize str (putS (re a1 0 0 0 [])) = b at *
  clear hz
  by_cases h1 : 1 ≤ a1
  · by_cases h2 : a1 ≤ 7
    · rw [show rightK a1 = true from decide_eq_true ⟨h1, h2⟩] at PU RI PE
      have em1 : ¬ b.toList = [] := by simpa using PE
      have em2 : b.toList.isEmpty = false := by rw [List.isEmpty_eq_false_iff]; exact em1
      clear PE
      go_upto_region 18 with fail
      go_wp2_with fail
      refine PU.out.mono ?_; rintro e w3 ⟨rfl, hb⟩
      have HB3 := Lib.hid (HB2.out.trans (hb.mono HB2.out.size))
      have R3 := Lib.hid (RI.out w3 hb)
      have HX3 := Lib.hid (HX2.out.held hb)
      clear hb PU RI x0 f0 x1 f1 x2 f2 x3 f3 x4 f4 x5 f5 x6 f6 x7 f7 x8 f8 x9 f9 x10 f10 x11 f11 x12 f12 x13 f13
      have hcs := fun j => HX3.out.cell j
      have x0 := hcs 0
      have x1 := hcs 1
      have x2 := hcs 2
      have x3 := hcs 3
      have x4 := hcs 4
      have x5 := hcs 5
      have x6 := hcs 6
      have x7 := hcs 7
      have x8 := hcs 8
      have x9 := hcs 9
      have x10 := hcs 10
      have x11 := hcs 11
      have x12 := hcs 12
      have x13 := hcs 13
      clear hcs
      simp only [List.getElem?_toArray, List.getElem?_cons_zero, List.getElem?_cons_succ] at x0 x1 x2 x3 x4 x5 x6 x7 x8 x9 x10 x11 x12 x13
      go_wp2_with fail
      refine R3.out.mono ?_; rintro e w4 ⟨rfl, hb⟩
      have HB4 := Lib.hid (HB3.out.trans (hb.mono HB3.out.size))
      clear hb
      go_wp2_with fail
      go_ret
      exact ⟨rfl, HB4.out⟩
    · rw [show rightK a1 = false from decide_eq_false (fun h => h2 h.2)] at PU RI PE
      have em1 : b.toList = [] := by simpa using PE
      have em2 : b.toList.isEmpty = true := by rw [em1]; rfl
      clear PE
      go_upto_region 18 with fail
      go_wp2_with fail
      refine PU.out.mono ?_; rintro e w3 ⟨rfl, hb⟩
      have HB3 := Lib.hid (HB2.out.trans (hb.mono HB2.out.size))
      have R3 := Lib.hid (RI.out w3 hb)
      have HX3 := Lib.hid (HX2.out.held hb)
      clear hb PU RI x0 f0 x1 f1 x2 f2 x3 f3 x4 f4 x5 f5 x6 f6 x7 f7 x8 f8 x9 f9 x10 f10 x11 f11 x12 f12 x13 f13
      have hcs := fun j => HX3.out.cell j
      have x0 := hcs 0
      have x1 := hcs 1
      have x2 := hcs 2
      have x3 := hcs 3
      have x4 := hcs 4
      have x5 := hcs 5
      have x6 := hcs 6
      have x7 := hcs 7
      have x8 := hcs 8
      have x9 := hcs 9
      have x10 := hcs 10
      have x11 := hcs 11
      have x12 := hcs 12
      have x13 := hcs 13
      clear hcs
      simp only [List.getElem?_toArray, List.getElem?_cons_zero, List.getElem?_cons_succ] at x0 x1 x2 x3 x4 x5 x6 x7 x8 x9 x10 x11 x12 x13
      go_wp2_with fail
      refine R3.out.mono ?_; rintro e w4 ⟨rfl, hb⟩
      have HB4 := Lib.hid (HB3.out.trans (hb.mono HB3.out.size))
      clear hb
      go_wp2_with fail
      go_ret
      exact ⟨rfl, HB4.out⟩
  · rw [show rightK a1 = false from decide_eq_false (fun h => h1 h.1)] at PU RI PE
    have em1 : b.toList = [] := by simpa using PE
    have em2 : b.toList.isEmpty = true := by rw [em1]; rfl
    by_cases h0 : 0 ≤ a1
    · clear PE
      go_upto_region 18 with fail
      go_wp2_with fail
      refine PU.out.mono ?_; rintro e w3 ⟨rfl, hb⟩
      have HB3 := Lib.hid (HB2.out.trans (hb.mono HB2.out.size))
      have R3 := Lib.hid (RI.out w3 hb)
      have HX3 := Lib.hid (HX2.out.held hb)
      clear hb PU RI x0 f0 x1 f1 x2 f2 x3 f3 x4 f4 x5 f5 x6 f6 x7 f7 x8 f8 x9 f9 x10 f10 x11 f11 x12 f12 x13 f13
      have hcs := fun j => HX3.out.cell j
      have x0 := hcs 0
      have x1 := hcs 1
      have x2 := hcs 2
      have x3 := hcs 3
      have x4 := hcs 4
      have x5 := hcs 5
      have x6 := hcs 6
      have x7 := hcs 7
      have x8 := hcs 8
      have x9 := hcs 9
      have x10 := hcs 10
      have x11 := hcs 11
      have x12 := hcs 12
      have x13 := hcs 13
      clear hcs
      simp only [List.getElem?_toArray, List.getElem?_cons_zero, List.getElem?_cons_succ] at x0 x1 x2 x3 x4 x5 x6 x7 x8 x9 x10 x11 x12 x13
      go_wp2_with fail
      refine R3.out.mono ?_; rintro e w4 ⟨rfl, hb⟩
      have HB4 := Lib.hid (HB3.out.trans (hb.mono HB3.out.size))
      clear hb
      go_wp2_with fail
      go_ret
      exact ⟨rfl, HB4.out⟩
    · clear PE
      go_upto_region 18 with fail
      go_wp2_with fail
      refine PU.out.mono ?_; rintro e w3 ⟨rfl, hb⟩
      have HB3 := Lib.hid (HB2.out.trans (hb.mono HB2.out.size))
      have R3 := Lib.hid (RI.out w3 hb)
      have HX3 := Lib.hid (HX2.out.held hb)
      clear hb PU RI x0 f0 x1 f1 x2 f2 x3 f3 x4 f4 x5 f5 x6 f6 x7 f7 x8 f8 x9 f9 x10 f10 x11 f11 x12 f12 x13 f13
      have hcs := fun j => HX3.out.cell j
      have x0 := hcs 0
      have x1 := hcs 1
      have x2 := hcs 2
      have x3 := hcs 3
      have x4 := hcs 4
      have x5 := hcs 5
      have x6 := hcs 6
      have x7 := hcs 7
      have x8 := hcs 8
      have x9 := hcs 9
      have x10 := hcs 10
      have x11 := hcs 11
      have x12 := hcs 12
      have x13 := hcs 13
      clear hcs
      simp only [List.getElem?_toArray, List.getElem?_cons_zero, List.getElem?_cons_succ] at x0 x1 x2 x3 x4 x5 x6 x7 x8 x9 x10 x11 x12 x13
      go_wp2_with fail
      refine R3.out.mono ?_; rintro e w4 ⟨rfl, hb⟩
      have HB4 := Lib.hid (HB3.out.trans (hb.mono HB3.out.size))
      clear hb
      go_wp2_with fail
      go_ret
      exact ⟨rfl, HB4.out⟩

set_option maxHeartbeats 100000000 in
theorem walk (a0 a1 : Int) (w : World) (w0 : (Lit.int .i64 a0).wf = true) (w1 : (Lit.int .i64 a1).wf = true) (hn : NamesAt w) :
    Calls Tryd.prog 7 #[.int .i64 a0, .int .i64 a1] w fun e w' => e = .returned (.bool true) ∧ Below w.heap.size w w' := by
  have t0 : a0.tmod 5 < 5 := Int.tmod_lt_of_pos _ (by omega)
  have t1 : -5 < a0.tmod 5 := Int.lt_tmod_of_pos _ (by omega)
  have t3 : (a0.tmod 5 + 5).tmod 5 < 5 := Int.tmod_lt_of_pos _ (by omega)
  have t4 : 0 ≤ (a0.tmod 5 + 5).tmod 5 := Int.tmod_nonneg _ (by omega)
  have mm : (a0.tmod 5 + 5).tmod 5 = 0 ∨ (a0.tmod 5 + 5).tmod 5 = 1 ∨ (a0.tmod 5 + 5).tmod 5 = 2 ∨ (a0.tmod 5 + 5).tmod 5 = 3 ∨ (a0.tmod 5 + 5).tmod 5 = 4 := by omega
  rcases mm with hk | hk | hk | hk | hk
  · exact walk0 a0 a1 w w0 w1 hn hk
  · exact walk1 a0 a1 w w0 w1 hn hk
  · exact walk2 a0 a1 w w0 w1 hn hk
  · exact walk3 a0 a1 w w0 w1 hn hk
  · exact walk4 a0 a1 w w0 w1 hn hk

/-! The row's step. -/
set_option maxRecDepth 100000 in
theorem lifted (os : Os) (started : os.Started) (H : Type) (enc : TypeId × Value → H) :
    ReturnsInHanded {} Tryd.checked os 7 .any (fun w args => (Rows.recordEdgesSpec.pre enc Tryd.prog Tryd.f7 [] false w args ∧ laidMetH Tryd.prog laidL w) ∧ sizedMet enc Tryd.prog Tryd.f7 (OpenSpec.ofChange Rows.recordEdgesSpec) false w args)
      (Rows.recordEdgesSpec.post enc Tryd.prog Tryd.f7 false true false false) := by
  refine returnsInHanded_of_change_and (C := Tryd.checked) (X := fun w _ => laidMetH Tryd.prog laidL w) (fun _ _ _ hh h => h.of_heap hh) own started (by kernel_rfl) Tryd.func7
    (ChangeSpec.witness_shaped (enc := enc) (C := Tryd.checked) (os := os) (X := fun w _ => laidMetH Tryd.prog laidL w) false (World.doorLaid Tryd.prog 400 os) #[.int .i64 0, .int .i64 0] 8 rfl (World.shaped_of_RefB (by kernel_rfl) (by kernel_rfl)) (by kernel_rfl) (by kernel_rfl) (by kernel_rfl) (door_met os _)) ?_
  intro W base args ds gs before hval0 hW _ _ hL _
  have hval : ∀ (j : Nat) t v, Tryd.f7.params[j]? = some t → args[j]? = some v → Value.okWide Tryd.prog W .any base t v := hval0
  have hW' := hW
  obtain ⟨p, q, hA0, hV, rfl, hfz, hnd⟩ := hW
  have hA : DataW.TrodAll enc Tryd.prog W 0 (fun _ => true) true Tryd.f7.params.toList args.toList ds p := hA0
  rw [Tryd.params7] at hA hval
  obtain ⟨v0, vs0, d0, ds0, p0, q0, hargs, rfl, rfl, h0, r0⟩ := trodAll_cons hA
  obtain ⟨v1, vs1, d1, ds1, p1, q1, rfl, rfl, rfl, h1, r1⟩ := trodAll_cons r0
  obtain ⟨rfl, rfl, rfl⟩ := trodAll_nil r1
  obtain rfl : args = #[v0, v1] := by cases args; simp_all
  obtain ⟨rfl, rfl⟩ := trodVars_none hV
  obtain ⟨a0, rfl, rfl, rfl, w0⟩ := open_int Tryd.underlying3 (hval 0 3 v0 rfl rfl) h0
  obtain ⟨a1, rfl, rfl, rfl, w1⟩ := open_int Tryd.underlying3 (hval 1 3 v1 rfl rfl) h1
  clear hA0 hval0
  refine (walk a0 a1 W w0 w1 (of_laid hL)).mono fun e W' ⟨he, bel⟩ => ?_
  subst he
  exact ⟨_, rfl, _, _, _, [], _, [], hW', trodAll_mk1 (shut_bool Tryd.underlying4 _), (trodAll_cons_mk (shut_int Tryd.underlying3 w0) (trodAll_cons_mk (shut_int Tryd.underlying3 w1) trodAll_mk0)), rfl, bel.frame _, fun h => by cases h⟩

/-- The row's statement. -/
theorem over : Rows.RecordEdgesSaid :=
  OpenClaim.holds_of_wide 7 Tryd.f7 rfl rfl rfl rfl rfl rfl rfl ⟨rfl, rfl, rfl, rfl, rfl⟩ rfl rfl rfl rfl rfl (by kernel_rfl) Tryd.func7 (by kernel_rfl)
    (of_decide_eq_true (by kernel_rfl)) (by unfold Func.isWrapper; first | (rw [if_pos (by decide +kernel)]; kernel_rfl) | (rw [if_neg (by decide +kernel)]; exact ⟨rfl, rfl⟩))
    (fun os started H enc _ => lifted os started H enc)

/-- The card. -/
theorem proved : Rows.RecordEdgesCardSaid :=
  Claim7.holds_tied_plain_at .later [] [.data] true Rows.recordEdgesCard.stood.harness false
    over (fun _ h => by cases h) (by kernel_rfl) (fun _ h => by cases h) recordEdges_row_tie rfl ⟨rfl, rfl⟩ (by kernel_rfl) rfl
    (fun f fn hf hfn => by
      obtain rfl : f = 7 := Option.some.inj ((show Tryd.prog.funcNamed "honeycomb/honeycomblaw12.RecordEdges" = some 7 by kernel_rfl).symm.trans hf) |>.symm
      obtain rfl : fn = Tryd.f7 := (Option.some.inj (Tryd.func7.symm.trans hfn)).symm
      exact ⟨by kernel_rfl, fun j t ht => by
        rw [Tryd.params7] at ht
        have hm : t ∈ [3, 3] := by simpa using Array.mem_of_getElem? ht
        have hall : ([3, 3].all fun u => !Tryd.prog.wantsStandIn u) = true := by kernel_rfl
        exact (show Tryd.prog.wantsStandIn t = false by simpa using List.all_eq_true.1 hall t hm)⟩)
    (by kernel_rfl)
end Go.Proofs.YtbmnagfjpenemaaDoor.recordEdges
