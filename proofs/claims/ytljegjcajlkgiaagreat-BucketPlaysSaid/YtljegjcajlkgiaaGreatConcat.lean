/- The contracts of slices.Grow (of no slice) and of slices.Concat of three lists of cells. -/
import Derived.Test.YtljegjcajlkgiaaGreatMem
import Derived.Lib.AppendZerosOnto
import Derived.Lib.Builder
import Derived.Lib.SliceRun
import Derived.Deep.OwnRows
namespace Go.Proofs.YtljegjcajlkgiaaGreat
open Go.ChangeShapes Go.WideShapes Go.ChangeAt Go.RowKit
set_option linter.unusedVariables false
set_option linter.unusedSimpArgs false
set_option maxRecDepth 100000
theorem size_zeroC (v : Array Value) (k : Nat) : (Builtin.zeroCells v k).size = v.size * k := by
  simp [Builtin.zeroCells, Nat.mul_comm]
set_option maxHeartbeats 1000000 in
theorem grow_any (n : Nat) (hn : n ≤ 1000000) (w : World) : Calls Tryz.prog 78 #[.slice none 0 0, .int .i64 n] w fun e w' => ∃ A c, e = .returned (.slice A 0 c) ∧ w'.ownsRow w.heap.size 42 4 (.slice A 0 c) 0 [] ∧ Below w.heap.size w w' := by
  obtain ⟨i0, hi, hz0, hz1, hz2⟩ := info_parts info_c
  by_cases h0 : n = 0
  · subst h0
    go_enter Tryz.func78, Tryz.ntmps78
    go_wp2_with fail
    go_ret
    exact ⟨none, 0, rfl, World.ownsRow_nil _ _ _ _, Below.refl _ _⟩
  · have hr : ∀ ty, (Builtin.append_ #[26, 3] ty #[.slice none 0 0, .int .i64 n]).run Tryz.prog w = _ := fun ty => Lib.run_append_grow_zeros (P := Tryz.prog) w 26 3 ty 42 i0 (.agg #[.string ⟨#[]⟩, .string ⟨#[]⟩, .int .i64 0, .int .i64 0]) .i64 .i64 Tryz.underlying26 Tryz.underlying3 hi hz0 none 0 0 [] (run_firstCells_none w.drew i0.size 0 0 0) n (by omega) (by omega) (by omega) (by omega) (by rw [hz2]; omega) (by rw [hz2]; exact growslice_fits (by omega) (by omega))
    have b0 : ¬ (n : Int) < 0 := by omega
    have b1 : (n : Int) > 0 := by omega
    have b1' : (0 : Int) < (n : Int) := by omega
    have b2 : IntKind.i64.wrap (n : Int) = (n : Int) := IntWalk.i64_in _ (by omega)
    have b3 : wrap64 (n : Int) = (n : Int) := by unfold wrap64; omega
    rw [Nat.zero_add] at hr
    have HG := Lib.hid (grownCap_ge w n 0 42)
    have HM := Lib.hid (grownCap_le_maxLen w n 0 42 (by unfold maxLen; omega))
    generalize grownCap w n 0 42 = G at *
    have HO := Lib.hid (show (w.drew.alloc (.cells (([] : List Value).toArray ++ Builtin.zeroCells (Value.cells (.agg #[.string ⟨#[]⟩, .string ⟨#[]⟩, .int .i64 0, .int .i64 0])) n ++ Builtin.zeroCells (Value.cells (.agg #[.string ⟨#[]⟩, .string ⟨#[]⟩, .int .i64 0, .int .i64 0])) (G - n)) 42)).ownsRow w.heap.size 42 4 (.slice (some ⟨w.heap.size, 0, none⟩) 0 G) 0 [] from
      ⟨rfl, .inr ⟨w.heap.size, G, _, rfl, Nat.le_refl _, heap_alloc_new w.drew _, Nat.zero_le _, HM.out, by
        have := HG.out
        simp only [Array.size_append, size_zeroC, List.size_toArray, List.length_nil, show (Value.cells (.agg #[.string ⟨#[]⟩, .string ⟨#[]⟩, .int .i64 0, .int .i64 0])).size = 4 from rfl]
        omega, by simp⟩⟩)
    have HB := Lib.hid ((Below.refl w.heap.size w).drew.alloc (Nat.le_refl _) (.cells (([] : List Value).toArray ++ Builtin.zeroCells (Value.cells (.agg #[.string ⟨#[]⟩, .string ⟨#[]⟩, .int .i64 0, .int .i64 0])) n ++ Builtin.zeroCells (Value.cells (.agg #[.string ⟨#[]⟩, .string ⟨#[]⟩, .int .i64 0, .int .i64 0])) (G - n)) 42))
    generalize (w.drew.alloc (.cells (([] : List Value).toArray ++ Builtin.zeroCells (Value.cells (.agg #[.string ⟨#[]⟩, .string ⟨#[]⟩, .int .i64 0, .int .i64 0])) n ++ Builtin.zeroCells (Value.cells (.agg #[.string ⟨#[]⟩, .string ⟨#[]⟩, .int .i64 0, .int .i64 0])) (G - n)) 42)) = W at *
    clear hi hz0 hz1 hz2
    go_enter Tryz.func78, Tryz.ntmps78
    go_wp2_with (at_builtin; refine Lib.wpList_append_run _ rfl _ _ _ _ rfl _ _ rfl rfl _ _ (hr _) ?_)
    go_ret
    exact ⟨_, _, rfl, HO.out, HB.out⟩
theorem Ces.srcn {C n : Nat} {w : World} {A : Option Addr} {l : List Ce} (h : Ces C w A l) (hn : l.length = n) : Src w 4 A n (ccs l) := by subst hn; exact h.src
def NewC (l : List Ce) (w : World) (e : Ending) (w' : World) : Prop := ∃ A c, e = .returned (.slice A l.length c) ∧ Own w.heap.size w' (.slice A l.length c) l ∧ Below w.heap.size w w'
set_option maxHeartbeats 2000000 in
theorem concat_any {b n1 n2 n3 c1 c2 c3 : Nat} {A1 A2 A3 : Option Addr} {l1 l2 l3 : List Ce} (w : World) (hb : b < w.heap.size)
    (h1 : w.cell? ⟨b, 0, none⟩ = some (.slice A1 n1 c1)) (h2 : w.cell? ⟨b, 1, none⟩ = some (.slice A2 n2 c2)) (h3 : w.cell? ⟨b, 2, none⟩ = some (.slice A3 n3 c3))
    (k1 : Ces w.heap.size w A1 l1) (k2 : Ces w.heap.size w A2 l2) (k3 : Ces w.heap.size w A3 l3) (m1 : l1.length = n1) (m2 : l2.length = n2) (m3 : l3.length = n3) (x1 : n1 ≤ 100000) (x2 : n2 ≤ 100000) (x3 : n3 ≤ 100000) :
    Calls Tryz.prog 24 #[.slice (some ⟨b, 0, none⟩) 3 3] w fun e w' => NewC (l1 ++ l2 ++ l3) w e w' := by
  obtain ⟨i0, hi, hz0, hz1, hz2⟩ := info_parts info_c
  have GR := Lib.hid (fun w => grow_any (n1 + n2 + n3) (by omega) w)
  have y1 : (n1 : Int) ≤ 100000 := by omega
  have y2 : (n2 : Int) ≤ 100000 := by omega
  have y3 : (n3 : Int) ≤ 100000 := by omega
  have z1 : (0 : Int) ≤ (n1 : Int) := by omega
  have z2 : (0 : Int) ≤ (n2 : Int) := by omega
  have z3 : (0 : Int) ≤ (n3 : Int) := by omega
  have e2 : IntKind.i64.wrap ((n1 : Int) + (n2 : Int)) = (n1 : Int) + (n2 : Int) := IntWalk.i64_in _ (by omega)
  have e3 : IntKind.i64.wrap ((n1 : Int) + (n2 : Int) + (n3 : Int)) = (n1 : Int) + (n2 : Int) + (n3 : Int) := IntWalk.i64_in _ (by omega)
  have f2 : ¬ ((n1 : Int) + (n2 : Int) < 0) := by omega
  have f3 : ¬ ((n1 : Int) + (n2 : Int) + (n3 : Int) < 0) := by omega
  have HK1 := Lib.hid k1
  have HK2 := Lib.hid k2
  have HK3 := Lib.hid k3
  have HM := Lib.hid (And.intro m1 (And.intro m2 m3))
  have HN : Hid (((n1 + n2 + n3 : Nat) : Int) = (n1 : Int) + (n2 : Int) + (n3 : Int)) := by show _ = _; omega
  clear k1 k2 k3 m1 m2 m3
  rw [HN.out] at GR
  go_enter Tryz.func24, Tryz.ntmps24
  go_wp2_with fail
  refine wp_loop_rounds 4 ?_
  rw [rounds_succ]
  go_wp2_with fail
  rw [rounds_succ]
  go_wp2_with fail
  rw [rounds_succ]
  go_wp2_with fail
  rw [rounds_succ]
  go_wp2_with fail
  refine (GR.out _).mono ?_; rintro e w1 ⟨A, c, rfl, hown, hbel⟩
  have HB1 := Lib.hid hbel
  have HO1 := Lib.hid hown
  clear hown hbel
  have g11 := (HB1.out.cell (p := ⟨b, 0, none⟩) hb).trans h1
  have g12 := (HB1.out.cell (p := ⟨b, 1, none⟩) hb).trans h2
  have g13 := (HB1.out.cell (p := ⟨b, 2, none⟩) hb).trans h3
  go_wp2_with fail
  refine wp_loop_rounds 4 ?_
  rw [rounds_succ]
  go_wp2_with (at_builtin; refine wpList_append_src _ rfl _ _ 26 rfl 42 i0 (.agg #[.string ⟨#[]⟩, .string ⟨#[]⟩, .int .i64 0, .int .i64 0]) 4 48 Tryz.underlying26 hi hz0 hz1 hz2 rfl (by decide) w.heap.size _ (0) ([]) rfl HO1.out A1 n1 c1 (ccs l1) rfl ((HK1.out.kept HB1.out).srcn HM.out.1) (ccs_one l1) (by unfold maxLen; omega) (by omega) HB1.out.size ?_; intro v1 w2 hown1 hgrow1 _; simp only [Nat.zero_add, List.nil_append] at hown1; obtain ⟨B1, d1, rfl⟩ := own_shape hown1)
  have HB2 := Lib.hid (HB1.out.grown hgrow1 HB1.out.size (fun g hg => (HO1.out.lt g hg).1))
  have HO2 := Lib.hid hown1
  clear hown1 hgrow1
  have g22 := (HB2.out.cell (p := ⟨b, 1, none⟩) hb).trans h2
  have g23 := (HB2.out.cell (p := ⟨b, 2, none⟩) hb).trans h3
  go_wp2_with fail
  rw [rounds_succ]
  go_wp2_with (at_builtin; refine wpList_append_src _ rfl _ _ 26 rfl 42 i0 (.agg #[.string ⟨#[]⟩, .string ⟨#[]⟩, .int .i64 0, .int .i64 0]) 4 48 Tryz.underlying26 hi hz0 hz1 hz2 rfl (by decide) w.heap.size _ (n1) (ccs l1) rfl HO2.out A2 n2 c2 (ccs l2) rfl ((HK2.out.kept HB2.out).srcn HM.out.2.1) (ccs_one l2) (by unfold maxLen; omega) (by omega) HB2.out.size ?_; intro v2 w3 hown2 hgrow2 _; obtain ⟨B2, d2, rfl⟩ := own_shape hown2)
  have HB3 := Lib.hid (HB2.out.grown hgrow2 HB2.out.size (fun g hg => (HO2.out.lt g hg).1))
  have HO3 := Lib.hid hown2
  clear hown2 hgrow2
  have g33 := (HB3.out.cell (p := ⟨b, 2, none⟩) hb).trans h3
  go_wp2_with fail
  rw [rounds_succ]
  go_wp2_with (at_builtin; refine wpList_append_src _ rfl _ _ 26 rfl 42 i0 (.agg #[.string ⟨#[]⟩, .string ⟨#[]⟩, .int .i64 0, .int .i64 0]) 4 48 Tryz.underlying26 hi hz0 hz1 hz2 rfl (by decide) w.heap.size _ (n1 + n2) (ccs l1 ++ ccs l2) rfl HO3.out A3 n3 c3 (ccs l3) rfl ((HK3.out.kept HB3.out).srcn HM.out.2.2) (ccs_one l3) (by unfold maxLen; omega) (by omega) HB3.out.size ?_; intro v3 w4 hown3 hgrow3 _; obtain ⟨B3, d3, rfl⟩ := own_shape hown3)
  have HB4 := Lib.hid (HB3.out.grown hgrow3 HB3.out.size (fun g hg => (HO3.out.lt g hg).1))
  have HO4 := Lib.hid hown3
  clear hown3 hgrow3
  go_wp2_with fail
  rw [rounds_succ]
  go_wp2_with fail
  go_ret
  have hl : (l1 ++ l2 ++ l3).length = n1 + n2 + n3 := by
    obtain ⟨q1, q2, q3⟩ := HM.out
    rw [List.length_append, List.length_append, q1, q2, q3]
  refine ⟨B3, d3, by rw [hl]; rfl, ?_, HB4.out⟩
  unfold Own
  rw [hl, ccs_append, ccs_append]
  exact HO4.out
end Go.Proofs.YtljegjcajlkgiaaGreat
