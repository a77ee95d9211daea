/- Which may be: numbers, patches, cells, lists, transactions, records. -/
import Derived.Test.YtbmnagfjpenemaaGreatDoorLists
import Derived.Deep.RegionHeld3
namespace Go.Proofs.YtbmnagfjpenemaaGreatDoor
open Go.ChangeShapes Go.WideShapes Go.ChangeAt Go.RowKit
set_option linter.unusedVariables false
set_option linter.unusedSimpArgs false
set_option maxRecDepth 100000
theorem number_is (v : Int) (h : rng v) (w : World) : Calls Tryz.prog 32 #[.int .i64 v] w fun e w' => e = .returned (.bool (two v)) ∧ w = w' := by
  obtain ⟨h1, h2⟩ := h
  by_cases h : 0 ≤ v ∧ v ≤ 65535
  · rw [show two v = true from decide_eq_true h]
    have hw : IntKind.u64.wrap v = v := by rw [IntKind.wrap_u64]; omega
    have hn : IntKind.u64.wrap v ≤ 65535 := by rw [hw]; exact h.2
    have hn2 : v ≤ 65535 := h.2
    clear h h1 h2 hw
    go_enter Tryz.func32, Tryz.ntmps32
    go_wp2_with fail
    go_ret
    exact ⟨rfl, rfl⟩
  · rw [show two v = false from decide_eq_false h]
    have hu := wrap_out v 65535 (by omega) h1 h2 (by omega)
    have hn : ¬ IntKind.u64.wrap v ≤ 65535 := by omega
    clear h h1 h2 hu
    go_enter Tryz.func32, Tryz.ntmps32
    go_wp2_with fail
    go_ret
    exact ⟨rfl, rfl⟩
theorem lsn_is (v : Int) (h : rng v) (w : World) : Calls Tryz.prog 33 #[.int .i64 v] w fun e w' => e = .returned (.bool (four v)) ∧ w = w' := by
  obtain ⟨h1, h2⟩ := h
  by_cases h : 0 ≤ v ∧ v ≤ 4294967295
  · rw [show four v = true from decide_eq_true h]
    have hw : IntKind.u64.wrap v = v := by rw [IntKind.wrap_u64]; omega
    have hn : IntKind.u64.wrap v ≤ 4294967295 := by rw [hw]; exact h.2
    have hn2 : v ≤ 4294967295 := h.2
    clear h h1 h2 hw
    go_enter Tryz.func33, Tryz.ntmps33
    go_wp2_with fail
    go_ret
    exact ⟨rfl, rfl⟩
  · rw [show four v = false from decide_eq_false h]
    have hu := wrap_out v 4294967295 (by omega) h1 h2 (by omega)
    have hn : ¬ IntKind.u64.wrap v ≤ 4294967295 := by omega
    clear h h1 h2 hu
    go_enter Tryz.func33, Tryz.ntmps33
    go_wp2_with fail
    go_ret
    exact ⟨rfl, rfl⟩
theorem kind_is (v : Int) (w : World) : Calls Tryz.prog 31 #[.int .i64 v] w fun e w' => e = .returned (.bool (rightK v)) ∧ w = w' := by
  by_cases h1 : 1 ≤ v
  · by_cases h2 : v ≤ 7
    · rw [show rightK v = true from decide_eq_true ⟨h1, h2⟩]
      go_enter Tryz.func31, Tryz.ntmps31
      go_wp2_with fail
      go_ret
      exact ⟨rfl, rfl⟩
    · rw [show rightK v = false from decide_eq_false (fun h => h2 h.2)]
      go_enter Tryz.func31, Tryz.ntmps31
      go_wp2_with fail
      go_ret
      exact ⟨rfl, rfl⟩
  · rw [show rightK v = false from decide_eq_false (fun h => h1 h.1)]
    go_enter Tryz.func31, Tryz.ntmps31
    go_wp2_with fail
    go_ret
    exact ⟨rfl, rfl⟩
theorem exists_is (v : Int) (w : World) : Calls Tryz.prog 110 #[.int .i64 v] w fun e w' => e = .returned (.bool (decide (0 ≤ v ∧ v < 64))) ∧ w = w' := by
  by_cases h1 : 0 ≤ v
  · by_cases h2 : v < 64
    · rw [decide_eq_true (show 0 ≤ v ∧ v < 64 from ⟨h1, h2⟩)]
      go_enter Tryz.func110, Tryz.ntmps110
      go_wp2_with fail
      go_ret
      exact ⟨rfl, rfl⟩
    · rw [decide_eq_false (show ¬ (0 ≤ v ∧ v < 64) from fun h => h2 h.2)]
      go_enter Tryz.func110, Tryz.ntmps110
      go_wp2_with fail
      go_ret
      exact ⟨rfl, rfl⟩
  · rw [decide_eq_false (show ¬ (0 ≤ v ∧ v < 64) from fun h => h1 h.1)]
    go_enter Tryz.func110, Tryz.ntmps110
    go_wp2_with fail
    go_ret
    exact ⟨rfl, rfl⟩
theorem within_is (v a b : Int) (w : World) : Calls Tryz.prog 158 #[.int .i64 v, .int .i64 a, .int .i64 b] w fun e w' => e = .returned (.bool (decide (a ≤ v ∧ v ≤ b))) ∧ w = w' := by
  by_cases h1 : a ≤ v
  · by_cases h2 : v ≤ b
    · rw [decide_eq_true (show a ≤ v ∧ v ≤ b from ⟨h1, h2⟩)]
      go_enter Tryz.func158, Tryz.ntmps158
      go_wp2_with fail
      go_ret
      exact ⟨rfl, rfl⟩
    · rw [decide_eq_false (show ¬ (a ≤ v ∧ v ≤ b) from fun h => h2 h.2)]
      go_enter Tryz.func158, Tryz.ntmps158
      go_wp2_with fail
      go_ret
      exact ⟨rfl, rfl⟩
  · rw [decide_eq_false (show ¬ (a ≤ v ∧ v ≤ b) from fun h => h1 h.1)]
    go_enter Tryz.func158, Tryz.ntmps158
    go_wp2_with fail
    go_ret
    exact ⟨rfl, rfl⟩
theorem key_is (s : ByteArray) (w : World) : Calls Tryz.prog 157 #[.string s] w fun e w' => e = .returned (.bool (decide (1 ≤ s.size ∧ s.size ≤ 16))) ∧ w = w' := by
  by_cases h1 : 1 ≤ s.size
  · have b1 : (1 : Int) ≤ (s.size : Int) := by omega
    by_cases h2 : s.size ≤ 16
    · have b2 : (s.size : Int) ≤ 16 := by omega
      rw [decide_eq_true (show 1 ≤ s.size ∧ s.size ≤ 16 from ⟨h1, h2⟩)]
      go_enter Tryz.func157, Tryz.ntmps157
      go_wp2_with fail
      go_ret
      exact ⟨rfl, rfl⟩
    · have b2 : ¬ (s.size : Int) ≤ 16 := by omega
      rw [decide_eq_false (show ¬ (1 ≤ s.size ∧ s.size ≤ 16) from fun h => h2 h.2)]
      go_enter Tryz.func157, Tryz.ntmps157
      go_wp2_with fail
      go_ret
      exact ⟨rfl, rfl⟩
  · have b1 : ¬ (1 : Int) ≤ (s.size : Int) := by omega
    rw [decide_eq_false (show ¬ (1 ≤ s.size ∧ s.size ≤ 16) from fun h => h1 h.1)]
    go_enter Tryz.func157, Tryz.ntmps157
    go_wp2_with fail
    go_ret
    exact ⟨rfl, rfl⟩
theorem pt_is (p : Pt) (hp : PtW p) (w : World) : Calls Tryz.prog 37 #[ptv p] w fun e w' => e = .returned (.bool (rightP p)) ∧ Below w.heap.size w w' := by
  obtain ⟨r1, r2, r3⟩ := hp
  unfold rng at r1 r2
  unfold maxLen at r3
  obtain ⟨pg, ofs, bs⟩ := p
  simp only at r1 r2 r3
  unfold ptv
  have EX := Lib.hid (fun w => exists_is pg w)
  have HA := Lib.hid ((Below.refl w.heap.size w).alloc (Nat.le_refl _) (.cells #[.int .i64 pg, .int .i64 ofs, .string bs] 59))
  have HX := Bx.new w #[.int .i64 pg, .int .i64 ofs, .string bs] 59
  have x0 := HX.cell 0
  have x1 := HX.cell 1
  have x2 := HX.cell 2
  clear HX
  simp at x0 x1 x2
  have e1 : IntKind.i64.wrap (256 - (bs.size : Int)) = 256 - (bs.size : Int) := IntWalk.i64_in _ (by omega)
  by_cases h1 : 0 ≤ pg ∧ pg < 64
  · rw [decide_eq_true h1] at EX
    by_cases h2 : 0 ≤ ofs
    · by_cases h3 : 0 < bs.size
      · have b3 : (bs.size : Int) > 0 := by omega
        by_cases h4 : ofs + bs.size ≤ 256
        · have b4 : ofs ≤ 256 - (bs.size : Int) := by omega
          rw [show rightP ⟨pg, ofs, bs⟩ = true from decide_eq_true ⟨h1.1, h1.2, h2, h3, h4⟩]
          clear h1 h3 h4 r1 r2
          go_enter Tryz.func37, Tryz.ntmps37
          go_wp2_with fail
          refine (EX.out _).mono ?_; rintro e w1 ⟨rfl, rfl⟩
          go_wp2_with fail
          go_ret
          exact ⟨rfl, HA.out⟩
        · have B4 := Lib.hid (show ¬ ofs ≤ 256 - (bs.size : Int) from by omega)
          rw [show rightP ⟨pg, ofs, bs⟩ = false from decide_eq_false (fun h => h4 h.2.2.2.2)]
          clear h1 h3 h4 r1 r2
          go_enter Tryz.func37, Tryz.ntmps37
          go_wp2_with fail
          refine (EX.out _).mono ?_; rintro e w1 ⟨rfl, rfl⟩
          go_wp2_with fail
          go_ret
          exact ⟨congrArg (fun b => Ending.returned (Value.bool b)) (decide_eq_false (by have := B4.out; omega)), HA.out⟩
      · have b3 : ¬ (bs.size : Int) > 0 := by omega
        rw [show rightP ⟨pg, ofs, bs⟩ = false from decide_eq_false (fun h => h3 h.2.2.2.1)]
        clear h1 h3 r1 r2
        go_enter Tryz.func37, Tryz.ntmps37
        go_wp2_with fail
        refine (EX.out _).mono ?_; rintro e w1 ⟨rfl, rfl⟩
        go_wp2_with fail
        go_ret
        exact ⟨rfl, HA.out⟩
    · rw [show rightP ⟨pg, ofs, bs⟩ = false from decide_eq_false (fun h => h2 h.2.2.1)]
      clear h1 r1 r2
      go_enter Tryz.func37, Tryz.ntmps37
      go_wp2_with fail
      refine (EX.out _).mono ?_; rintro e w1 ⟨rfl, rfl⟩
      go_wp2_with fail
      go_ret
      exact ⟨rfl, HA.out⟩
  · rw [decide_eq_false h1] at EX
    rw [show rightP ⟨pg, ofs, bs⟩ = false from decide_eq_false (fun h => h1 ⟨h.1, h.2.1⟩)]
    clear h1 r1 r2
    go_enter Tryz.func37, Tryz.ntmps37
    go_wp2_with fail
    refine (EX.out _).mono ?_; rintro e w1 ⟨rfl, rfl⟩
    go_wp2_with fail
    go_ret
    exact ⟨rfl, HA.out⟩
theorem rightC_iff {c : Cl} : rightC c = true ↔ (1 ≤ c.k.size ∧ c.k.size ≤ 16) ∧ (if c.b = 0 then c.v.size ≤ 40 ∧ c.z = 0 else 2 ≤ c.b ∧ c.b ≤ 63 ∧ c.v.size = 0 ∧ 41 ≤ c.z ∧ c.z ≤ 400) := by
  unfold rightC
  rw [Bool.and_eq_true, decide_eq_true_eq]
  split <;> simp
theorem rightC_no {c : Cl} (h : ¬ ((1 ≤ c.k.size ∧ c.k.size ≤ 16) ∧ (if c.b = 0 then c.v.size ≤ 40 ∧ c.z = 0 else 2 ≤ c.b ∧ c.b ≤ 63 ∧ c.v.size = 0 ∧ 41 ≤ c.z ∧ c.z ≤ 400))) : rightC c = false := by
  rw [Bool.eq_false_iff]
  exact fun hh => h (rightC_iff.1 hh)
theorem empty_iff (s : ByteArray) : s.toList = [] ↔ s.size = 0 := by
  rw [Lib.toList_data]
  constructor
  · intro h; rw [← size_data, h]; rfl
  · intro h; rw [← size_data] at h; exact List.eq_nil_of_length_eq_zero h
theorem cl_is (k v : ByteArray) (b z : Int) (w : World) : Calls Tryz.prog 108 #[.agg #[.string k, .string v, .int .i64 b, .int .i64 z]] w fun e w' => e = .returned (.bool (rightC ⟨k, v, b, z⟩)) ∧ Below w.heap.size w w' := by
  have KY := Lib.hid (fun w => key_is k w)
  have WB := Lib.hid (fun w => within_is b 2 63 w)
  have WZ := Lib.hid (fun w => within_is z 41 400 w)
  have HA := Lib.hid ((Below.refl w.heap.size w).alloc (Nat.le_refl _) (.cells #[.string k, .string v, .int .i64 b, .int .i64 z] 23))
  have HX := Bx.new w #[.string k, .string v, .int .i64 b, .int .i64 z] 23
  have x0 := HX.cell 0
  have x1 := HX.cell 1
  have x2 := HX.cell 2
  have x3 := HX.cell 3
  clear HX
  simp at x0 x1 x2 x3
  by_cases h1 : 1 ≤ k.size ∧ k.size ≤ 16
  · rw [decide_eq_true h1] at KY
    by_cases h2 : b = 0
    · subst h2
      by_cases h3 : v.size ≤ 40
      · have b3 : (v.size : Int) ≤ 40 := by omega
        by_cases h4 : z = 0
        · rw [show rightC ⟨k, v, 0, z⟩ = true from rightC_iff.2 ⟨h1, by simp only [if_true]; exact ⟨h3, h4⟩⟩]
          subst h4
          clear h1 h3
          go_enter Tryz.func108, Tryz.ntmps108
          go_wp2_with fail
          refine (KY.out _).mono ?_; rintro e w1 ⟨rfl, rfl⟩
          go_wp2_with fail
          go_ret
          exact ⟨rfl, HA.out⟩
        · have hz : (z == 0) = false := by rw [beq_eq_false_iff_ne]; exact h4
          rw [show rightC ⟨k, v, 0, z⟩ = false from rightC_no (fun h => by have := h.2; simp only [if_true] at this; exact h4 this.2)]
          clear h1 h3
          go_enter Tryz.func108, Tryz.ntmps108
          go_wp2_with fail
          refine (KY.out _).mono ?_; rintro e w1 ⟨rfl, rfl⟩
          go_wp2_with fail
          go_ret
          exact ⟨rfl, HA.out⟩
      · have b3 : ¬ (v.size : Int) ≤ 40 := by omega
        rw [show rightC ⟨k, v, 0, z⟩ = false from rightC_no (fun h => by have := h.2; simp only [if_true] at this; exact h3 this.1)]
        clear h1 h3
        go_enter Tryz.func108, Tryz.ntmps108
        go_wp2_with fail
        refine (KY.out _).mono ?_; rintro e w1 ⟨rfl, rfl⟩
        go_wp2_with fail
        go_ret
        exact ⟨rfl, HA.out⟩
    · have hb0 : (b == 0) = false := by rw [beq_eq_false_iff_ne]; exact h2
      by_cases h3 : 2 ≤ b ∧ b ≤ 63
      · rw [decide_eq_true h3] at WB
        by_cases h4 : v.size = 0
        · have t1 := (empty_iff v).2 h4
          have t2 : v.toList.isEmpty = true := by rw [t1]; rfl
          by_cases h5 : 41 ≤ z ∧ z ≤ 400
          · rw [decide_eq_true h5] at WZ
            rw [show rightC ⟨k, v, b, z⟩ = true from rightC_iff.2 ⟨h1, by simp only [h2, if_false]; exact ⟨h3.1, h3.2, h4, h5.1, h5.2⟩⟩]
            clear h1 h3 h4 h5
            go_enter Tryz.func108, Tryz.ntmps108
            go_wp2_with fail
            refine (KY.out _).mono ?_; rintro e w1 ⟨rfl, rfl⟩
            go_wp2_with fail
            refine (WB.out _).mono ?_; rintro e w1 ⟨rfl, rfl⟩
            go_wp2_with fail
            refine (WZ.out _).mono ?_; rintro e w1 ⟨rfl, rfl⟩
            go_wp2_with fail
            go_ret
            exact ⟨rfl, HA.out⟩
          · rw [decide_eq_false h5] at WZ
            rw [show rightC ⟨k, v, b, z⟩ = false from rightC_no (fun h => by have := h.2; simp only [h2, if_false] at this; exact h5 ⟨this.2.2.2.1, this.2.2.2.2⟩)]
            clear h1 h3 h4 h5
            go_enter Tryz.func108, Tryz.ntmps108
            go_wp2_with fail
            refine (KY.out _).mono ?_; rintro e w1 ⟨rfl, rfl⟩
            go_wp2_with fail
            refine (WB.out _).mono ?_; rintro e w1 ⟨rfl, rfl⟩
            go_wp2_with fail
            refine (WZ.out _).mono ?_; rintro e w1 ⟨rfl, rfl⟩
            go_wp2_with fail
            go_ret
            exact ⟨rfl, HA.out⟩
        · have t1 : ¬ v.toList = [] := fun h => h4 ((empty_iff v).1 h)
          have t2 : v.toList.isEmpty = false := by rw [List.isEmpty_eq_false_iff]; exact t1
          rw [show rightC ⟨k, v, b, z⟩ = false from rightC_no (fun h => by have := h.2; simp only [h2, if_false] at this; exact h4 this.2.2.1)]
          clear h1 h3 h4
          go_enter Tryz.func108, Tryz.ntmps108
          go_wp2_with fail
          refine (KY.out _).mono ?_; rintro e w1 ⟨rfl, rfl⟩
          go_wp2_with fail
          refine (WB.out _).mono ?_; rintro e w1 ⟨rfl, rfl⟩
          go_wp2_with fail
          go_ret
          exact ⟨rfl, HA.out⟩
      · rw [decide_eq_false h3] at WB
        rw [show rightC ⟨k, v, b, z⟩ = false from rightC_no (fun h => by have := h.2; simp only [h2, if_false] at this; exact h3 ⟨this.1, this.2.1⟩)]
        clear h1 h3
        go_enter Tryz.func108, Tryz.ntmps108
        go_wp2_with fail
        refine (KY.out _).mono ?_; rintro e w1 ⟨rfl, rfl⟩
        go_wp2_with fail
        refine (WB.out _).mono ?_; rintro e w1 ⟨rfl, rfl⟩
        go_wp2_with fail
        go_ret
        exact ⟨rfl, HA.out⟩
  · rw [decide_eq_false h1] at KY
    rw [show rightC ⟨k, v, b, z⟩ = false from rightC_no (fun h => h1 h.1)]
    clear h1
    go_enter Tryz.func108, Tryz.ntmps108
    go_wp2_with fail
    refine (KY.out _).mono ?_; rintro e w1 ⟨rfl, rfl⟩
    go_wp2_with fail
    go_ret
    exact ⟨rfl, HA.out⟩
theorem zeroC_no {c : Cl} (h : ¬ (c.k.size = 0 ∧ c.v.size = 0 ∧ c.b = 0 ∧ c.z = 0)) : zeroC c = false := decide_eq_false h
theorem old_is (k v : ByteArray) (b z : Int) (w : World) : Calls Tryz.prog 34 #[.agg #[.string k, .string v, .int .i64 b, .int .i64 z]] w fun e w' => e = .returned (.bool (rightO ⟨k, v, b, z⟩)) ∧ Below w.heap.size w w' := by
  have CL := Lib.hid (fun w => cl_is k v b z w)
  have HA := Lib.hid ((Below.refl w.heap.size w).alloc (Nat.le_refl _) (.cells #[.string k, .string v, .int .i64 b, .int .i64 z] 23))
  have HX := Bx.new w #[.string k, .string v, .int .i64 b, .int .i64 z] 23
  have x0 := HX.cell 0
  have x1 := HX.cell 1
  have x2 := HX.cell 2
  have x3 := HX.cell 3
  clear HX
  simp at x0 x1 x2 x3
  by_cases h1 : k.size = 0
  · have t1 := (empty_iff k).2 h1
    have t2 : k.toList.isEmpty = true := by rw [t1]; rfl
    by_cases h2 : v.size = 0
    · have t3 := (empty_iff v).2 h2
      have t4 : v.toList.isEmpty = true := by rw [t3]; rfl
      by_cases h3 : b = 0
      · subst h3
        by_cases h4 : z = 0
        · subst h4
          rw [show rightO ⟨k, v, 0, 0⟩ = true from by unfold rightO zeroC; rw [decide_eq_true (show k.size = 0 ∧ v.size = 0 ∧ (0 : Int) = 0 ∧ (0 : Int) = 0 from ⟨h1, h2, rfl, rfl⟩)]; rfl]
          clear h1 h2
          go_enter Tryz.func34, Tryz.ntmps34
          go_wp2_with fail
          go_ret
          exact ⟨rfl, HA.out⟩
        · have g4 : (z == 0) = false := by rw [beq_eq_false_iff_ne]; exact h4
          rw [show rightO ⟨k, v, 0, z⟩ = rightC ⟨k, v, 0, z⟩ from by unfold rightO; rw [zeroC_no (fun h => h4 h.2.2.2)]; rfl]
          generalize rightC ⟨k, v, 0, z⟩ = r at *
          go_enter Tryz.func34, Tryz.ntmps34
          go_wp2_with fail
          refine (CL.out _).mono ?_; rintro e w1 ⟨rfl, hb⟩
          have HB := Lib.hid (HA.out.trans (hb.mono HA.out.size))
          clear hb
          go_wp2_with fail
          go_ret
          exact ⟨rfl, HB.out⟩
      · have g3 : (b == 0) = false := by rw [beq_eq_false_iff_ne]; exact h3
        rw [show rightO ⟨k, v, b, z⟩ = rightC ⟨k, v, b, z⟩ from by unfold rightO; rw [zeroC_no (fun h => h3 h.2.2.1)]; rfl]
        generalize rightC ⟨k, v, b, z⟩ = r at *
        go_enter Tryz.func34, Tryz.ntmps34
        go_wp2_with fail
        refine (CL.out _).mono ?_; rintro e w1 ⟨rfl, hb⟩
        have HB := Lib.hid (HA.out.trans (hb.mono HA.out.size))
        clear hb
        go_wp2_with fail
        go_ret
        exact ⟨rfl, HB.out⟩
    · have t3 : ¬ v.toList = [] := fun h => h2 ((empty_iff v).1 h)
      have t4 : v.toList.isEmpty = false := by rw [List.isEmpty_eq_false_iff]; exact t3
      rw [show rightO ⟨k, v, b, z⟩ = rightC ⟨k, v, b, z⟩ from by unfold rightO; rw [zeroC_no (fun h => h2 h.2.1)]; rfl]
      generalize rightC ⟨k, v, b, z⟩ = r at *
      go_enter Tryz.func34, Tryz.ntmps34
      go_wp2_with fail
      refine (CL.out _).mono ?_; rintro e w1 ⟨rfl, hb⟩
      have HB := Lib.hid (HA.out.trans (hb.mono HA.out.size))
      clear hb
      go_wp2_with fail
      go_ret
      exact ⟨rfl, HB.out⟩
  · have t1 : ¬ k.toList = [] := fun h => h1 ((empty_iff k).1 h)
    have t2 : k.toList.isEmpty = false := by rw [List.isEmpty_eq_false_iff]; exact t1
    rw [show rightO ⟨k, v, b, z⟩ = rightC ⟨k, v, b, z⟩ from by unfold rightO; rw [zeroC_no (fun h => h1 h.1)]; rfl]
    generalize rightC ⟨k, v, b, z⟩ = r at *
    go_enter Tryz.func34, Tryz.ntmps34
    go_wp2_with fail
    refine (CL.out _).mono ?_; rintro e w1 ⟨rfl, hb⟩
    have HB := Lib.hid (HA.out.trans (hb.mono HA.out.size))
    clear hb
    go_wp2_with fail
    go_ret
    exact ⟨rfl, HB.out⟩
end Go.Proofs.YtbmnagfjpenemaaGreatDoor
