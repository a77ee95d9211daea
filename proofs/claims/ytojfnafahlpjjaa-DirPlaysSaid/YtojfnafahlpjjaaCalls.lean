/- The contracts of Depth, At, All, Double, Halve, Set, New. -/
import Derived.Test.YtojfnafahlpjjaaRead
namespace Go.Proofs.Ytojfnafahlpjjaa
open Go.ChangeShapes Go.WideShapes Go.ChangeAt Go.RowKit
set_option linter.unusedVariables false
set_option linter.unusedSimpArgs false
set_option maxRecDepth 100000
theorem read_none (k d x : Int) (b : BA) (h0 : dirS k d b = []) (w : World) : Calls Try.prog 27 #[pv k d x b] w fun q w' => q = .returned (.slice none 0 0) ∧ Below w.heap.size w w' := by
  refine (read_any k d x b w).mono ?_
  rintro q w' ⟨hb, h | h⟩
  · exact ⟨h.2, hb⟩
  · exact absurd h0 h.1
theorem read_some (x : Int) (l : List Int) (e : Nat) (hg : GoodD l e) (w : World) : Calls Try.prog 27 #[pv 1 e x (mkD l)] w fun q w' => ∃ g, q = .returned (.slice (some ⟨g, 0, none⟩) l.length l.length) ∧ w.heap.size ≤ g ∧ Tbl w' g l ∧ Below w.heap.size w w' := by
  refine (read_any 1 e x (mkD l) w).mono ?_
  rw [dirS_mkD hg]
  rintro q w' ⟨hb, h | ⟨_, g, h1, h2, h3⟩⟩
  · exact absurd h.1 hg.ne
  · exact ⟨g, h3, h1, h2, hb⟩
theorem eql_nil (w : World) : (binOp .eql 63 (.slice none 0 0) (.slice none 0 0)).run Try.prog w = .ok (.bool true) w := by kernel_rfl
theorem eql_own (g n c : Nat) (w : World) : (binOp .eql 63 (.slice (some ⟨g, 0, none⟩) n c) (.slice none 0 0)).run Try.prog w = .ok (.bool false) w := by
  first | kernel_rfl | (simp [binOp, go_sem]; done) | (simp [binOp, Op.equal, go_sem, Try.underlying63])
theorem Tbl.nums {w : World} {g : Nat} {l : List Int} (h : Tbl w g l) (hl : l.length ≤ maxLen) : Nums w.heap.size w (.slice (some ⟨g, 0, none⟩) l.length l.length) l := (h.row hl).nums
theorem GoodD.max {l : List Int} {e : Nat} (h : GoodD l e) : l.length ≤ maxLen := by have := h.len; unfold maxLen; omega
theorem depth_none (k d x : Int) (b : BA) (h0 : dirS k d b = []) (w : World) : Calls Try.prog 19 #[pv k d x b] w fun q w' => q = .returned (.int .i64 (-1)) ∧ Below w.heap.size w w' := by
  have RD := Lib.hid (read_none k d x b h0)
  unfold pv at *
  generalize str b = s at *
  have X0 := Lib.hid (PBox.new w (k) (d) (x) s)
  have HB0 := Lib.hid ((Below.refl w.heap.size w).alloc (Nat.le_refl _) (.cells #[.int .i64 (k), .int .i64 (d), .int .i64 (x), .string s] 23))
  obtain ⟨W0, hW⟩ : ∃ W0, W0 = w.alloc (.cells #[.int .i64 (k), .int .i64 (d), .int .i64 (x), .string s] 23) := ⟨_, rfl⟩
  rw [← hW] at X0 HB0
  have NQ := eql_nil
  have OQ := eql_own
  have HW := Lib.hid hW.symm
  clear hW
  go_enter Try.func19, Try.ntmps19
  go_upto_region 1 with fail
  rw [HW.out]
  obtain ⟨⟨x0, x1, x2, x3⟩, f0, f1, f2, f3⟩ := And.intro X0.out.cells X0.out.free
  go_wp2_with fail
  clear x0 x1 x2 x3 f0 f1 f2 f3
  refine (RD.out _).mono ?_; rintro q w1 ⟨rfl, hb⟩
  have X1 := Lib.hid (X0.out.kept hb)
  have HB1 := Lib.hid (HB0.out.trans (hb.mono (Below.size HB0.out)))
  clear hb X0 HB0
  obtain ⟨⟨x0, x1, x2, x3⟩, f0, f1, f2, f3⟩ := And.intro X1.out.cells X1.out.free
  go_wp2_with fail
  clear x0 x1 x2 x3 f0 f1 f2 f3
  go_ret
  exact ⟨rfl, HB1.out⟩
theorem depth_some (x : Int) (l : List Int) (e : Nat) (hg : GoodD l e) (w : World) : Calls Try.prog 19 #[pv 1 e x (mkD l)] w fun q w' => q = .returned (.int .i64 e) ∧ Below w.heap.size w w' := by
  have RD := Lib.hid (read_some x l e hg)
  have HG := Lib.hid hg
  unfold pv at *
  obtain ⟨s, hs⟩ : ∃ s, s = str (mkD l) := ⟨_, rfl⟩
  rw [← hs] at RD ⊢
  have HS := Lib.hid hs
  clear hs hg
  have X0 := Lib.hid (PBox.new w (1) (e) (x) s)
  have HB0 := Lib.hid ((Below.refl w.heap.size w).alloc (Nat.le_refl _) (.cells #[.int .i64 (1), .int .i64 (e), .int .i64 (x), .string s] 23))
  obtain ⟨W0, hW⟩ : ∃ W0, W0 = w.alloc (.cells #[.int .i64 (1), .int .i64 (e), .int .i64 (x), .string s] 23) := ⟨_, rfl⟩
  rw [← hW] at X0 HB0
  have NQ := eql_nil
  have OQ := eql_own
  have HW := Lib.hid hW.symm
  clear hW
  go_enter Try.func19, Try.ntmps19
  go_upto_region 1 with fail
  rw [HW.out]
  obtain ⟨⟨x0, x1, x2, x3⟩, f0, f1, f2, f3⟩ := And.intro X0.out.cells X0.out.free
  go_wp2_with fail
  clear x0 x1 x2 x3 f0 f1 f2 f3
  refine (RD.out _).mono ?_; rintro q w1 ⟨g, rfl, hg1, hg2, hb⟩
  have TB := Lib.hid hg2
  clear hg1 hg2
  have X1 := Lib.hid (X0.out.kept hb)
  have HB1 := Lib.hid (HB0.out.trans (hb.mono (Below.size HB0.out)))
  clear hb X0 HB0
  obtain ⟨⟨x0, x1, x2, x3⟩, f0, f1, f2, f3⟩ := And.intro X1.out.cells X1.out.free
  go_wp2_with fail
  clear x0 x1 x2 x3 f0 f1 f2 f3
  go_ret
  exact ⟨rfl, HB1.out⟩
theorem all_none (k d x : Int) (b : BA) (h0 : dirS k d b = []) (w : World) : Calls Try.prog 16 #[pv k d x b] w fun q w' => q = .returned (.slice none 0 0) ∧ Below w.heap.size w w' := by
  have RD := Lib.hid (read_none k d x b h0)
  unfold pv at *
  generalize str b = s at *
  have X0 := Lib.hid (PBox.new w (k) (d) (x) s)
  have HB0 := Lib.hid ((Below.refl w.heap.size w).alloc (Nat.le_refl _) (.cells #[.int .i64 (k), .int .i64 (d), .int .i64 (x), .string s] 23))
  obtain ⟨W0, hW⟩ : ∃ W0, W0 = w.alloc (.cells #[.int .i64 (k), .int .i64 (d), .int .i64 (x), .string s] 23) := ⟨_, rfl⟩
  rw [← hW] at X0 HB0
  have NQ := eql_nil
  have OQ := eql_own
  have HW := Lib.hid hW.symm
  clear hW
  go_enter Try.func16, Try.ntmps16
  go_upto_region 1 with fail
  rw [HW.out]
  obtain ⟨⟨x0, x1, x2, x3⟩, f0, f1, f2, f3⟩ := And.intro X0.out.cells X0.out.free
  go_wp2_with fail
  clear x0 x1 x2 x3 f0 f1 f2 f3
  refine (RD.out _).mono ?_; rintro q w1 ⟨rfl, hb⟩
  have X1 := Lib.hid (X0.out.kept hb)
  have HB1 := Lib.hid (HB0.out.trans (hb.mono (Below.size HB0.out)))
  clear hb X0 HB0
  obtain ⟨⟨x0, x1, x2, x3⟩, f0, f1, f2, f3⟩ := And.intro X1.out.cells X1.out.free
  go_wp2_with fail
  clear x0 x1 x2 x3 f0 f1 f2 f3
  go_ret
  exact ⟨rfl, HB1.out⟩
theorem all_some (x : Int) (l : List Int) (e : Nat) (hg : GoodD l e) (w : World) : Calls Try.prog 16 #[pv 1 e x (mkD l)] w fun q w' => ∃ g, q = .returned (.slice (some ⟨g, 0, none⟩) l.length l.length) ∧ w.heap.size ≤ g ∧ Tbl w' g l ∧ Below w.heap.size w w' := by
  have RD := Lib.hid (read_some x l e hg)
  have HG := Lib.hid hg
  unfold pv at *
  obtain ⟨s, hs⟩ : ∃ s, s = str (mkD l) := ⟨_, rfl⟩
  rw [← hs] at RD ⊢
  have HS := Lib.hid hs
  clear hs hg
  have X0 := Lib.hid (PBox.new w (1) (e) (x) s)
  have HB0 := Lib.hid ((Below.refl w.heap.size w).alloc (Nat.le_refl _) (.cells #[.int .i64 (1), .int .i64 (e), .int .i64 (x), .string s] 23))
  obtain ⟨W0, hW⟩ : ∃ W0, W0 = w.alloc (.cells #[.int .i64 (1), .int .i64 (e), .int .i64 (x), .string s] 23) := ⟨_, rfl⟩
  rw [← hW] at X0 HB0
  have NQ := eql_nil
  have OQ := eql_own
  have HW := Lib.hid hW.symm
  clear hW
  go_enter Try.func16, Try.ntmps16
  go_upto_region 1 with fail
  rw [HW.out]
  obtain ⟨⟨x0, x1, x2, x3⟩, f0, f1, f2, f3⟩ := And.intro X0.out.cells X0.out.free
  go_wp2_with fail
  clear x0 x1 x2 x3 f0 f1 f2 f3
  refine (RD.out _).mono ?_; rintro q w1 ⟨g, rfl, hg1, hg2, hb⟩
  have TB := Lib.hid hg2
  have HLG := Lib.hid (show w.heap.size ≤ g from Nat.le_trans (Below.size HB0.out) hg1)
  clear hg1 hg2
  have X1 := Lib.hid (X0.out.kept hb)
  have HB1 := Lib.hid (HB0.out.trans (hb.mono (Below.size HB0.out)))
  clear hb X0 HB0
  go_wp2_with fail
  go_ret
  exact ⟨g, rfl, HLG.out, TB.out, HB1.out⟩
theorem at_none (k d x : Int) (b : BA) (h0 : dirS k d b = []) (bits : Int) (w : World) : Calls Try.prog 18 #[pv k d x b, .int .i64 bits] w fun q w' => q = .returned (.tuple #[.int .i64 0, .bool false]) ∧ Below w.heap.size w w' := by
  have RD := Lib.hid (read_none k d x b h0)
  have WI := Lib.hid (within_any bits 0)
  rw [inB_no (by omega)] at WI
  unfold pv at *
  generalize str b = s at *
  have X0 := Lib.hid (PBox.new w (k) (d) (x) s)
  have HB0 := Lib.hid ((Below.refl w.heap.size w).alloc (Nat.le_refl _) (.cells #[.int .i64 (k), .int .i64 (d), .int .i64 (x), .string s] 23))
  obtain ⟨W0, hW⟩ : ∃ W0, W0 = w.alloc (.cells #[.int .i64 (k), .int .i64 (d), .int .i64 (x), .string s] 23) := ⟨_, rfl⟩
  rw [← hW] at X0 HB0
  have NQ := eql_nil
  have OQ := eql_own
  have HW := Lib.hid hW.symm
  clear hW
  go_enter Try.func18, Try.ntmps18
  go_upto_region 1 with fail
  rw [HW.out]
  obtain ⟨⟨x0, x1, x2, x3⟩, f0, f1, f2, f3⟩ := And.intro X0.out.cells X0.out.free
  go_wp2_with fail
  clear x0 x1 x2 x3 f0 f1 f2 f3
  refine (RD.out _).mono ?_; rintro q w1 ⟨rfl, hb⟩
  have X1 := Lib.hid (X0.out.kept hb)
  have HB1 := Lib.hid (HB0.out.trans (hb.mono (Below.size HB0.out)))
  clear hb X0 HB0
  obtain ⟨⟨x0, x1, x2, x3⟩, f0, f1, f2, f3⟩ := And.intro X1.out.cells X1.out.free
  go_wp2_with fail
  clear x0 x1 x2 x3 f0 f1 f2 f3
  refine (WI.out _).mono ?_; rintro q w9 ⟨rfl, rfl⟩
  obtain ⟨⟨x0, x1, x2, x3⟩, f0, f1, f2, f3⟩ := And.intro X1.out.cells X1.out.free
  go_wp2_with fail
  clear x0 x1 x2 x3 f0 f1 f2 f3
  go_ret2
  exact ⟨rfl, HB1.out⟩
theorem at_out (x : Int) (l : List Int) (e : Nat) (hg : GoodD l e) (bits : Int) (h : ¬ (0 ≤ bits ∧ bits < l.length)) (w : World) : Calls Try.prog 18 #[pv 1 e x (mkD l), .int .i64 bits] w fun q w' => q = .returned (.tuple #[.int .i64 0, .bool false]) ∧ Below w.heap.size w w' := by
  have RD := Lib.hid (read_some x l e hg)
  have HG := Lib.hid hg
  have WI := Lib.hid (within_any bits l.length)
  rw [inB_no h] at WI
  clear h
  unfold pv at *
  obtain ⟨s, hs⟩ : ∃ s, s = str (mkD l) := ⟨_, rfl⟩
  rw [← hs] at RD ⊢
  have HS := Lib.hid hs
  clear hs hg
  have X0 := Lib.hid (PBox.new w (1) (e) (x) s)
  have HB0 := Lib.hid ((Below.refl w.heap.size w).alloc (Nat.le_refl _) (.cells #[.int .i64 (1), .int .i64 (e), .int .i64 (x), .string s] 23))
  obtain ⟨W0, hW⟩ : ∃ W0, W0 = w.alloc (.cells #[.int .i64 (1), .int .i64 (e), .int .i64 (x), .string s] 23) := ⟨_, rfl⟩
  rw [← hW] at X0 HB0
  have NQ := eql_nil
  have OQ := eql_own
  have HW := Lib.hid hW.symm
  clear hW
  go_enter Try.func18, Try.ntmps18
  go_upto_region 1 with fail
  rw [HW.out]
  obtain ⟨⟨x0, x1, x2, x3⟩, f0, f1, f2, f3⟩ := And.intro X0.out.cells X0.out.free
  go_wp2_with fail
  clear x0 x1 x2 x3 f0 f1 f2 f3
  refine (RD.out _).mono ?_; rintro q w1 ⟨g, rfl, hg1, hg2, hb⟩
  have TB := Lib.hid hg2
  clear hg1 hg2
  have X1 := Lib.hid (X0.out.kept hb)
  have HB1 := Lib.hid (HB0.out.trans (hb.mono (Below.size HB0.out)))
  clear hb X0 HB0
  obtain ⟨⟨x0, x1, x2, x3⟩, f0, f1, f2, f3⟩ := And.intro X1.out.cells X1.out.free
  go_wp2_with fail
  clear x0 x1 x2 x3 f0 f1 f2 f3
  refine (WI.out _).mono ?_; rintro q w9 ⟨rfl, rfl⟩
  obtain ⟨⟨x0, x1, x2, x3⟩, f0, f1, f2, f3⟩ := And.intro X1.out.cells X1.out.free
  go_wp2_with fail
  clear x0 x1 x2 x3 f0 f1 f2 f3
  go_ret2
  exact ⟨rfl, HB1.out⟩
theorem at_in (x : Int) (l : List Int) (e : Nat) (hg : GoodD l e) (i : Nat) (h : i < l.length) (w : World) : Calls Try.prog 18 #[pv 1 e x (mkD l), .int .i64 i] w fun q w' => q = .returned (.tuple #[.int .i64 (l.getD i 0), .bool true]) ∧ Below w.heap.size w w' := by
  have RD := Lib.hid (read_some x l e hg)
  have HG := Lib.hid hg
  have WI := Lib.hid (within_any i l.length)
  rw [inB_iff.2 ⟨by omega, by omega⟩] at WI
  have HT := Lib.hid (fun (g : Nat) (w' : World) (ht : Tbl w' g l) => tat_any w'.heap.size (some ⟨g, 0, none⟩) l.length l.length l i w' (ht.nums hg.max) (by omega) (by have := hg.len; omega) (by have := hg.len; omega))
  rw [show tatF l i = l.getD i 0 by unfold tatF; rw [Nat.mod_eq_of_lt h]] at HT
  obtain ⟨y, hy⟩ : ∃ y, y = l.getD i 0 := ⟨_, rfl⟩
  rw [← hy] at HT ⊢
  clear h hy
  unfold pv at *
  obtain ⟨s, hs⟩ : ∃ s, s = str (mkD l) := ⟨_, rfl⟩
  rw [← hs] at RD ⊢
  have HS := Lib.hid hs
  clear hs hg
  have X0 := Lib.hid (PBox.new w (1) (e) (x) s)
  have HB0 := Lib.hid ((Below.refl w.heap.size w).alloc (Nat.le_refl _) (.cells #[.int .i64 (1), .int .i64 (e), .int .i64 (x), .string s] 23))
  obtain ⟨W0, hW⟩ : ∃ W0, W0 = w.alloc (.cells #[.int .i64 (1), .int .i64 (e), .int .i64 (x), .string s] 23) := ⟨_, rfl⟩
  rw [← hW] at X0 HB0
  have NQ := eql_nil
  have OQ := eql_own
  have HW := Lib.hid hW.symm
  clear hW
  go_enter Try.func18, Try.ntmps18
  go_upto_region 1 with fail
  rw [HW.out]
  obtain ⟨⟨x0, x1, x2, x3⟩, f0, f1, f2, f3⟩ := And.intro X0.out.cells X0.out.free
  go_wp2_with fail
  clear x0 x1 x2 x3 f0 f1 f2 f3
  refine (RD.out _).mono ?_; rintro q w1 ⟨g, rfl, hg1, hg2, hb⟩
  have TB := Lib.hid hg2
  clear hg1 hg2
  have X1 := Lib.hid (X0.out.kept hb)
  have HB1 := Lib.hid (HB0.out.trans (hb.mono (Below.size HB0.out)))
  clear hb X0 HB0
  obtain ⟨⟨x0, x1, x2, x3⟩, f0, f1, f2, f3⟩ := And.intro X1.out.cells X1.out.free
  go_wp2_with fail
  clear x0 x1 x2 x3 f0 f1 f2 f3
  refine (WI.out _).mono ?_; rintro q w9 ⟨rfl, rfl⟩
  obtain ⟨⟨x0, x1, x2, x3⟩, f0, f1, f2, f3⟩ := And.intro X1.out.cells X1.out.free
  go_wp2_with fail
  clear x0 x1 x2 x3 f0 f1 f2 f3
  refine (HT.out g _ TB.out).mono ?_; rintro q w9 ⟨rfl, rfl⟩
  obtain ⟨⟨x0, x1, x2, x3⟩, f0, f1, f2, f3⟩ := And.intro X1.out.cells X1.out.free
  go_wp2_with fail
  clear x0 x1 x2 x3 f0 f1 f2 f3
  go_ret2
  exact ⟨rfl, HB1.out⟩
theorem double_none (k d x : Int) (b : BA) (h0 : dirS k d b = []) (w : World) : Calls Try.prog 12 #[pv k d x b] w fun q w' => q = .returned (.tuple #[pv 0 0 0 [], .int .i64 2]) ∧ Below w.heap.size w w' := by
  have RD := Lib.hid (read_none k d x b h0)
  rw [show pv 0 0 0 [] = .agg #[.int .i64 0, .int .i64 0, .int .i64 0, .string ⟨#[]⟩] from rfl]
  unfold pv at *
  generalize str b = s at *
  have H0 := Lib.hid (two_start w (k) (d) (x) s)
  obtain ⟨W0, hW⟩ : ∃ W0, W0 = (w.alloc (.cells #[.int .i64 (k), .int .i64 (d), .int .i64 (x), .string s] 23)).alloc (.cells #[.int .i64 (0), .int .i64 (0), .int .i64 (0), .string ⟨#[]⟩] 23) := ⟨_, rfl⟩
  rw [← hW] at H0
  have X0 := Lib.hid H0.out.1
  have Y0 := Lib.hid H0.out.2.1
  have HB0 := Lib.hid H0.out.2.2
  clear H0
  have NQ := eql_nil
  have OQ := eql_own
  have HW := Lib.hid hW.symm
  clear hW
  go_enter Try.func12, Try.ntmps12
  go_upto_region 1 with fail
  rw [HW.out]
  obtain ⟨⟨x0, x1, x2, x3⟩, f0, f1, f2, f3⟩ := And.intro X0.out.cells X0.out.free
  obtain ⟨⟨y0, y1, y2, y3⟩, g0, g1, g2, g3⟩ := And.intro Y0.out.cells Y0.out.free
  go_wp2_with fail
  clear x0 x1 x2 x3 f0 f1 f2 f3 y0 y1 y2 y3 g0 g1 g2 g3
  refine (RD.out _).mono ?_; rintro q w1 ⟨rfl, hb⟩
  have X1 := Lib.hid (X0.out.kept hb)
  have Y1 := Lib.hid (Y0.out.kept hb)
  have HB1 := Lib.hid (HB0.out.trans (hb.mono (Below.size HB0.out)))
  clear hb X0 Y0 HB0
  obtain ⟨⟨x0, x1, x2, x3⟩, f0, f1, f2, f3⟩ := And.intro X1.out.cells X1.out.free
  obtain ⟨⟨y0, y1, y2, y3⟩, g0, g1, g2, g3⟩ := And.intro Y1.out.cells Y1.out.free
  go_wp2_with fail
  clear x0 x1 x2 x3 f0 f1 f2 f3 y0 y1 y2 y3 g0 g1 g2 g3
  have Z := Lib.hid (Y1.out.set4 (0) (0) (0) ⟨#[]⟩)
  obtain ⟨z0, z1, z2, z3⟩ := Z.out.cells
  refine bodyPost_ret (v := .tuple #[.agg #[.int .i64 (0), .int .i64 (0), .int .i64 (0), .string ⟨#[]⟩], .int .i64 2]) (by simp [results, Try.results12, go_sem, z0, z1, z2, z3]) rfl ⟨rfl, ?_⟩
  exact below_set4 HB1.out (Nat.le_add_right _ 1)
theorem double_full (x : Int) (l : List Int) (e : Nat) (hg : GoodD l e) (he : e = 5) (w : World) : Calls Try.prog 12 #[pv 1 e x (mkD l)] w fun q w' => q = .returned (.tuple #[pv 0 0 0 [], .int .i64 13]) ∧ Below w.heap.size w w' := by
  subst he
  rw [show ((5 : Nat) : Int) = 5 from rfl]
  have RD := Lib.hid (read_some x l 5 hg)
  rw [show ((5 : Nat) : Int) = 5 from rfl] at RD
  rw [show pv 0 0 0 [] = .agg #[.int .i64 0, .int .i64 0, .int .i64 0, .string ⟨#[]⟩] from rfl]
  unfold pv at *
  obtain ⟨s, hs⟩ : ∃ s, s = str (mkD l) := ⟨_, rfl⟩
  rw [← hs] at RD ⊢
  have HS := Lib.hid hs
  clear hs hg
  have H0 := Lib.hid (two_start w (1) (5) (x) s)
  obtain ⟨W0, hW⟩ : ∃ W0, W0 = (w.alloc (.cells #[.int .i64 (1), .int .i64 (5), .int .i64 (x), .string s] 23)).alloc (.cells #[.int .i64 (0), .int .i64 (0), .int .i64 (0), .string ⟨#[]⟩] 23) := ⟨_, rfl⟩
  rw [← hW] at H0
  have X0 := Lib.hid H0.out.1
  have Y0 := Lib.hid H0.out.2.1
  have HB0 := Lib.hid H0.out.2.2
  clear H0
  have NQ := eql_nil
  have OQ := eql_own
  have HW := Lib.hid hW.symm
  clear hW
  go_enter Try.func12, Try.ntmps12
  go_upto_region 1 with fail
  rw [HW.out]
  obtain ⟨⟨x0, x1, x2, x3⟩, f0, f1, f2, f3⟩ := And.intro X0.out.cells X0.out.free
  obtain ⟨⟨y0, y1, y2, y3⟩, g0, g1, g2, g3⟩ := And.intro Y0.out.cells Y0.out.free
  go_wp2_with fail
  clear x0 x1 x2 x3 f0 f1 f2 f3 y0 y1 y2 y3 g0 g1 g2 g3
  refine (RD.out _).mono ?_; rintro q w1 ⟨g, rfl, hg1, hg2, hb⟩
  have TB := Lib.hid hg2
  clear hg1 hg2
  have X1 := Lib.hid (X0.out.kept hb)
  have Y1 := Lib.hid (Y0.out.kept hb)
  have HB1 := Lib.hid (HB0.out.trans (hb.mono (Below.size HB0.out)))
  clear hb X0 Y0 HB0
  obtain ⟨⟨x0, x1, x2, x3⟩, f0, f1, f2, f3⟩ := And.intro X1.out.cells X1.out.free
  obtain ⟨⟨y0, y1, y2, y3⟩, g0, g1, g2, g3⟩ := And.intro Y1.out.cells Y1.out.free
  go_wp2_with fail
  clear x0 x1 x2 x3 f0 f1 f2 f3 y0 y1 y2 y3 g0 g1 g2 g3
  have Z := Lib.hid (Y1.out.set4 (0) (0) (0) ⟨#[]⟩)
  obtain ⟨z0, z1, z2, z3⟩ := Z.out.cells
  refine bodyPost_ret (v := .tuple #[.agg #[.int .i64 (0), .int .i64 (0), .int .i64 (0), .string ⟨#[]⟩], .int .i64 13]) (by simp [results, Try.results12, go_sem, z0, z1, z2, z3]) rfl ⟨rfl, ?_⟩
  exact below_set4 HB1.out (Nat.le_add_right _ 1)
theorem double_ok (x : Int) (l : List Int) (e : Nat) (hg : GoodD l e) (he : e < 5) (w : World) : Calls Try.prog 12 #[pv 1 e x (mkD l)] w fun q w' => q = .returned (.tuple #[pv 1 ((e : Int) + 1) x (mkD (l ++ l)), .int .i64 0]) ∧ Below w.heap.size w w' := by
  have RD := Lib.hid (read_some x l e hg)
  have HG := Lib.hid hg
  have HAT := Lib.hid (fun (g : Nat) (w1 : World) (ht : Tbl w1 g l) (n : Nat) (hn : n ≤ 1000) (i : Nat) (w' : World) (hi : i < n) (hb : Below w1.heap.size w1 w') => (show Calls Try.prog 23 #[.slice (some ⟨g, 0, none⟩) l.length l.length, .int .i64 i] w' fun e w'' => e = .returned (.int .i64 (tatF l i)) ∧ Below w'.heap.size w' w'' from by
    have h := tat_any w1.heap.size (some ⟨g, 0, none⟩) l.length l.length l i w' ((ht.nums hg.max).below hb) (by have := hg.len; omega) (by have := hg.len; omega) (by omega)
    refine h.mono ?_
    rintro e w2 ⟨h1, rfl⟩
    exact ⟨h1, Below.refl _ _⟩))
  have HWI := Lib.hid (fun (g : Nat) (w1 : World) (ht : Tbl w1 g l) => with_tat 1 e x (mkD l) (e + 1) (.slice (some ⟨g, 0, none⟩) l.length l.length) (tatF l) (by omega) (fun i _ => tatF_in hg i) w1 (fun i w' hi hb => HAT.out g w1 ht _ (by have := pow_le (e := e + 1) (by omega); omega) i w' hi hb))
  rw [tab_double hg, show (((e + 1 : Nat)) : Int) = (e : Int) + 1 by omega] at HWI
  have e1 : IntKind.i64.wrap ((e : Int) + 1) = (e : Int) + 1 := IntWalk.i64_in _ (by omega)
  have e2 : ((e : Int) == 5) = false := by rw [beq_eq_false_iff_ne]; omega
  clear HAT
  unfold pv at *
  obtain ⟨s2, hs2⟩ : ∃ s, s = str (mkD (l ++ l)) := ⟨_, rfl⟩
  rw [← hs2] at HWI ⊢
  obtain ⟨s, hs⟩ : ∃ s, s = str (mkD l) := ⟨_, rfl⟩
  rw [← hs] at RD HWI ⊢
  clear hs hs2 hg
  have H0 := Lib.hid (two_start w (1) (e) (x) s)
  obtain ⟨W0, hW⟩ : ∃ W0, W0 = (w.alloc (.cells #[.int .i64 (1), .int .i64 (e), .int .i64 (x), .string s] 23)).alloc (.cells #[.int .i64 (0), .int .i64 (0), .int .i64 (0), .string ⟨#[]⟩] 23) := ⟨_, rfl⟩
  rw [← hW] at H0
  have X0 := Lib.hid H0.out.1
  have Y0 := Lib.hid H0.out.2.1
  have HB0 := Lib.hid H0.out.2.2
  clear H0
  have NQ := eql_nil
  have OQ := eql_own
  have HW := Lib.hid hW.symm
  clear hW
  go_enter Try.func12, Try.ntmps12
  go_upto_region 1 with fail
  rw [HW.out]
  obtain ⟨⟨x0, x1, x2, x3⟩, f0, f1, f2, f3⟩ := And.intro X0.out.cells X0.out.free
  obtain ⟨⟨y0, y1, y2, y3⟩, g0, g1, g2, g3⟩ := And.intro Y0.out.cells Y0.out.free
  go_wp2_with fail
  clear x0 x1 x2 x3 f0 f1 f2 f3 y0 y1 y2 y3 g0 g1 g2 g3
  refine (RD.out _).mono ?_; rintro q w1 ⟨g, rfl, hg1, hg2, hb⟩
  have TB := Lib.hid hg2
  clear hg1 hg2
  have X1 := Lib.hid (X0.out.kept hb)
  have Y1 := Lib.hid (Y0.out.kept hb)
  have HB1 := Lib.hid (HB0.out.trans (hb.mono (Below.size HB0.out)))
  clear hb X0 Y0 HB0
  obtain ⟨⟨x0, x1, x2, x3⟩, f0, f1, f2, f3⟩ := And.intro X1.out.cells X1.out.free
  obtain ⟨⟨y0, y1, y2, y3⟩, g0, g1, g2, g3⟩ := And.intro Y1.out.cells Y1.out.free
  go_wp2_with fail
  clear x0 x1 x2 x3 f0 f1 f2 f3 y0 y1 y2 y3 g0 g1 g2 g3
  refine (HWI.out g _ TB.out).mono ?_; rintro q w2 ⟨rfl, hb⟩
  have X2 := Lib.hid (X1.out.kept hb)
  have Y2 := Lib.hid (Y1.out.kept hb)
  have HB2 := Lib.hid (HB1.out.trans (hb.mono (Below.size HB1.out)))
  clear hb X1 Y1 HB1
  obtain ⟨⟨x0, x1, x2, x3⟩, f0, f1, f2, f3⟩ := And.intro X2.out.cells X2.out.free
  obtain ⟨⟨y0, y1, y2, y3⟩, g0, g1, g2, g3⟩ := And.intro Y2.out.cells Y2.out.free
  go_wp2_with fail
  clear x0 x1 x2 x3 f0 f1 f2 f3 y0 y1 y2 y3 g0 g1 g2 g3
  have Z := Lib.hid (Y2.out.set4 (1) ((e : Int) + 1) (x) s2)
  obtain ⟨z0, z1, z2, z3⟩ := Z.out.cells
  refine bodyPost_ret (v := .tuple #[.agg #[.int .i64 (1), .int .i64 ((e : Int) + 1), .int .i64 (x), .string s2], .int .i64 0]) (by simp [results, Try.results12, go_sem, z0, z1, z2, z3]) rfl ⟨rfl, ?_⟩
  exact below_set4 HB2.out (Nat.le_add_right _ 1)
theorem halve_none (k d x : Int) (b : BA) (h0 : dirS k d b = []) (w : World) : Calls Try.prog 13 #[pv k d x b] w fun q w' => q = .returned (.tuple #[pv 0 0 0 [], .int .i64 2]) ∧ Below w.heap.size w w' := by
  have RD := Lib.hid (read_none k d x b h0)
  rw [show pv 0 0 0 [] = .agg #[.int .i64 0, .int .i64 0, .int .i64 0, .string ⟨#[]⟩] from rfl]
  unfold pv at *
  generalize str b = s at *
  have H0 := Lib.hid (two_start w (k) (d) (x) s)
  obtain ⟨W0, hW⟩ : ∃ W0, W0 = (w.alloc (.cells #[.int .i64 (k), .int .i64 (d), .int .i64 (x), .string s] 23)).alloc (.cells #[.int .i64 (0), .int .i64 (0), .int .i64 (0), .string ⟨#[]⟩] 23) := ⟨_, rfl⟩
  rw [← hW] at H0
  have X0 := Lib.hid H0.out.1
  have Y0 := Lib.hid H0.out.2.1
  have HB0 := Lib.hid H0.out.2.2
  clear H0
  have NQ := eql_nil
  have OQ := eql_own
  have HW := Lib.hid hW.symm
  clear hW
  go_enter Try.func13, Try.ntmps13
  go_upto_region 1 with fail
  rw [HW.out]
  obtain ⟨⟨x0, x1, x2, x3⟩, f0, f1, f2, f3⟩ := And.intro X0.out.cells X0.out.free
  obtain ⟨⟨y0, y1, y2, y3⟩, g0, g1, g2, g3⟩ := And.intro Y0.out.cells Y0.out.free
  go_wp2_with fail
  clear x0 x1 x2 x3 f0 f1 f2 f3 y0 y1 y2 y3 g0 g1 g2 g3
  refine (RD.out _).mono ?_; rintro q w1 ⟨rfl, hb⟩
  have X1 := Lib.hid (X0.out.kept hb)
  have Y1 := Lib.hid (Y0.out.kept hb)
  have HB1 := Lib.hid (HB0.out.trans (hb.mono (Below.size HB0.out)))
  clear hb X0 Y0 HB0
  obtain ⟨⟨x0, x1, x2, x3⟩, f0, f1, f2, f3⟩ := And.intro X1.out.cells X1.out.free
  obtain ⟨⟨y0, y1, y2, y3⟩, g0, g1, g2, g3⟩ := And.intro Y1.out.cells Y1.out.free
  go_wp2_with fail
  clear x0 x1 x2 x3 f0 f1 f2 f3 y0 y1 y2 y3 g0 g1 g2 g3
  have Z := Lib.hid (Y1.out.set4 (0) (0) (0) ⟨#[]⟩)
  obtain ⟨z0, z1, z2, z3⟩ := Z.out.cells
  refine bodyPost_ret (v := .tuple #[.agg #[.int .i64 (0), .int .i64 (0), .int .i64 (0), .string ⟨#[]⟩], .int .i64 2]) (by simp [results, Try.results13, go_sem, z0, z1, z2, z3]) rfl ⟨rfl, ?_⟩
  exact below_set4 HB1.out (Nat.le_add_right _ 1)
theorem halve_zero (x : Int) (l : List Int) (e : Nat) (hg : GoodD l e) (he : e = 0) (w : World) : Calls Try.prog 13 #[pv 1 e x (mkD l)] w fun q w' => q = .returned (.tuple #[pv 0 0 0 [], .int .i64 11]) ∧ Below w.heap.size w w' := by
  subst he
  rw [show ((0 : Nat) : Int) = 0 from rfl]
  have RD := Lib.hid (read_some x l 0 hg)
  have hl1 : l.length = 1 := hg.2.1
  rw [show ((0 : Nat) : Int) = 0 from rfl, hl1] at RD
  rw [show pv 0 0 0 [] = .agg #[.int .i64 0, .int .i64 0, .int .i64 0, .string ⟨#[]⟩] from rfl]
  unfold pv at *
  obtain ⟨s, hs⟩ : ∃ s, s = str (mkD l) := ⟨_, rfl⟩
  rw [← hs] at RD ⊢
  have HS := Lib.hid hs
  clear hs hg
  have H0 := Lib.hid (two_start w (1) (0) (x) s)
  obtain ⟨W0, hW⟩ : ∃ W0, W0 = (w.alloc (.cells #[.int .i64 (1), .int .i64 (0), .int .i64 (x), .string s] 23)).alloc (.cells #[.int .i64 (0), .int .i64 (0), .int .i64 (0), .string ⟨#[]⟩] 23) := ⟨_, rfl⟩
  rw [← hW] at H0
  have X0 := Lib.hid H0.out.1
  have Y0 := Lib.hid H0.out.2.1
  have HB0 := Lib.hid H0.out.2.2
  clear H0
  have NQ := eql_nil
  have OQ := eql_own
  have HW := Lib.hid hW.symm
  clear hW
  go_enter Try.func13, Try.ntmps13
  go_upto_region 1 with fail
  rw [HW.out]
  obtain ⟨⟨x0, x1, x2, x3⟩, f0, f1, f2, f3⟩ := And.intro X0.out.cells X0.out.free
  obtain ⟨⟨y0, y1, y2, y3⟩, g0, g1, g2, g3⟩ := And.intro Y0.out.cells Y0.out.free
  go_wp2_with fail
  clear x0 x1 x2 x3 f0 f1 f2 f3 y0 y1 y2 y3 g0 g1 g2 g3
  refine (RD.out _).mono ?_; rintro q w1 ⟨g, rfl, hg1, hg2, hb⟩
  clear hg1 hg2
  have X1 := Lib.hid (X0.out.kept hb)
  have Y1 := Lib.hid (Y0.out.kept hb)
  have HB1 := Lib.hid (HB0.out.trans (hb.mono (Below.size HB0.out)))
  clear hb X0 Y0 HB0
  obtain ⟨⟨x0, x1, x2, x3⟩, f0, f1, f2, f3⟩ := And.intro X1.out.cells X1.out.free
  obtain ⟨⟨y0, y1, y2, y3⟩, g0, g1, g2, g3⟩ := And.intro Y1.out.cells Y1.out.free
  go_upto_region 5 with fail
  go_quiet (fail)
  clear x0 x1 x2 x3 f0 f1 f2 f3 y0 y1 y2 y3 g0 g1 g2 g3
  have hb := below_drewN (Below.refl w1.heap.size w1) nq
  have X2 := Lib.hid (X1.out.kept hb)
  have Y2 := Lib.hid (Y1.out.kept hb)
  have HB2 := Lib.hid (HB1.out.trans (hb.mono (Below.size HB1.out)))
  clear hb X1 Y1 HB1
  obtain ⟨⟨x0, x1, x2, x3⟩, f0, f1, f2, f3⟩ := And.intro X2.out.cells X2.out.free
  obtain ⟨⟨y0, y1, y2, y3⟩, g0, g1, g2, g3⟩ := And.intro Y2.out.cells Y2.out.free
  go_wp2_with fail
  clear x0 x1 x2 x3 f0 f1 f2 f3 y0 y1 y2 y3 g0 g1 g2 g3
  have Z := Lib.hid (Y2.out.set4 (0) (0) (0) ⟨#[]⟩)
  obtain ⟨z0, z1, z2, z3⟩ := Z.out.cells
  refine bodyPost_ret (v := .tuple #[.agg #[.int .i64 (0), .int .i64 (0), .int .i64 (0), .string ⟨#[]⟩], .int .i64 11]) (by simp [results, Try.results13, go_sem, z0, z1, z2, z3]) rfl ⟨rfl, ?_⟩
  exact below_set4 HB2.out (Nat.le_add_right _ 1)
set_option maxHeartbeats 1000000 in
theorem halve_err (x : Int) (l : List Int) (f : Nat) (hg : GoodD l (f + 1)) (he : l.take (2 ^ f) ≠ l.drop (2 ^ f)) (w : World) : Calls Try.prog 13 #[pv 1 ((f + 1 : Nat) : Int) x (mkD l)] w fun q w' => q = .returned (.tuple #[pv 0 0 0 [], .int .i64 11]) ∧ Below w.heap.size w w' := by
  have RD := Lib.hid (read_some x l (f + 1) hg)
  have HG := Lib.hid hg
  have HN := Lib.hid hg.2.1
  obtain ⟨M, hM⟩ : ∃ M, M = 2 ^ f := ⟨_, rfl⟩
  have hn2 : l.length = M * 2 := by rw [hM]; exact hg.2.1
  have HEQ := Lib.hid (fun (g : Nat) (w1 : World) (ht : Tbl w1 g l) (w' : World) (hb : Below w1.heap.size w1 w') => (show Calls Try.prog 28 #[.slice (some ⟨g, 0, none⟩) M (M * 2), .slice (some ⟨g, M, none⟩) M M] w' fun q w'' => q = .returned (.bool (decide (l.take M = l.drop M))) ∧ ∃ q, w'' = w'.drewN q from by
    have h1 := ((ht.nums hg.max).below hb)
    have a := h1.part 0 M (M * 2) (by omega)
    have c := h1.part M M M (by omega)
    rw [List.drop_zero] at a
    rw [show (l.drop M).take M = l.drop M by apply List.take_of_length_le; rw [List.length_drop]; omega] at c
    rw [Nat.add_zero] at a
    rw [Nat.zero_add] at c
    exact equal_any w1.heap.size _ _ M M (M * 2) M _ _ w' (by have := hg.len; omega) (by have := hg.len; omega) a c))
  rw [hn2] at RD
  have hM1 : 1 ≤ M := by have := hg.len; omega
  have hM2 : M ≤ 32 := by have := hg.len; omega
  have i1 : (((M * 2 : Nat)) : Int) / 2 = (M : Int) := by omega
  have i0 : (((M * 2 : Nat)) : Int) = (M : Int) * 2 := by omega
  have i2 : (M : Int) ≤ (M : Int) * 2 := by omega
  have i3 : (0 : Int) ≤ (M : Int) := by omega
  have i4 : ¬ (M * 2 = M) := by omega
  have i5 : M * 2 - M = M := by omega
  have e2 : (((f + 1 : Nat)) : Int) = (f : Int) + 1 := by omega
  rw [e2] at RD ⊢
  have e3 : (((f : Int) + 1) == 0) = false := by rw [beq_eq_false_iff_ne]; omega
  have e6 : wrap64 (f : Int) = (f : Int) := IntWalk.wrap64_in _ (by have := hg.1; omega)
  have e5 : IntKind.i64.wrap ((f : Int) + 1 - 1) = (f : Int) := by rw [show (f : Int) + 1 - 1 = f by omega]; exact IntWalk.i64_in _ (by have := hg.1; omega)
  rw [← hM] at he
  rw [decide_eq_false he] at HEQ
  clear he
  rw [show pv 0 0 0 [] = .agg #[.int .i64 0, .int .i64 0, .int .i64 0, .string ⟨#[]⟩] from rfl]
  unfold pv at *
  obtain ⟨s, hs⟩ : ∃ s, s = str (mkD l) := ⟨_, rfl⟩
  rw [← hs] at RD ⊢
  have HS := Lib.hid hs
  clear hs hg
  clear hM
  have H0 := Lib.hid (two_start w (1) ((f : Int) + 1) (x) s)
  obtain ⟨W0, hW⟩ : ∃ W0, W0 = (w.alloc (.cells #[.int .i64 (1), .int .i64 ((f : Int) + 1), .int .i64 (x), .string s] 23)).alloc (.cells #[.int .i64 (0), .int .i64 (0), .int .i64 (0), .string ⟨#[]⟩] 23) := ⟨_, rfl⟩
  rw [← hW] at H0
  have X0 := Lib.hid H0.out.1
  have Y0 := Lib.hid H0.out.2.1
  have HB0 := Lib.hid H0.out.2.2
  clear H0
  have NQ := eql_nil
  have OQ := eql_own
  have HW := Lib.hid hW.symm
  clear hW
  go_enter Try.func13, Try.ntmps13
  go_upto_region 1 with fail
  rw [HW.out]
  obtain ⟨⟨x0, x1, x2, x3⟩, f0, f1, f2, f3⟩ := And.intro X0.out.cells X0.out.free
  obtain ⟨⟨y0, y1, y2, y3⟩, g0, g1, g2, g3⟩ := And.intro Y0.out.cells Y0.out.free
  go_wp2_with fail
  clear x0 x1 x2 x3 f0 f1 f2 f3 y0 y1 y2 y3 g0 g1 g2 g3
  refine (RD.out _).mono ?_; rintro q w1 ⟨g, rfl, hg1, hg2, hb⟩
  have HEQ1 := Lib.hid (fun k => HEQ.out g w1 hg2 (w1.drewN k) (below_drewN (Below.refl _ _) k))
  clear hg1 hg2
  have X1 := Lib.hid (X0.out.kept hb)
  have Y1 := Lib.hid (Y0.out.kept hb)
  have HB1 := Lib.hid (HB0.out.trans (hb.mono (Below.size HB0.out)))
  clear hb X0 Y0 HB0
  obtain ⟨⟨x0, x1, x2, x3⟩, f0, f1, f2, f3⟩ := And.intro X1.out.cells X1.out.free
  obtain ⟨⟨y0, y1, y2, y3⟩, g0, g1, g2, g3⟩ := And.intro Y1.out.cells Y1.out.free
  go_upto_region 5 with fail
  go_quiet ((go_at_call 28; exact Calls.quiet_of (HEQ1.out _)))
  clear x0 x1 x2 x3 f0 f1 f2 f3 y0 y1 y2 y3 g0 g1 g2 g3
  have hb := below_drewN (Below.refl w1.heap.size w1) nq
  have X2 := Lib.hid (X1.out.kept hb)
  have Y2 := Lib.hid (Y1.out.kept hb)
  have HB2 := Lib.hid (HB1.out.trans (hb.mono (Below.size HB1.out)))
  clear hb X1 Y1 HB1
  obtain ⟨⟨x0, x1, x2, x3⟩, f0, f1, f2, f3⟩ := And.intro X2.out.cells X2.out.free
  obtain ⟨⟨y0, y1, y2, y3⟩, g0, g1, g2, g3⟩ := And.intro Y2.out.cells Y2.out.free
  go_wp2_with fail
  clear x0 x1 x2 x3 f0 f1 f2 f3 y0 y1 y2 y3 g0 g1 g2 g3
  have Z := Lib.hid (Y2.out.set4 (0) (0) (0) ⟨#[]⟩)
  obtain ⟨z0, z1, z2, z3⟩ := Z.out.cells
  refine bodyPost_ret (v := .tuple #[.agg #[.int .i64 (0), .int .i64 (0), .int .i64 (0), .string ⟨#[]⟩], .int .i64 11]) (by simp [results, Try.results13, go_sem, z0, z1, z2, z3]) rfl ⟨rfl, ?_⟩
  exact below_set4 HB2.out (Nat.le_add_right _ 1)
set_option maxHeartbeats 1000000 in
theorem halve_ok (x : Int) (l : List Int) (f : Nat) (hg : GoodD l (f + 1)) (he : l.take (2 ^ f) = l.drop (2 ^ f)) (w : World) : Calls Try.prog 13 #[pv 1 ((f + 1 : Nat) : Int) x (mkD l)] w fun q w' => q = .returned (.tuple #[pv 1 (f : Int) x (mkD (l.take (2 ^ f))), .int .i64 0]) ∧ Below w.heap.size w w' := by
  have RD := Lib.hid (read_some x l (f + 1) hg)
  have HG := Lib.hid hg
  have HAT := Lib.hid (fun (g : Nat) (w1 : World) (ht : Tbl w1 g l) (n : Nat) (hn : n ≤ 1000) (i : Nat) (w' : World) (hi : i < n) (hb : Below w1.heap.size w1 w') => (show Calls Try.prog 23 #[.slice (some ⟨g, 0, none⟩) l.length l.length, .int .i64 i] w' fun e w'' => e = .returned (.int .i64 (tatF l i)) ∧ Below w'.heap.size w' w'' from by
    have h := tat_any w1.heap.size (some ⟨g, 0, none⟩) l.length l.length l i w' ((ht.nums hg.max).below hb) (by have := hg.len; omega) (by have := hg.len; omega) (by omega)
    refine h.mono ?_
    rintro e w2 ⟨h1, rfl⟩
    exact ⟨h1, Below.refl _ _⟩))
  have HWI := Lib.hid (fun (g : Nat) (w1 : World) (ht : Tbl w1 g l) => with_tat 1 ((f + 1 : Nat) : Int) x (mkD l) f (.slice (some ⟨g, 0, none⟩) l.length l.length) (tatF l) (by have := hg.1; omega) (fun i _ => tatF_in hg i) w1 (fun i w' hi hb => HAT.out g w1 ht _ (by have := pow_le (e := f) (by have := hg.1; omega); omega) i w' hi hb))
  rw [tab_half hg] at HWI
  clear HAT
  have HN := Lib.hid hg.2.1
  obtain ⟨M, hM⟩ : ∃ M, M = 2 ^ f := ⟨_, rfl⟩
  have hn2 : l.length = M * 2 := by rw [hM]; exact hg.2.1
  have HEQ := Lib.hid (fun (g : Nat) (w1 : World) (ht : Tbl w1 g l) (w' : World) (hb : Below w1.heap.size w1 w') => (show Calls Try.prog 28 #[.slice (some ⟨g, 0, none⟩) M (M * 2), .slice (some ⟨g, M, none⟩) M M] w' fun q w'' => q = .returned (.bool (decide (l.take M = l.drop M))) ∧ ∃ q, w'' = w'.drewN q from by
    have h1 := ((ht.nums hg.max).below hb)
    have a := h1.part 0 M (M * 2) (by omega)
    have c := h1.part M M M (by omega)
    rw [List.drop_zero] at a
    rw [show (l.drop M).take M = l.drop M by apply List.take_of_length_le; rw [List.length_drop]; omega] at c
    rw [Nat.add_zero] at a
    rw [Nat.zero_add] at c
    exact equal_any w1.heap.size _ _ M M (M * 2) M _ _ w' (by have := hg.len; omega) (by have := hg.len; omega) a c))
  rw [hn2] at RD HWI
  have hM1 : 1 ≤ M := by have := hg.len; omega
  have hM2 : M ≤ 32 := by have := hg.len; omega
  have i1 : (((M * 2 : Nat)) : Int) / 2 = (M : Int) := by omega
  have i0 : (((M * 2 : Nat)) : Int) = (M : Int) * 2 := by omega
  have i2 : (M : Int) ≤ (M : Int) * 2 := by omega
  have i3 : (0 : Int) ≤ (M : Int) := by omega
  have i4 : ¬ (M * 2 = M) := by omega
  have i5 : M * 2 - M = M := by omega
  have e2 : (((f + 1 : Nat)) : Int) = (f : Int) + 1 := by omega
  rw [e2] at RD HWI ⊢
  have e3 : (((f : Int) + 1) == 0) = false := by rw [beq_eq_false_iff_ne]; omega
  have e6 : wrap64 (f : Int) = (f : Int) := IntWalk.wrap64_in _ (by have := hg.1; omega)
  have e5 : IntKind.i64.wrap ((f : Int) + 1 - 1) = (f : Int) := by rw [show (f : Int) + 1 - 1 = f by omega]; exact IntWalk.i64_in _ (by have := hg.1; omega)
  have he' : l.take M = l.drop M := by rw [hM]; exact he
  rw [decide_eq_true he'] at HEQ
  clear he he'
  unfold pv at *
  obtain ⟨s2, hs2⟩ : ∃ s, s = str (mkD (l.take (2 ^ f))) := ⟨_, rfl⟩
  rw [← hs2] at HWI ⊢
  obtain ⟨s, hs⟩ : ∃ s, s = str (mkD l) := ⟨_, rfl⟩
  rw [← hs] at RD HWI ⊢
  clear hs hs2 hg hM
  have H0 := Lib.hid (two_start w (1) ((f : Int) + 1) (x) s)
  obtain ⟨W0, hW⟩ : ∃ W0, W0 = (w.alloc (.cells #[.int .i64 (1), .int .i64 ((f : Int) + 1), .int .i64 (x), .string s] 23)).alloc (.cells #[.int .i64 (0), .int .i64 (0), .int .i64 (0), .string ⟨#[]⟩] 23) := ⟨_, rfl⟩
  rw [← hW] at H0
  have X0 := Lib.hid H0.out.1
  have Y0 := Lib.hid H0.out.2.1
  have HB0 := Lib.hid H0.out.2.2
  clear H0
  have NQ := eql_nil
  have OQ := eql_own
  have HW := Lib.hid hW.symm
  clear hW
  go_enter Try.func13, Try.ntmps13
  go_upto_region 1 with fail
  rw [HW.out]
  obtain ⟨⟨x0, x1, x2, x3⟩, f0, f1, f2, f3⟩ := And.intro X0.out.cells X0.out.free
  obtain ⟨⟨y0, y1, y2, y3⟩, g0, g1, g2, g3⟩ := And.intro Y0.out.cells Y0.out.free
  go_wp2_with fail
  clear x0 x1 x2 x3 f0 f1 f2 f3 y0 y1 y2 y3 g0 g1 g2 g3
  refine (RD.out _).mono ?_; rintro q w1 ⟨g, rfl, hg1, hg2, hb⟩
  have HEQ1 := Lib.hid (fun k => HEQ.out g w1 hg2 (w1.drewN k) (below_drewN (Below.refl _ _) k))
  have TB := Lib.hid hg2
  clear hg1 hg2
  have X1 := Lib.hid (X0.out.kept hb)
  have Y1 := Lib.hid (Y0.out.kept hb)
  have HB1 := Lib.hid (HB0.out.trans (hb.mono (Below.size HB0.out)))
  clear hb X0 Y0 HB0
  obtain ⟨⟨x0, x1, x2, x3⟩, f0, f1, f2, f3⟩ := And.intro X1.out.cells X1.out.free
  obtain ⟨⟨y0, y1, y2, y3⟩, g0, g1, g2, g3⟩ := And.intro Y1.out.cells Y1.out.free
  go_upto_region 5 with fail
  go_quiet ((go_at_call 28; exact Calls.quiet_of (HEQ1.out _)))
  clear x0 x1 x2 x3 f0 f1 f2 f3 y0 y1 y2 y3 g0 g1 g2 g3
  have TB2 := Lib.hid (show Tbl (w1.drewN nq) g l from TB.out)
  have hb := below_drewN (Below.refl w1.heap.size w1) nq
  have X2 := Lib.hid (X1.out.kept hb)
  have Y2 := Lib.hid (Y1.out.kept hb)
  have HB2 := Lib.hid (HB1.out.trans (hb.mono (Below.size HB1.out)))
  clear hb X1 Y1 HB1
  obtain ⟨⟨x0, x1, x2, x3⟩, f0, f1, f2, f3⟩ := And.intro X2.out.cells X2.out.free
  obtain ⟨⟨y0, y1, y2, y3⟩, g0, g1, g2, g3⟩ := And.intro Y2.out.cells Y2.out.free
  go_wp2_with fail
  clear x0 x1 x2 x3 f0 f1 f2 f3 y0 y1 y2 y3 g0 g1 g2 g3
  refine (HWI.out g _ TB2.out).mono ?_; rintro q w3 ⟨rfl, hb⟩
  have X3 := Lib.hid (X2.out.kept hb)
  have Y3 := Lib.hid (Y2.out.kept hb)
  have HB3 := Lib.hid (HB2.out.trans (hb.mono (Below.size HB2.out)))
  clear hb X2 Y2 HB2
  obtain ⟨⟨x0, x1, x2, x3⟩, f0, f1, f2, f3⟩ := And.intro X3.out.cells X3.out.free
  obtain ⟨⟨y0, y1, y2, y3⟩, g0, g1, g2, g3⟩ := And.intro Y3.out.cells Y3.out.free
  go_wp2_with fail
  clear x0 x1 x2 x3 f0 f1 f2 f3 y0 y1 y2 y3 g0 g1 g2 g3
  have Z := Lib.hid (Y3.out.set4 (1) ((f : Int)) (x) s2)
  obtain ⟨z0, z1, z2, z3⟩ := Z.out.cells
  refine bodyPost_ret (v := .tuple #[.agg #[.int .i64 (1), .int .i64 ((f : Int)), .int .i64 (x), .string s2], .int .i64 0]) (by simp [results, Try.results13, go_sem, z0, z1, z2, z3]) rfl ⟨rfl, ?_⟩
  exact below_set4 HB3.out (Nat.le_add_right _ 1)
theorem set_none (k d x : Int) (b : BA) (h0 : dirS k d b = []) (bits depth n : Int) (w : World) : Calls Try.prog 15 #[pv k d x b, .int .i64 bits, .int .i64 depth, .int .i64 n] w fun q w' => q = .returned (.tuple #[pv 0 0 0 [], .int .i64 2]) ∧ Below w.heap.size w w' := by
  have RD := Lib.hid (read_none k d x b h0)
  rw [show pv 0 0 0 [] = .agg #[.int .i64 0, .int .i64 0, .int .i64 0, .string ⟨#[]⟩] from rfl]
  unfold pv at *
  generalize str b = s at *
  have H0 := Lib.hid (two_start w (k) (d) (x) s)
  obtain ⟨W0, hW⟩ : ∃ W0, W0 = (w.alloc (.cells #[.int .i64 (k), .int .i64 (d), .int .i64 (x), .string s] 23)).alloc (.cells #[.int .i64 (0), .int .i64 (0), .int .i64 (0), .string ⟨#[]⟩] 23) := ⟨_, rfl⟩
  rw [← hW] at H0
  have X0 := Lib.hid H0.out.1
  have Y0 := Lib.hid H0.out.2.1
  have HB0 := Lib.hid H0.out.2.2
  clear H0
  have NQ := eql_nil
  have OQ := eql_own
  have HW := Lib.hid hW.symm
  clear hW
  go_enter Try.func15, Try.ntmps15
  go_upto_region 1 with fail
  rw [HW.out]
  obtain ⟨⟨x0, x1, x2, x3⟩, f0, f1, f2, f3⟩ := And.intro X0.out.cells X0.out.free
  obtain ⟨⟨y0, y1, y2, y3⟩, g0, g1, g2, g3⟩ := And.intro Y0.out.cells Y0.out.free
  go_wp2_with fail
  clear x0 x1 x2 x3 f0 f1 f2 f3 y0 y1 y2 y3 g0 g1 g2 g3
  refine (RD.out _).mono ?_; rintro q w1 ⟨rfl, hb⟩
  have X1 := Lib.hid (X0.out.kept hb)
  have Y1 := Lib.hid (Y0.out.kept hb)
  have HB1 := Lib.hid (HB0.out.trans (hb.mono (Below.size HB0.out)))
  clear hb X0 Y0 HB0
  obtain ⟨⟨x0, x1, x2, x3⟩, f0, f1, f2, f3⟩ := And.intro X1.out.cells X1.out.free
  obtain ⟨⟨y0, y1, y2, y3⟩, g0, g1, g2, g3⟩ := And.intro Y1.out.cells Y1.out.free
  go_wp2_with fail
  clear x0 x1 x2 x3 f0 f1 f2 f3 y0 y1 y2 y3 g0 g1 g2 g3
  have Z := Lib.hid (Y1.out.set4 (0) (0) (0) ⟨#[]⟩)
  obtain ⟨z0, z1, z2, z3⟩ := Z.out.cells
  refine bodyPost_ret (v := .tuple #[.agg #[.int .i64 (0), .int .i64 (0), .int .i64 (0), .string ⟨#[]⟩], .int .i64 2]) (by simp [results, Try.results15, go_sem, z0, z1, z2, z3]) rfl ⟨rfl, ?_⟩
  exact below_set4 HB1.out (Nat.le_add_right _ 1)
theorem set_depth (x : Int) (l : List Int) (e : Nat) (hg : GoodD l e) (bits depth n : Int) (h : ¬ (0 ≤ depth ∧ depth < (e : Int) + 1)) (w : World) : Calls Try.prog 15 #[pv 1 e x (mkD l), .int .i64 bits, .int .i64 depth, .int .i64 n] w fun q w' => q = .returned (.tuple #[pv 0 0 0 [], .int .i64 1]) ∧ Below w.heap.size w w' := by
  have RD := Lib.hid (read_some x l e hg)
  have HG := Lib.hid hg
  have e1 : IntKind.i64.wrap ((e : Int) + 1) = (e : Int) + 1 := IntWalk.i64_in _ (by have := hg.1; omega)
  have WD := Lib.hid (within_any depth ((e : Int) + 1))
  rw [inB_no h] at WD
  clear h
  rw [show pv 0 0 0 [] = .agg #[.int .i64 0, .int .i64 0, .int .i64 0, .string ⟨#[]⟩] from rfl]
  unfold pv at *
  obtain ⟨s, hs⟩ : ∃ s, s = str (mkD l) := ⟨_, rfl⟩
  rw [← hs] at RD ⊢
  have HS := Lib.hid hs
  clear hs hg
  have H0 := Lib.hid (two_start w (1) (e) (x) s)
  obtain ⟨W0, hW⟩ : ∃ W0, W0 = (w.alloc (.cells #[.int .i64 (1), .int .i64 (e), .int .i64 (x), .string s] 23)).alloc (.cells #[.int .i64 (0), .int .i64 (0), .int .i64 (0), .string ⟨#[]⟩] 23) := ⟨_, rfl⟩
  rw [← hW] at H0
  have X0 := Lib.hid H0.out.1
  have Y0 := Lib.hid H0.out.2.1
  have HB0 := Lib.hid H0.out.2.2
  clear H0
  have NQ := eql_nil
  have OQ := eql_own
  have HW := Lib.hid hW.symm
  clear hW
  go_enter Try.func15, Try.ntmps15
  go_upto_region 1 with fail
  rw [HW.out]
  obtain ⟨⟨x0, x1, x2, x3⟩, f0, f1, f2, f3⟩ := And.intro X0.out.cells X0.out.free
  obtain ⟨⟨y0, y1, y2, y3⟩, g0, g1, g2, g3⟩ := And.intro Y0.out.cells Y0.out.free
  go_wp2_with fail
  clear x0 x1 x2 x3 f0 f1 f2 f3 y0 y1 y2 y3 g0 g1 g2 g3
  refine (RD.out _).mono ?_; rintro q w1 ⟨g, rfl, hg1, hg2, hb⟩
  have TB := Lib.hid hg2
  clear hg1 hg2
  have X1 := Lib.hid (X0.out.kept hb)
  have Y1 := Lib.hid (Y0.out.kept hb)
  have HB1 := Lib.hid (HB0.out.trans (hb.mono (Below.size HB0.out)))
  clear hb X0 Y0 HB0
  obtain ⟨⟨x0, x1, x2, x3⟩, f0, f1, f2, f3⟩ := And.intro X1.out.cells X1.out.free
  obtain ⟨⟨y0, y1, y2, y3⟩, g0, g1, g2, g3⟩ := And.intro Y1.out.cells Y1.out.free
  go_wp2_with fail
  clear x0 x1 x2 x3 f0 f1 f2 f3 y0 y1 y2 y3 g0 g1 g2 g3
  refine (WD.out _).mono ?_; rintro q w9 ⟨rfl, rfl⟩
  obtain ⟨⟨x0, x1, x2, x3⟩, f0, f1, f2, f3⟩ := And.intro X1.out.cells X1.out.free
  obtain ⟨⟨y0, y1, y2, y3⟩, g0, g1, g2, g3⟩ := And.intro Y1.out.cells Y1.out.free
  go_wp2_with fail
  clear x0 x1 x2 x3 f0 f1 f2 f3 y0 y1 y2 y3 g0 g1 g2 g3
  have Z := Lib.hid (Y1.out.set4 (0) (0) (0) ⟨#[]⟩)
  obtain ⟨z0, z1, z2, z3⟩ := Z.out.cells
  refine bodyPost_ret (v := .tuple #[.agg #[.int .i64 (0), .int .i64 (0), .int .i64 (0), .string ⟨#[]⟩], .int .i64 1]) (by simp [results, Try.results15, go_sem, z0, z1, z2, z3]) rfl ⟨rfl, ?_⟩
  exact below_set4 HB1.out (Nat.le_add_right _ 1)
theorem set_bits (x : Int) (l : List Int) (e : Nat) (hg : GoodD l e) (bits : Int) (depth : Nat) (n : Int) (hd : depth ≤ e) (h : ¬ (0 ≤ bits ∧ bits < ((2 ^ depth : Nat) : Int))) (w : World) : Calls Try.prog 15 #[pv 1 e x (mkD l), .int .i64 bits, .int .i64 (depth : Int), .int .i64 n] w fun q w' => q = .returned (.tuple #[pv 0 0 0 [], .int .i64 1]) ∧ Below w.heap.size w w' := by
  have RD := Lib.hid (read_some x l e hg)
  have HG := Lib.hid hg
  have e1 : IntKind.i64.wrap ((e : Int) + 1) = (e : Int) + 1 := IntWalk.i64_in _ (by have := hg.1; omega)
  have WD := Lib.hid (within_any (depth : Int) ((e : Int) + 1))
  rw [inB_iff.2 ⟨by omega, by omega⟩] at WD
  have EN := Lib.hid (entries_any depth (by have := hg.1; omega))
  have WB := Lib.hid (within_any bits ((2 ^ depth : Nat) : Int))
  rw [inB_no h] at WB
  clear h hd
  generalize ((2 ^ depth : Nat) : Int) = N at *
  rw [show pv 0 0 0 [] = .agg #[.int .i64 0, .int .i64 0, .int .i64 0, .string ⟨#[]⟩] from rfl]
  unfold pv at *
  obtain ⟨s, hs⟩ : ∃ s, s = str (mkD l) := ⟨_, rfl⟩
  rw [← hs] at RD ⊢
  have HS := Lib.hid hs
  clear hs hg
  have H0 := Lib.hid (two_start w (1) (e) (x) s)
  obtain ⟨W0, hW⟩ : ∃ W0, W0 = (w.alloc (.cells #[.int .i64 (1), .int .i64 (e), .int .i64 (x), .string s] 23)).alloc (.cells #[.int .i64 (0), .int .i64 (0), .int .i64 (0), .string ⟨#[]⟩] 23) := ⟨_, rfl⟩
  rw [← hW] at H0
  have X0 := Lib.hid H0.out.1
  have Y0 := Lib.hid H0.out.2.1
  have HB0 := Lib.hid H0.out.2.2
  clear H0
  have NQ := eql_nil
  have OQ := eql_own
  have HW := Lib.hid hW.symm
  clear hW
  go_enter Try.func15, Try.ntmps15
  go_upto_region 1 with fail
  rw [HW.out]
  obtain ⟨⟨x0, x1, x2, x3⟩, f0, f1, f2, f3⟩ := And.intro X0.out.cells X0.out.free
  obtain ⟨⟨y0, y1, y2, y3⟩, g0, g1, g2, g3⟩ := And.intro Y0.out.cells Y0.out.free
  go_wp2_with fail
  clear x0 x1 x2 x3 f0 f1 f2 f3 y0 y1 y2 y3 g0 g1 g2 g3
  refine (RD.out _).mono ?_; rintro q w1 ⟨g, rfl, hg1, hg2, hb⟩
  have TB := Lib.hid hg2
  clear hg1 hg2
  have X1 := Lib.hid (X0.out.kept hb)
  have Y1 := Lib.hid (Y0.out.kept hb)
  have HB1 := Lib.hid (HB0.out.trans (hb.mono (Below.size HB0.out)))
  clear hb X0 Y0 HB0
  obtain ⟨⟨x0, x1, x2, x3⟩, f0, f1, f2, f3⟩ := And.intro X1.out.cells X1.out.free
  obtain ⟨⟨y0, y1, y2, y3⟩, g0, g1, g2, g3⟩ := And.intro Y1.out.cells Y1.out.free
  go_wp2_with fail
  clear x0 x1 x2 x3 f0 f1 f2 f3 y0 y1 y2 y3 g0 g1 g2 g3
  refine (WD.out _).mono ?_; rintro q w9 ⟨rfl, rfl⟩
  obtain ⟨⟨x0, x1, x2, x3⟩, f0, f1, f2, f3⟩ := And.intro X1.out.cells X1.out.free
  obtain ⟨⟨y0, y1, y2, y3⟩, g0, g1, g2, g3⟩ := And.intro Y1.out.cells Y1.out.free
  go_wp2_with fail
  clear x0 x1 x2 x3 f0 f1 f2 f3 y0 y1 y2 y3 g0 g1 g2 g3
  refine (EN.out _).mono ?_; rintro q w9 ⟨rfl, rfl⟩
  obtain ⟨⟨x0, x1, x2, x3⟩, f0, f1, f2, f3⟩ := And.intro X1.out.cells X1.out.free
  obtain ⟨⟨y0, y1, y2, y3⟩, g0, g1, g2, g3⟩ := And.intro Y1.out.cells Y1.out.free
  go_wp2_with fail
  clear x0 x1 x2 x3 f0 f1 f2 f3 y0 y1 y2 y3 g0 g1 g2 g3
  refine (WB.out _).mono ?_; rintro q w9 ⟨rfl, rfl⟩
  obtain ⟨⟨x0, x1, x2, x3⟩, f0, f1, f2, f3⟩ := And.intro X1.out.cells X1.out.free
  obtain ⟨⟨y0, y1, y2, y3⟩, g0, g1, g2, g3⟩ := And.intro Y1.out.cells Y1.out.free
  go_wp2_with fail
  clear x0 x1 x2 x3 f0 f1 f2 f3 y0 y1 y2 y3 g0 g1 g2 g3
  have Z := Lib.hid (Y1.out.set4 (0) (0) (0) ⟨#[]⟩)
  obtain ⟨z0, z1, z2, z3⟩ := Z.out.cells
  refine bodyPost_ret (v := .tuple #[.agg #[.int .i64 (0), .int .i64 (0), .int .i64 (0), .string ⟨#[]⟩], .int .i64 1]) (by simp [results, Try.results15, go_sem, z0, z1, z2, z3]) rfl ⟨rfl, ?_⟩
  exact below_set4 HB1.out (Nat.le_add_right _ 1)
theorem set_page (x : Int) (l : List Int) (e : Nat) (hg : GoodD l e) (bits : Int) (depth : Nat) (n : Int) (hd : depth ≤ e) (h : 0 ≤ bits ∧ bits < ((2 ^ depth : Nat) : Int)) (hn : ¬ (2 ≤ n ∧ n < 64)) (w : World) : Calls Try.prog 15 #[pv 1 e x (mkD l), .int .i64 bits, .int .i64 (depth : Int), .int .i64 n] w fun q w' => q = .returned (.tuple #[pv 0 0 0 [], .int .i64 1]) ∧ Below w.heap.size w w' := by
  have RD := Lib.hid (read_some x l e hg)
  have HG := Lib.hid hg
  have e1 : IntKind.i64.wrap ((e : Int) + 1) = (e : Int) + 1 := IntWalk.i64_in _ (by have := hg.1; omega)
  have WD := Lib.hid (within_any (depth : Int) ((e : Int) + 1))
  rw [inB_iff.2 ⟨by omega, by omega⟩] at WD
  have EN := Lib.hid (entries_any depth (by have := hg.1; omega))
  have WB := Lib.hid (within_any bits ((2 ^ depth : Nat) : Int))
  rw [inB_iff.2 h] at WB
  have RI := Lib.hid (right_any n)
  rw [rightB_no hn] at RI
  clear h hd hn
  generalize ((2 ^ depth : Nat) : Int) = N at *
  rw [show pv 0 0 0 [] = .agg #[.int .i64 0, .int .i64 0, .int .i64 0, .string ⟨#[]⟩] from rfl]
  unfold pv at *
  obtain ⟨s, hs⟩ : ∃ s, s = str (mkD l) := ⟨_, rfl⟩
  rw [← hs] at RD ⊢
  have HS := Lib.hid hs
  clear hs hg
  have H0 := Lib.hid (two_start w (1) (e) (x) s)
  obtain ⟨W0, hW⟩ : ∃ W0, W0 = (w.alloc (.cells #[.int .i64 (1), .int .i64 (e), .int .i64 (x), .string s] 23)).alloc (.cells #[.int .i64 (0), .int .i64 (0), .int .i64 (0), .string ⟨#[]⟩] 23) := ⟨_, rfl⟩
  rw [← hW] at H0
  have X0 := Lib.hid H0.out.1
  have Y0 := Lib.hid H0.out.2.1
  have HB0 := Lib.hid H0.out.2.2
  clear H0
  have NQ := eql_nil
  have OQ := eql_own
  have HW := Lib.hid hW.symm
  clear hW
  go_enter Try.func15, Try.ntmps15
  go_upto_region 1 with fail
  rw [HW.out]
  obtain ⟨⟨x0, x1, x2, x3⟩, f0, f1, f2, f3⟩ := And.intro X0.out.cells X0.out.free
  obtain ⟨⟨y0, y1, y2, y3⟩, g0, g1, g2, g3⟩ := And.intro Y0.out.cells Y0.out.free
  go_wp2_with fail
  clear x0 x1 x2 x3 f0 f1 f2 f3 y0 y1 y2 y3 g0 g1 g2 g3
  refine (RD.out _).mono ?_; rintro q w1 ⟨g, rfl, hg1, hg2, hb⟩
  have TB := Lib.hid hg2
  clear hg1 hg2
  have X1 := Lib.hid (X0.out.kept hb)
  have Y1 := Lib.hid (Y0.out.kept hb)
  have HB1 := Lib.hid (HB0.out.trans (hb.mono (Below.size HB0.out)))
  clear hb X0 Y0 HB0
  obtain ⟨⟨x0, x1, x2, x3⟩, f0, f1, f2, f3⟩ := And.intro X1.out.cells X1.out.free
  obtain ⟨⟨y0, y1, y2, y3⟩, g0, g1, g2, g3⟩ := And.intro Y1.out.cells Y1.out.free
  go_wp2_with fail
  clear x0 x1 x2 x3 f0 f1 f2 f3 y0 y1 y2 y3 g0 g1 g2 g3
  refine (WD.out _).mono ?_; rintro q w9 ⟨rfl, rfl⟩
  obtain ⟨⟨x0, x1, x2, x3⟩, f0, f1, f2, f3⟩ := And.intro X1.out.cells X1.out.free
  obtain ⟨⟨y0, y1, y2, y3⟩, g0, g1, g2, g3⟩ := And.intro Y1.out.cells Y1.out.free
  go_wp2_with fail
  clear x0 x1 x2 x3 f0 f1 f2 f3 y0 y1 y2 y3 g0 g1 g2 g3
  refine (EN.out _).mono ?_; rintro q w9 ⟨rfl, rfl⟩
  obtain ⟨⟨x0, x1, x2, x3⟩, f0, f1, f2, f3⟩ := And.intro X1.out.cells X1.out.free
  obtain ⟨⟨y0, y1, y2, y3⟩, g0, g1, g2, g3⟩ := And.intro Y1.out.cells Y1.out.free
  go_wp2_with fail
  clear x0 x1 x2 x3 f0 f1 f2 f3 y0 y1 y2 y3 g0 g1 g2 g3
  refine (WB.out _).mono ?_; rintro q w9 ⟨rfl, rfl⟩
  obtain ⟨⟨x0, x1, x2, x3⟩, f0, f1, f2, f3⟩ := And.intro X1.out.cells X1.out.free
  obtain ⟨⟨y0, y1, y2, y3⟩, g0, g1, g2, g3⟩ := And.intro Y1.out.cells Y1.out.free
  go_wp2_with fail
  clear x0 x1 x2 x3 f0 f1 f2 f3 y0 y1 y2 y3 g0 g1 g2 g3
  refine (RI.out _).mono ?_; rintro q w9 ⟨rfl, rfl⟩
  obtain ⟨⟨x0, x1, x2, x3⟩, f0, f1, f2, f3⟩ := And.intro X1.out.cells X1.out.free
  obtain ⟨⟨y0, y1, y2, y3⟩, g0, g1, g2, g3⟩ := And.intro Y1.out.cells Y1.out.free
  go_wp2_with fail
  clear x0 x1 x2 x3 f0 f1 f2 f3 y0 y1 y2 y3 g0 g1 g2 g3
  have Z := Lib.hid (Y1.out.set4 (0) (0) (0) ⟨#[]⟩)
  obtain ⟨z0, z1, z2, z3⟩ := Z.out.cells
  refine bodyPost_ret (v := .tuple #[.agg #[.int .i64 (0), .int .i64 (0), .int .i64 (0), .string ⟨#[]⟩], .int .i64 1]) (by simp [results, Try.results15, go_sem, z0, z1, z2, z3]) rfl ⟨rfl, ?_⟩
  exact below_set4 HB1.out (Nat.le_add_right _ 1)
set_option maxHeartbeats 1000000 in
theorem set_ok (x : Int) (l : List Int) (e : Nat) (hg : GoodD l e) (bits depth : Nat) (n : Int) (hd : depth ≤ e) (h : bits < 2 ^ depth) (hn : 2 ≤ n ∧ n < 64) (w : World) : Calls Try.prog 15 #[pv 1 e x (mkD l), .int .i64 (bits : Int), .int .i64 (depth : Int), .int .i64 n] w fun q w' => q = .returned (.tuple #[pv 1 e x (mkD (setS l bits depth n)), .int .i64 0]) ∧ Below w.heap.size w w' := by
  have RD := Lib.hid (read_some x l e hg)
  have HG := Lib.hid hg
  have e1 : IntKind.i64.wrap ((e : Int) + 1) = (e : Int) + 1 := IntWalk.i64_in _ (by have := hg.1; omega)
  have WD := Lib.hid (within_any (depth : Int) ((e : Int) + 1))
  rw [inB_iff.2 ⟨by omega, by omega⟩] at WD
  have EN := Lib.hid (entries_any depth (by have := hg.1; omega))
  have WB := Lib.hid (within_any (bits : Int) ((2 ^ depth : Nat) : Int))
  rw [inB_iff.2 ⟨by omega, by omega⟩] at WB
  have RI := Lib.hid (right_any n)
  rw [rightB_iff.2 hn] at RI
  have HAT := Lib.hid (fun (g : Nat) (w1 : World) (ht : Tbl w1 g l) (m : Nat) (hm : m ≤ 1000) (i : Nat) (w' : World) (hi : i < m) (hb : Below w1.heap.size w1 w') => (show Calls Try.prog 31 #[.agg #[.slice (some ⟨g, 0, none⟩) l.length l.length, .int .i64 (bits : Int), .int .i64 (depth : Int), .int .i64 n], .int .i64 i] w' fun e w'' => e = .returned (.int .i64 (setF l bits depth n i)) ∧ Below w'.heap.size w' w'' from
    uat_any w1.heap.size (some ⟨g, 0, none⟩) l.length l.length l bits depth i n w' ((ht.nums hg.max).below hb) (Below.size hb) (by have := hg.len; omega) (by have := hg.len; omega) (by omega) (by have := hg.1; omega)))
  have HWI := Lib.hid (fun (g : Nat) (w1 : World) (ht : Tbl w1 g l) => with_uat 1 e x (mkD l) e (.agg #[.slice (some ⟨g, 0, none⟩) l.length l.length, .int .i64 (bits : Int), .int .i64 (depth : Int), .int .i64 n]) (setF l bits depth n) hg.1 (fun i _ => setF_in hg hn i) w1 (fun i w' hi hb => HAT.out g w1 ht _ (by have := pow_le hg.1; omega) i w' hi hb))
  rw [show tabF (setF l bits depth n) (2 ^ e) = setS l bits depth n by unfold setS; rw [hg.2.1]] at HWI
  clear HAT h hn hd
  generalize ((2 ^ depth : Nat) : Int) = N at *
  unfold pv at *
  obtain ⟨s2, hs2⟩ : ∃ s, s = str (mkD (setS l bits depth n)) := ⟨_, rfl⟩
  rw [← hs2] at HWI ⊢
  obtain ⟨s, hs⟩ : ∃ s, s = str (mkD l) := ⟨_, rfl⟩
  rw [← hs] at RD HWI ⊢
  clear hs hs2 hg
  have H0 := Lib.hid (two_start w (1) (e) (x) s)
  obtain ⟨W0, hW⟩ : ∃ W0, W0 = (w.alloc (.cells #[.int .i64 (1), .int .i64 (e), .int .i64 (x), .string s] 23)).alloc (.cells #[.int .i64 (0), .int .i64 (0), .int .i64 (0), .string ⟨#[]⟩] 23) := ⟨_, rfl⟩
  rw [← hW] at H0
  have X0 := Lib.hid H0.out.1
  have Y0 := Lib.hid H0.out.2.1
  have HB0 := Lib.hid H0.out.2.2
  clear H0
  have NQ := eql_nil
  have OQ := eql_own
  have HW := Lib.hid hW.symm
  clear hW
  go_enter Try.func15, Try.ntmps15
  go_upto_region 1 with fail
  rw [HW.out]
  obtain ⟨⟨x0, x1, x2, x3⟩, f0, f1, f2, f3⟩ := And.intro X0.out.cells X0.out.free
  obtain ⟨⟨y0, y1, y2, y3⟩, g0, g1, g2, g3⟩ := And.intro Y0.out.cells Y0.out.free
  go_wp2_with fail
  clear x0 x1 x2 x3 f0 f1 f2 f3 y0 y1 y2 y3 g0 g1 g2 g3
  refine (RD.out _).mono ?_; rintro q w1 ⟨g, rfl, hg1, hg2, hb⟩
  have TB := Lib.hid hg2
  clear hg1 hg2
  have X1 := Lib.hid (X0.out.kept hb)
  have Y1 := Lib.hid (Y0.out.kept hb)
  have HB1 := Lib.hid (HB0.out.trans (hb.mono (Below.size HB0.out)))
  clear hb X0 Y0 HB0
  obtain ⟨⟨x0, x1, x2, x3⟩, f0, f1, f2, f3⟩ := And.intro X1.out.cells X1.out.free
  obtain ⟨⟨y0, y1, y2, y3⟩, g0, g1, g2, g3⟩ := And.intro Y1.out.cells Y1.out.free
  go_wp2_with fail
  clear x0 x1 x2 x3 f0 f1 f2 f3 y0 y1 y2 y3 g0 g1 g2 g3
  refine (WD.out _).mono ?_; rintro q w9 ⟨rfl, rfl⟩
  obtain ⟨⟨x0, x1, x2, x3⟩, f0, f1, f2, f3⟩ := And.intro X1.out.cells X1.out.free
  obtain ⟨⟨y0, y1, y2, y3⟩, g0, g1, g2, g3⟩ := And.intro Y1.out.cells Y1.out.free
  go_wp2_with fail
  clear x0 x1 x2 x3 f0 f1 f2 f3 y0 y1 y2 y3 g0 g1 g2 g3
  refine (EN.out _).mono ?_; rintro q w9 ⟨rfl, rfl⟩
  obtain ⟨⟨x0, x1, x2, x3⟩, f0, f1, f2, f3⟩ := And.intro X1.out.cells X1.out.free
  obtain ⟨⟨y0, y1, y2, y3⟩, g0, g1, g2, g3⟩ := And.intro Y1.out.cells Y1.out.free
  go_wp2_with fail
  clear x0 x1 x2 x3 f0 f1 f2 f3 y0 y1 y2 y3 g0 g1 g2 g3
  refine (WB.out _).mono ?_; rintro q w9 ⟨rfl, rfl⟩
  obtain ⟨⟨x0, x1, x2, x3⟩, f0, f1, f2, f3⟩ := And.intro X1.out.cells X1.out.free
  obtain ⟨⟨y0, y1, y2, y3⟩, g0, g1, g2, g3⟩ := And.intro Y1.out.cells Y1.out.free
  go_wp2_with fail
  clear x0 x1 x2 x3 f0 f1 f2 f3 y0 y1 y2 y3 g0 g1 g2 g3
  refine (RI.out _).mono ?_; rintro q w9 ⟨rfl, rfl⟩
  obtain ⟨⟨x0, x1, x2, x3⟩, f0, f1, f2, f3⟩ := And.intro X1.out.cells X1.out.free
  obtain ⟨⟨y0, y1, y2, y3⟩, g0, g1, g2, g3⟩ := And.intro Y1.out.cells Y1.out.free
  go_wp2_with fail
  clear x0 x1 x2 x3 f0 f1 f2 f3 y0 y1 y2 y3 g0 g1 g2 g3
  refine (HWI.out g _ TB.out).mono ?_; rintro q w2 ⟨rfl, hb⟩
  have X2 := Lib.hid (X1.out.kept hb)
  have Y2 := Lib.hid (Y1.out.kept hb)
  have HB2 := Lib.hid (HB1.out.trans (hb.mono (Below.size HB1.out)))
  clear hb X1 Y1 HB1
  obtain ⟨⟨x0, x1, x2, x3⟩, f0, f1, f2, f3⟩ := And.intro X2.out.cells X2.out.free
  obtain ⟨⟨y0, y1, y2, y3⟩, g0, g1, g2, g3⟩ := And.intro Y2.out.cells Y2.out.free
  go_wp2_with fail
  clear x0 x1 x2 x3 f0 f1 f2 f3 y0 y1 y2 y3 g0 g1 g2 g3
  have Z := Lib.hid (Y2.out.set4 (1) ((e : Int)) (x) s2)
  obtain ⟨z0, z1, z2, z3⟩ := Z.out.cells
  refine bodyPost_ret (v := .tuple #[.agg #[.int .i64 (1), .int .i64 ((e : Int)), .int .i64 (x), .string s2], .int .i64 0]) (by simp [results, Try.results15, go_sem, z0, z1, z2, z3]) rfl ⟨rfl, ?_⟩
  exact below_set4 HB2.out (Nat.le_add_right _ 1)
theorem new_no (n : Int) (hn : ¬ (2 ≤ n ∧ n < 64)) (w : World) : Calls Try.prog 9 #[.int .i64 n] w fun q w' => q = .returned (.tuple #[pv 0 0 0 [], .bool false]) ∧ Below w.heap.size w w' := by
  have RI := Lib.hid (right_any n)
  rw [rightB_no hn] at RI
  rw [show pv 0 0 0 [] = .agg #[.int .i64 0, .int .i64 0, .int .i64 0, .string ⟨#[]⟩] from rfl]
  have Y0 := Lib.hid (PBox.new w 0 0 0 ⟨#[]⟩)
  have HB0 := Lib.hid ((Below.refl w.heap.size w).alloc (Nat.le_refl _) (.cells #[.int .i64 0, .int .i64 0, .int .i64 0, .string ⟨#[]⟩] 23))
  obtain ⟨W0, hW⟩ : ∃ W0, W0 = w.alloc (.cells #[.int .i64 0, .int .i64 0, .int .i64 0, .string ⟨#[]⟩] 23) := ⟨_, rfl⟩
  rw [← hW] at Y0 HB0
  have HW := Lib.hid hW.symm
  clear hW
  go_enter Try.func9, Try.ntmps9
  go_upto_region 1 with fail
  rw [HW.out]
  go_wp2_with fail
  refine (RI.out _).mono ?_; rintro q w1 ⟨rfl, rfl⟩
  obtain ⟨⟨y0, y1, y2, y3⟩, g0, g1, g2, g3⟩ := And.intro Y0.out.cells Y0.out.free
  go_wp2_with fail
  have Z := Lib.hid (Y0.out.set4 (0) (0) (0) ⟨#[]⟩)
  obtain ⟨z0, z1, z2, z3⟩ := Z.out.cells
  refine bodyPost_ret (v := .tuple #[.agg #[.int .i64 (0), .int .i64 (0), .int .i64 (0), .string ⟨#[]⟩], .bool false]) (by simp [results, Try.results9, go_sem, z0, z1, z2, z3]) rfl ⟨rfl, ?_⟩
  exact below_set4 HB0.out (Nat.le_refl _)
theorem new_row (w : World) (n : Int) : (Instr.buildSlice 63 1 #[(0, .int .i64 n)]).run Try.prog w = .ok (.slice (some ⟨w.heap.size, 0, none⟩) 1 1) (w.alloc (.cells #[.int .i64 n] 3)) := by kernel_rfl
theorem new_ok (n : Int) (hn : 2 ≤ n ∧ n < 64) (w : World) : Calls Try.prog 9 #[.int .i64 n] w fun q w' => q = .returned (.tuple #[pv 1 0 0 (mkD [n]), .bool true]) ∧ Below w.heap.size w w' := by
  have RI := Lib.hid (right_any n)
  rw [rightB_iff.2 hn] at RI
  have Y0 := Lib.hid (PBox.new w 0 0 0 ⟨#[]⟩)
  have HB0 := Lib.hid ((Below.refl w.heap.size w).alloc (Nat.le_refl _) (.cells #[.int .i64 0, .int .i64 0, .int .i64 0, .string ⟨#[]⟩] 23))
  obtain ⟨W0, hW⟩ : ∃ W0, W0 = w.alloc (.cells #[.int .i64 0, .int .i64 0, .int .i64 0, .string ⟨#[]⟩] 23) := ⟨_, rfl⟩
  rw [← hW] at Y0 HB0
  have HW := Lib.hid hW.symm
  clear hW
  have hg := good_one hn
  obtain ⟨V, hV⟩ : ∃ V, V = W0.alloc (.cells #[.int .i64 n] 3) := ⟨_, rfl⟩
  have HTB := Lib.hid (show Tbl V W0.heap.size [n] from by rw [hV]; exact heap_alloc_new W0 _)
  have Y1 := Lib.hid (show PBox V w.heap.size 0 0 0 ⟨#[]⟩ from by rw [hV]; exact Y0.out.kept ((Below.refl _ _).alloc (Nat.le_refl _) _))
  have HB1 := Lib.hid (show Below w.heap.size w V from by rw [hV]; exact HB0.out.alloc (Below.size HB0.out) _)
  have HV := Lib.hid hV.symm
  clear hV
  have HWI := Lib.hid (with_tat 1 0 0 [] 0 (.slice (some ⟨W0.heap.size, 0, none⟩) 1 1) (tatF [n]) (by omega) (fun i _ => tatF_in hg i) V (fun i w' hi hb => by
    have h := tat_any V.heap.size (some ⟨W0.heap.size, 0, none⟩) 1 1 [n] i w' ((HTB.out.nums (by unfold maxLen; simp)).below hb) (by omega) (by omega) (by have : 2 ^ 0 = 1 := rfl; omega)
    refine h.mono ?_
    rintro e w2 ⟨h1, rfl⟩
    exact ⟨h1, Below.refl _ _⟩))
  rw [show tabF (tatF [n]) (2 ^ 0) = [n] from rfl, show ((0 : Nat) : Int) = 0 from rfl] at HWI
  unfold pv at *
  rw [show str [] = ByteArray.mk #[] from rfl] at HWI
  generalize str (mkD [n]) = s2 at *
  clear hg hn HTB
  go_enter Try.func9, Try.ntmps9
  go_upto_region 1 with fail
  rw [HW.out]
  go_wp2_with fail
  refine (RI.out _).mono ?_; rintro q w1 ⟨rfl, rfl⟩
  go_wp2_with fail
  rw [HV.out]
  refine HWI.out.mono ?_; rintro q w2 ⟨rfl, hb⟩
  have Y2 := Lib.hid (Y1.out.kept hb)
  have HB2 := Lib.hid (HB1.out.trans (hb.mono (Below.size HB1.out)))
  obtain ⟨⟨y0, y1, y2, y3⟩, g0, g1, g2, g3⟩ := And.intro Y2.out.cells Y2.out.free
  go_wp2_with fail
  have Z := Lib.hid (Y2.out.set4 (1) (0) (0) s2)
  obtain ⟨z0, z1, z2, z3⟩ := Z.out.cells
  refine bodyPost_ret (v := .tuple #[.agg #[.int .i64 (1), .int .i64 (0), .int .i64 (0), .string s2], .bool true]) (by simp [results, Try.results9, go_sem, z0, z1, z2, z3]) rfl ⟨rfl, ?_⟩
  exact below_set4 HB2.out (Nat.le_refl _)
end Go.Proofs.Ytojfnafahlpjjaa
