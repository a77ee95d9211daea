/- The contracts of Take and Give. -/
import Derived.Test.YtkbbpdpalfpchaaDoorNew
namespace Go.Proofs.YtkbbpdpalfpchaaDoor
open Go.ChangeShapes Go.WideShapes Go.ChangeAt Go.RowKit
set_option linter.unusedVariables false
set_option linter.unusedSimpArgs false
set_option maxRecDepth 100000
theorem mk_of_marks {k : Int} {b : BA} (h : marksS k b ≠ []) : k = 2 ∧ b = mk (marksS k b) ∧ Good (marksS k b) := by
  rcases marksS_cases k b with h' | h'
  · exact absurd h' h
  · exact ⟨h'.1, h'.2.2, h'.2.1⟩
/-- What Take answers, of a map of these marks. -/
def resTake (k d x : Int) (b : BA) : Value :=
  let m := marksS k b
  if m = [] then .tuple #[pv 0 0 0 [], .int .i64 0, .int .i64 2]
  else if fst m < m.length then .tuple #[pv k d x (mk (m.set (fst m) 1)), .int .i64 (fst m), .int .i64 0]
  else .tuple #[pv 0 0 0 [], .int .i64 0, .int .i64 6]
def resGive (k d x : Int) (b : BA) (n : Int) : Value :=
  let m := marksS k b
  if m = [] then .tuple #[pv 0 0 0 [], .int .i64 2]
  else if 2 ≤ n ∧ usedS m n = true then .tuple #[pv k d x (mk (m.set n.toNat 2)), .int .i64 0]
  else .tuple #[pv 0 0 0 [], .int .i64 1]
/-- The start of a walk: the page's box, the answer's. -/
theorem two_start (w : World) (k d x : Int) (b : ByteArray) :
    PBox ((w.alloc (.cells #[.int .i64 k, .int .i64 d, .int .i64 x, .string b] 23)).alloc (.cells #[.int .i64 0, .int .i64 0, .int .i64 0, .string ⟨#[]⟩] 23)) w.heap.size k d x b ∧
    PBox ((w.alloc (.cells #[.int .i64 k, .int .i64 d, .int .i64 x, .string b] 23)).alloc (.cells #[.int .i64 0, .int .i64 0, .int .i64 0, .string ⟨#[]⟩] 23)) (w.heap.size + 1) 0 0 0 ⟨#[]⟩ ∧
    Below w.heap.size w ((w.alloc (.cells #[.int .i64 k, .int .i64 d, .int .i64 x, .string b] 23)).alloc (.cells #[.int .i64 0, .int .i64 0, .int .i64 0, .string ⟨#[]⟩] 23)) := by
  refine ⟨(PBox.new w k d x b).kept ((Below.refl _ _).alloc (Nat.le_refl _) _), ?_, ((Below.refl w.heap.size w).alloc (Nat.le_refl _) _).alloc (by simp) _⟩
  have := PBox.new (w.alloc (.cells #[.int .i64 k, .int .i64 d, .int .i64 x, .string b] 23)) 0 0 0 ⟨#[]⟩
  rw [World.size_alloc] at this
  exact this
theorem mk_ne_nil {m : BA} (h : m ≠ []) : (str m).toList ≠ [] := by rw [str_list]; exact h
theorem index_fst (m : BA) : Lib.indexByte m 2 = if fst m = m.length then -1 else (fst m : Int) := indexByte_findIdx m 2
theorem take_none (k d x : Int) (b : BA) (hb : b.length ≤ 1000) (h0 : marksS k b = []) (w : World) : Calls Tryd.prog 12 #[pv k d x b] w fun e w' => e = .returned (.tuple #[pv 0 0 0 [], .int .i64 0, .int .i64 2]) ∧ Below w.heap.size w w' := by
  have MA := Lib.hid (marks_any k d x b hb)
  rw [h0, show str [] = ByteArray.mk #[] from rfl] at MA
  rw [show pv 0 0 0 [] = .agg #[.int .i64 0, .int .i64 0, .int .i64 0, .string ⟨#[]⟩] from rfl]
  unfold pv at *
  generalize str b = s at *
  have H0 := Lib.hid (two_start w k d x s)
  obtain ⟨W0, hW⟩ : ∃ W0, W0 = (w.alloc (.cells #[.int .i64 k, .int .i64 d, .int .i64 x, .string s] 23)).alloc (.cells #[.int .i64 0, .int .i64 0, .int .i64 0, .string ⟨#[]⟩] 23) := ⟨_, rfl⟩
  rw [← hW] at H0
  have X0 := Lib.hid H0.out.1
  have Y0 := Lib.hid H0.out.2.1
  have HB0 := Lib.hid H0.out.2.2
  clear H0
  go_enter Tryd.func12, Tryd.ntmps12
  go_wp2_with fail
  rw [← hW]
  clear hW
  obtain ⟨⟨x0, x1, x2, x3⟩, f0, f1, f2, f3⟩ := And.intro X0.out.cells X0.out.free
  obtain ⟨⟨y0, y1, y2, y3⟩, g0, g1, g2, g3⟩ := And.intro Y0.out.cells Y0.out.free
  go_wp2_with fail
  clear x0 x1 x2 x3 f0 f1 f2 f3 y0 y1 y2 y3 g0 g1 g2 g3
  refine (MA.out _).mono ?_; rintro e w1 ⟨rfl, hb⟩
  have X1 := Lib.hid (X0.out.kept hb)
  have Y1 := Lib.hid (Y0.out.kept hb)
  have HB1 := Lib.hid (HB0.out.trans (hb.mono HB0.out.size))
  clear hb X0 Y0 HB0
  obtain ⟨⟨x0, x1, x2, x3⟩, f0, f1, f2, f3⟩ := And.intro X1.out.cells X1.out.free
  obtain ⟨⟨y0, y1, y2, y3⟩, g0, g1, g2, g3⟩ := And.intro Y1.out.cells Y1.out.free
  go_wp2_with fail
  clear x0 x1 x2 x3 f0 f1 f2 f3 y0 y1 y2 y3 g0 g1 g2 g3
  have Z := Lib.hid (Y1.out.set4 0 0 0 ⟨#[]⟩)
  obtain ⟨z0, z1, z2, z3⟩ := Z.out.cells
  refine bodyPost_ret (v := .tuple #[.agg #[.int .i64 0, .int .i64 0, .int .i64 0, .string ⟨#[]⟩], .int .i64 0, .int .i64 2]) (by simp [results, Tryd.results12, go_sem, z0, z1, z2, z3]) rfl ⟨rfl, ?_⟩
  exact below_set4 HB1.out (Nat.le_add_right _ 1)
theorem take_full (d x : Int) (m : BA) (hg : Good m) (hf : fst m = m.length) (w : World) : Calls Tryd.prog 12 #[pv 2 d x (mk m)] w fun e w' => e = .returned (.tuple #[pv 0 0 0 [], .int .i64 0, .int .i64 6]) ∧ Below w.heap.size w w' := by
  have MA := Lib.hid (marks_any 2 d x (mk m) (by rw [hg.len]; omega))
  rw [marksS_mk hg] at MA
  have IX := Lib.hid (index_any m 2)
  rw [index_fst, if_pos hf] at IX
  rw [show pv 0 0 0 [] = .agg #[.int .i64 0, .int .i64 0, .int .i64 0, .string ⟨#[]⟩] from rfl]
  have hne := mk_ne_nil hg.ne
  unfold pv at *
  generalize str (mk m) = s at *
  generalize str m = sm at *
  have hnb : (sm.toList == []) = false := by simpa using hne
  clear hf hg
  have H0 := Lib.hid (two_start w 2 d x s)
  obtain ⟨W0, hW⟩ : ∃ W0, W0 = (w.alloc (.cells #[.int .i64 2, .int .i64 d, .int .i64 x, .string s] 23)).alloc (.cells #[.int .i64 0, .int .i64 0, .int .i64 0, .string ⟨#[]⟩] 23) := ⟨_, rfl⟩
  rw [← hW] at H0
  have X0 := Lib.hid H0.out.1
  have Y0 := Lib.hid H0.out.2.1
  have HB0 := Lib.hid H0.out.2.2
  clear H0
  go_enter Tryd.func12, Tryd.ntmps12
  go_wp2_with fail
  rw [← hW]
  clear hW
  obtain ⟨⟨x0, x1, x2, x3⟩, f0, f1, f2, f3⟩ := And.intro X0.out.cells X0.out.free
  obtain ⟨⟨y0, y1, y2, y3⟩, g0, g1, g2, g3⟩ := And.intro Y0.out.cells Y0.out.free
  go_wp2_with fail
  clear x0 x1 x2 x3 f0 f1 f2 f3 y0 y1 y2 y3 g0 g1 g2 g3
  refine (MA.out _).mono ?_; rintro e w1 ⟨rfl, hb⟩
  have X1 := Lib.hid (X0.out.kept hb)
  have Y1 := Lib.hid (Y0.out.kept hb)
  have HB1 := Lib.hid (HB0.out.trans (hb.mono HB0.out.size))
  clear hb X0 Y0 HB0
  obtain ⟨⟨x0, x1, x2, x3⟩, f0, f1, f2, f3⟩ := And.intro X1.out.cells X1.out.free
  obtain ⟨⟨y0, y1, y2, y3⟩, g0, g1, g2, g3⟩ := And.intro Y1.out.cells Y1.out.free
  go_wp2_with fail
  clear x0 x1 x2 x3 f0 f1 f2 f3 y0 y1 y2 y3 g0 g1 g2 g3
  refine (IX.out _).mono ?_; rintro e w91 ⟨rfl, rfl⟩
  obtain ⟨⟨x0, x1, x2, x3⟩, f0, f1, f2, f3⟩ := And.intro X1.out.cells X1.out.free
  obtain ⟨⟨y0, y1, y2, y3⟩, g0, g1, g2, g3⟩ := And.intro Y1.out.cells Y1.out.free
  go_wp2_with fail
  clear x0 x1 x2 x3 f0 f1 f2 f3 y0 y1 y2 y3 g0 g1 g2 g3
  have Z := Lib.hid (Y1.out.set4 0 0 0 ⟨#[]⟩)
  obtain ⟨z0, z1, z2, z3⟩ := Z.out.cells
  refine bodyPost_ret (v := .tuple #[.agg #[.int .i64 0, .int .i64 0, .int .i64 0, .string ⟨#[]⟩], .int .i64 0, .int .i64 6]) (by simp [results, Tryd.results12, go_sem, z0, z1, z2, z3]) rfl ⟨rfl, ?_⟩
  exact below_set4 HB1.out (Nat.le_add_right _ 1)
theorem take_some (d x : Int) (m : BA) (hg : Good m) (hf : fst m < m.length) (w : World) : Calls Tryd.prog 12 #[pv 2 d x (mk m)] w fun e w' => e = .returned (.tuple #[pv 2 d x (mk (m.set (fst m) 1)), .int .i64 (fst m), .int .i64 0]) ∧ Below w.heap.size w w' := by
  have MA := Lib.hid (marks_any 2 d x (mk m) (by rw [hg.len]; omega))
  rw [marksS_mk hg] at MA
  have IX := Lib.hid (index_any m 2)
  rw [index_fst, if_neg (by omega)] at IX
  have WI := Lib.hid (with_any 2 d x m 1 (fst m) (by have := hg.1; omega) hf)
  have hne := mk_ne_nil hg.ne
  unfold pv at *
  generalize str (mk (m.set (fst m) 1)) = s2 at *
  generalize str (mk m) = s at *
  generalize str m = sm at *
  have hnb : (sm.toList == []) = false := by simpa using hne
  generalize fst m = n at *
  have k0 : ¬ (n : Int) < 0 := by omega
  clear hf hg
  have H0 := Lib.hid (two_start w 2 d x s)
  obtain ⟨W0, hW⟩ : ∃ W0, W0 = (w.alloc (.cells #[.int .i64 2, .int .i64 d, .int .i64 x, .string s] 23)).alloc (.cells #[.int .i64 0, .int .i64 0, .int .i64 0, .string ⟨#[]⟩] 23) := ⟨_, rfl⟩
  rw [← hW] at H0
  have X0 := Lib.hid H0.out.1
  have Y0 := Lib.hid H0.out.2.1
  have HB0 := Lib.hid H0.out.2.2
  clear H0
  go_enter Tryd.func12, Tryd.ntmps12
  go_wp2_with fail
  rw [← hW]
  clear hW
  obtain ⟨⟨x0, x1, x2, x3⟩, f0, f1, f2, f3⟩ := And.intro X0.out.cells X0.out.free
  obtain ⟨⟨y0, y1, y2, y3⟩, g0, g1, g2, g3⟩ := And.intro Y0.out.cells Y0.out.free
  go_wp2_with fail
  clear x0 x1 x2 x3 f0 f1 f2 f3 y0 y1 y2 y3 g0 g1 g2 g3
  refine (MA.out _).mono ?_; rintro e w1 ⟨rfl, hb⟩
  have X1 := Lib.hid (X0.out.kept hb)
  have Y1 := Lib.hid (Y0.out.kept hb)
  have HB1 := Lib.hid (HB0.out.trans (hb.mono HB0.out.size))
  clear hb X0 Y0 HB0
  obtain ⟨⟨x0, x1, x2, x3⟩, f0, f1, f2, f3⟩ := And.intro X1.out.cells X1.out.free
  obtain ⟨⟨y0, y1, y2, y3⟩, g0, g1, g2, g3⟩ := And.intro Y1.out.cells Y1.out.free
  go_wp2_with fail
  clear x0 x1 x2 x3 f0 f1 f2 f3 y0 y1 y2 y3 g0 g1 g2 g3
  refine (IX.out _).mono ?_; rintro e w91 ⟨rfl, rfl⟩
  obtain ⟨⟨x0, x1, x2, x3⟩, f0, f1, f2, f3⟩ := And.intro X1.out.cells X1.out.free
  obtain ⟨⟨y0, y1, y2, y3⟩, g0, g1, g2, g3⟩ := And.intro Y1.out.cells Y1.out.free
  go_wp2_with fail
  clear x0 x1 x2 x3 f0 f1 f2 f3 y0 y1 y2 y3 g0 g1 g2 g3
  refine (WI.out _).mono ?_; rintro e w2 ⟨rfl, hb⟩
  have X2 := Lib.hid (X1.out.kept hb)
  have Y2 := Lib.hid (Y1.out.kept hb)
  have HB2 := Lib.hid (HB1.out.trans (hb.mono HB1.out.size))
  clear hb X1 Y1 HB1
  obtain ⟨⟨x0, x1, x2, x3⟩, f0, f1, f2, f3⟩ := And.intro X2.out.cells X2.out.free
  obtain ⟨⟨y0, y1, y2, y3⟩, g0, g1, g2, g3⟩ := And.intro Y2.out.cells Y2.out.free
  go_wp2_with fail
  clear x0 x1 x2 x3 f0 f1 f2 f3 y0 y1 y2 y3 g0 g1 g2 g3
  have Z := Lib.hid (Y2.out.set4 2 d x s2)
  obtain ⟨z0, z1, z2, z3⟩ := Z.out.cells
  refine bodyPost_ret (v := .tuple #[.agg #[.int .i64 2, .int .i64 d, .int .i64 x, .string s2], .int .i64 n, .int .i64 0]) (by simp [results, Tryd.results12, go_sem, z0, z1, z2, z3]) rfl ⟨rfl, ?_⟩
  exact below_set4 HB2.out (Nat.le_add_right _ 1)
theorem take_any (k d x : Int) (b : BA) (hb : b.length ≤ 1000) (w : World) : Calls Tryd.prog 12 #[pv k d x b] w fun e w' => e = .returned (resTake k d x b) ∧ Below w.heap.size w w' := by
  unfold resTake
  dsimp only
  by_cases h0 : marksS k b = []
  · rw [if_pos h0]
    exact take_none k d x b hb h0 w
  · rw [if_neg h0]
    obtain ⟨hk, he, hg⟩ := mk_of_marks h0
    generalize marksS k b = m at *
    subst hk he
    by_cases hf : fst m < m.length
    · rw [if_pos hf]
      exact take_some d x m hg hf w
    · rw [if_neg hf]
      exact take_full d x m hg (Nat.le_antisymm (fst_le m) (by omega)) w
theorem give_none (k d x n : Int) (b : BA) (hb : b.length ≤ 1000) (h0 : marksS k b = []) (w : World) : Calls Tryd.prog 14 #[pv k d x b, .int .i64 n] w fun e w' => e = .returned (.tuple #[pv 0 0 0 [], .int .i64 2]) ∧ Below w.heap.size w w' := by
  have MA := Lib.hid (marks_any k d x b hb)
  rw [h0, show str [] = ByteArray.mk #[] from rfl] at MA
  rw [show pv 0 0 0 [] = .agg #[.int .i64 0, .int .i64 0, .int .i64 0, .string ⟨#[]⟩] from rfl]
  unfold pv at *
  generalize str b = s at *
  have H0 := Lib.hid (two_start w k d x s)
  obtain ⟨W0, hW⟩ : ∃ W0, W0 = (w.alloc (.cells #[.int .i64 k, .int .i64 d, .int .i64 x, .string s] 23)).alloc (.cells #[.int .i64 0, .int .i64 0, .int .i64 0, .string ⟨#[]⟩] 23) := ⟨_, rfl⟩
  rw [← hW] at H0
  have X0 := Lib.hid H0.out.1
  have Y0 := Lib.hid H0.out.2.1
  have HB0 := Lib.hid H0.out.2.2
  clear H0
  go_enter Tryd.func14, Tryd.ntmps14
  go_wp2_with fail
  rw [← hW]
  clear hW
  obtain ⟨⟨x0, x1, x2, x3⟩, f0, f1, f2, f3⟩ := And.intro X0.out.cells X0.out.free
  obtain ⟨⟨y0, y1, y2, y3⟩, g0, g1, g2, g3⟩ := And.intro Y0.out.cells Y0.out.free
  go_wp2_with fail
  clear x0 x1 x2 x3 f0 f1 f2 f3 y0 y1 y2 y3 g0 g1 g2 g3
  refine (MA.out _).mono ?_; rintro e w1 ⟨rfl, hb⟩
  have X1 := Lib.hid (X0.out.kept hb)
  have Y1 := Lib.hid (Y0.out.kept hb)
  have HB1 := Lib.hid (HB0.out.trans (hb.mono HB0.out.size))
  clear hb X0 Y0 HB0
  obtain ⟨⟨x0, x1, x2, x3⟩, f0, f1, f2, f3⟩ := And.intro X1.out.cells X1.out.free
  obtain ⟨⟨y0, y1, y2, y3⟩, g0, g1, g2, g3⟩ := And.intro Y1.out.cells Y1.out.free
  go_wp2_with fail
  clear x0 x1 x2 x3 f0 f1 f2 f3 y0 y1 y2 y3 g0 g1 g2 g3
  have Z := Lib.hid (Y1.out.set4 0 0 0 ⟨#[]⟩)
  obtain ⟨z0, z1, z2, z3⟩ := Z.out.cells
  refine bodyPost_ret (v := .tuple #[.agg #[.int .i64 0, .int .i64 0, .int .i64 0, .string ⟨#[]⟩], .int .i64 2]) (by simp [results, Tryd.results14, go_sem, z0, z1, z2, z3]) rfl ⟨rfl, ?_⟩
  exact below_set4 HB1.out (Nat.le_add_right _ 1)
theorem give_low (d x n : Int) (m : BA) (hg : Good m) (hn : n < 2) (w : World) : Calls Tryd.prog 14 #[pv 2 d x (mk m), .int .i64 n] w fun e w' => e = .returned (.tuple #[pv 0 0 0 [], .int .i64 1]) ∧ Below w.heap.size w w' := by
  have MA := Lib.hid (marks_any 2 d x (mk m) (by rw [hg.len]; omega))
  rw [marksS_mk hg] at MA
  rw [show pv 0 0 0 [] = .agg #[.int .i64 0, .int .i64 0, .int .i64 0, .string ⟨#[]⟩] from rfl]
  have hne := mk_ne_nil hg.ne
  unfold pv at *
  generalize str (mk m) = s at *
  generalize str m = sm at *
  have hnb : (sm.toList == []) = false := by simpa using hne
  clear hg
  have H0 := Lib.hid (two_start w 2 d x s)
  obtain ⟨W0, hW⟩ : ∃ W0, W0 = (w.alloc (.cells #[.int .i64 2, .int .i64 d, .int .i64 x, .string s] 23)).alloc (.cells #[.int .i64 0, .int .i64 0, .int .i64 0, .string ⟨#[]⟩] 23) := ⟨_, rfl⟩
  rw [← hW] at H0
  have X0 := Lib.hid H0.out.1
  have Y0 := Lib.hid H0.out.2.1
  have HB0 := Lib.hid H0.out.2.2
  clear H0
  go_enter Tryd.func14, Tryd.ntmps14
  go_wp2_with fail
  rw [← hW]
  clear hW
  obtain ⟨⟨x0, x1, x2, x3⟩, f0, f1, f2, f3⟩ := And.intro X0.out.cells X0.out.free
  obtain ⟨⟨y0, y1, y2, y3⟩, g0, g1, g2, g3⟩ := And.intro Y0.out.cells Y0.out.free
  go_wp2_with fail
  clear x0 x1 x2 x3 f0 f1 f2 f3 y0 y1 y2 y3 g0 g1 g2 g3
  refine (MA.out _).mono ?_; rintro e w1 ⟨rfl, hb⟩
  have X1 := Lib.hid (X0.out.kept hb)
  have Y1 := Lib.hid (Y0.out.kept hb)
  have HB1 := Lib.hid (HB0.out.trans (hb.mono HB0.out.size))
  clear hb X0 Y0 HB0
  obtain ⟨⟨x0, x1, x2, x3⟩, f0, f1, f2, f3⟩ := And.intro X1.out.cells X1.out.free
  obtain ⟨⟨y0, y1, y2, y3⟩, g0, g1, g2, g3⟩ := And.intro Y1.out.cells Y1.out.free
  go_wp2_with fail
  clear x0 x1 x2 x3 f0 f1 f2 f3 y0 y1 y2 y3 g0 g1 g2 g3
  have Z := Lib.hid (Y1.out.set4 0 0 0 ⟨#[]⟩)
  obtain ⟨z0, z1, z2, z3⟩ := Z.out.cells
  refine bodyPost_ret (v := .tuple #[.agg #[.int .i64 0, .int .i64 0, .int .i64 0, .string ⟨#[]⟩], .int .i64 1]) (by simp [results, Tryd.results14, go_sem, z0, z1, z2, z3]) rfl ⟨rfl, ?_⟩
  exact below_set4 HB1.out (Nat.le_add_right _ 1)
theorem give_free (d x n : Int) (m : BA) (hg : Good m) (hn : ¬ n < 2) (hn2 : n ≤ 9223372036854775807) (hu : usedS m n = false) (w : World) : Calls Tryd.prog 14 #[pv 2 d x (mk m), .int .i64 n] w fun e w' => e = .returned (.tuple #[pv 0 0 0 [], .int .i64 1]) ∧ Below w.heap.size w w' := by
  have MA := Lib.hid (marks_any 2 d x (mk m) (by rw [hg.len]; omega))
  rw [marksS_mk hg] at MA
  have US := Lib.hid (used_any 2 d x n (mk m) (by rw [hg.len]; omega) hn2)
  rw [marksS_mk hg, hu] at US
  rw [show pv 0 0 0 [] = .agg #[.int .i64 0, .int .i64 0, .int .i64 0, .string ⟨#[]⟩] from rfl]
  have hne := mk_ne_nil hg.ne
  unfold pv at *
  generalize str (mk m) = s at *
  generalize str m = sm at *
  have hnb : (sm.toList == []) = false := by simpa using hne
  clear hg hu
  have H0 := Lib.hid (two_start w 2 d x s)
  obtain ⟨W0, hW⟩ : ∃ W0, W0 = (w.alloc (.cells #[.int .i64 2, .int .i64 d, .int .i64 x, .string s] 23)).alloc (.cells #[.int .i64 0, .int .i64 0, .int .i64 0, .string ⟨#[]⟩] 23) := ⟨_, rfl⟩
  rw [← hW] at H0
  have X0 := Lib.hid H0.out.1
  have Y0 := Lib.hid H0.out.2.1
  have HB0 := Lib.hid H0.out.2.2
  clear H0
  go_enter Tryd.func14, Tryd.ntmps14
  go_wp2_with fail
  rw [← hW]
  clear hW
  obtain ⟨⟨x0, x1, x2, x3⟩, f0, f1, f2, f3⟩ := And.intro X0.out.cells X0.out.free
  obtain ⟨⟨y0, y1, y2, y3⟩, g0, g1, g2, g3⟩ := And.intro Y0.out.cells Y0.out.free
  go_wp2_with fail
  clear x0 x1 x2 x3 f0 f1 f2 f3 y0 y1 y2 y3 g0 g1 g2 g3
  refine (MA.out _).mono ?_; rintro e w1 ⟨rfl, hb⟩
  have X1 := Lib.hid (X0.out.kept hb)
  have Y1 := Lib.hid (Y0.out.kept hb)
  have HB1 := Lib.hid (HB0.out.trans (hb.mono HB0.out.size))
  clear hb X0 Y0 HB0
  obtain ⟨⟨x0, x1, x2, x3⟩, f0, f1, f2, f3⟩ := And.intro X1.out.cells X1.out.free
  obtain ⟨⟨y0, y1, y2, y3⟩, g0, g1, g2, g3⟩ := And.intro Y1.out.cells Y1.out.free
  go_wp2_with fail
  clear x0 x1 x2 x3 f0 f1 f2 f3 y0 y1 y2 y3 g0 g1 g2 g3
  refine (US.out _).mono ?_; rintro e w2 ⟨rfl, hb⟩
  have X2 := Lib.hid (X1.out.kept hb)
  have Y2 := Lib.hid (Y1.out.kept hb)
  have HB2 := Lib.hid (HB1.out.trans (hb.mono HB1.out.size))
  clear hb X1 Y1 HB1
  obtain ⟨⟨x0, x1, x2, x3⟩, f0, f1, f2, f3⟩ := And.intro X2.out.cells X2.out.free
  obtain ⟨⟨y0, y1, y2, y3⟩, g0, g1, g2, g3⟩ := And.intro Y2.out.cells Y2.out.free
  go_wp2_with fail
  clear x0 x1 x2 x3 f0 f1 f2 f3 y0 y1 y2 y3 g0 g1 g2 g3
  have Z := Lib.hid (Y2.out.set4 0 0 0 ⟨#[]⟩)
  obtain ⟨z0, z1, z2, z3⟩ := Z.out.cells
  refine bodyPost_ret (v := .tuple #[.agg #[.int .i64 0, .int .i64 0, .int .i64 0, .string ⟨#[]⟩], .int .i64 1]) (by simp [results, Tryd.results14, go_sem, z0, z1, z2, z3]) rfl ⟨rfl, ?_⟩
  exact below_set4 HB2.out (Nat.le_add_right _ 1)
theorem usedS_lt {m : BA} {n : Nat} (hu : usedS m n = true) : n < m.length := by
  have h2 := (decide_eq_true_iff.1 hu).2
  rw [Int.toNat_natCast] at h2
  exact (List.getElem?_eq_some_iff.1 h2).1
theorem give_used (d x : Int) (n : Nat) (m : BA) (hg : Good m) (hn : 2 ≤ n) (hu : usedS m n = true) (w : World) : Calls Tryd.prog 14 #[pv 2 d x (mk m), .int .i64 n] w fun e w' => e = .returned (.tuple #[pv 2 d x (mk (m.set n 2)), .int .i64 0]) ∧ Below w.heap.size w w' := by
  have hlt := usedS_lt hu
  have hl64 := hg.1
  have MA := Lib.hid (marks_any 2 d x (mk m) (by rw [hg.len]; omega))
  rw [marksS_mk hg] at MA
  have US := Lib.hid (used_any 2 d x n (mk m) (by rw [hg.len]; omega) (by omega))
  rw [marksS_mk hg, hu] at US
  have WI := Lib.hid (with_any 2 d x m 2 n (by omega) hlt)
  have hne := mk_ne_nil hg.ne
  unfold pv at *
  generalize str (mk (m.set n 2)) = s2 at *
  generalize str (mk m) = s at *
  generalize str m = sm at *
  have hnb : (sm.toList == []) = false := by simpa using hne
  have k0 : ¬ (n : Int) < 2 := by omega
  clear hg hu hlt hl64
  have H0 := Lib.hid (two_start w 2 d x s)
  obtain ⟨W0, hW⟩ : ∃ W0, W0 = (w.alloc (.cells #[.int .i64 2, .int .i64 d, .int .i64 x, .string s] 23)).alloc (.cells #[.int .i64 0, .int .i64 0, .int .i64 0, .string ⟨#[]⟩] 23) := ⟨_, rfl⟩
  rw [← hW] at H0
  have X0 := Lib.hid H0.out.1
  have Y0 := Lib.hid H0.out.2.1
  have HB0 := Lib.hid H0.out.2.2
  clear H0
  go_enter Tryd.func14, Tryd.ntmps14
  go_wp2_with fail
  rw [← hW]
  clear hW
  obtain ⟨⟨x0, x1, x2, x3⟩, f0, f1, f2, f3⟩ := And.intro X0.out.cells X0.out.free
  obtain ⟨⟨y0, y1, y2, y3⟩, g0, g1, g2, g3⟩ := And.intro Y0.out.cells Y0.out.free
  go_wp2_with fail
  clear x0 x1 x2 x3 f0 f1 f2 f3 y0 y1 y2 y3 g0 g1 g2 g3
  refine (MA.out _).mono ?_; rintro e w1 ⟨rfl, hb⟩
  have X1 := Lib.hid (X0.out.kept hb)
  have Y1 := Lib.hid (Y0.out.kept hb)
  have HB1 := Lib.hid (HB0.out.trans (hb.mono HB0.out.size))
  clear hb X0 Y0 HB0
  obtain ⟨⟨x0, x1, x2, x3⟩, f0, f1, f2, f3⟩ := And.intro X1.out.cells X1.out.free
  obtain ⟨⟨y0, y1, y2, y3⟩, g0, g1, g2, g3⟩ := And.intro Y1.out.cells Y1.out.free
  go_wp2_with fail
  clear x0 x1 x2 x3 f0 f1 f2 f3 y0 y1 y2 y3 g0 g1 g2 g3
  refine (US.out _).mono ?_; rintro e w2 ⟨rfl, hb⟩
  have X2 := Lib.hid (X1.out.kept hb)
  have Y2 := Lib.hid (Y1.out.kept hb)
  have HB2 := Lib.hid (HB1.out.trans (hb.mono HB1.out.size))
  clear hb X1 Y1 HB1
  obtain ⟨⟨x0, x1, x2, x3⟩, f0, f1, f2, f3⟩ := And.intro X2.out.cells X2.out.free
  obtain ⟨⟨y0, y1, y2, y3⟩, g0, g1, g2, g3⟩ := And.intro Y2.out.cells Y2.out.free
  go_wp2_with fail
  clear x0 x1 x2 x3 f0 f1 f2 f3 y0 y1 y2 y3 g0 g1 g2 g3
  refine (WI.out _).mono ?_; rintro e w3 ⟨rfl, hb⟩
  have X3 := Lib.hid (X2.out.kept hb)
  have Y3 := Lib.hid (Y2.out.kept hb)
  have HB3 := Lib.hid (HB2.out.trans (hb.mono HB2.out.size))
  clear hb X2 Y2 HB2
  obtain ⟨⟨x0, x1, x2, x3⟩, f0, f1, f2, f3⟩ := And.intro X3.out.cells X3.out.free
  obtain ⟨⟨y0, y1, y2, y3⟩, g0, g1, g2, g3⟩ := And.intro Y3.out.cells Y3.out.free
  go_wp2_with fail
  clear x0 x1 x2 x3 f0 f1 f2 f3 y0 y1 y2 y3 g0 g1 g2 g3
  have Z := Lib.hid (Y3.out.set4 2 d x s2)
  obtain ⟨z0, z1, z2, z3⟩ := Z.out.cells
  refine bodyPost_ret (v := .tuple #[.agg #[.int .i64 2, .int .i64 d, .int .i64 x, .string s2], .int .i64 0]) (by simp [results, Tryd.results14, go_sem, z0, z1, z2, z3]) rfl ⟨rfl, ?_⟩
  exact below_set4 HB3.out (Nat.le_add_right _ 1)
theorem give_any (k d x n : Int) (b : BA) (hb : b.length ≤ 1000) (hn : n ≤ 9223372036854775807) (w : World) : Calls Tryd.prog 14 #[pv k d x b, .int .i64 n] w fun e w' => e = .returned (resGive k d x b n) ∧ Below w.heap.size w w' := by
  unfold resGive
  dsimp only
  by_cases h0 : marksS k b = []
  · rw [if_pos h0]
    exact give_none k d x n b hb h0 w
  · rw [if_neg h0]
    obtain ⟨hk, he, hg⟩ := mk_of_marks h0
    generalize marksS k b = m at *
    subst hk he
    by_cases h2 : n < 2
    · rw [if_neg (by rintro ⟨h, _⟩; omega)]
      exact give_low d x n m hg h2 w
    · cases hu : usedS m n with
      | false =>
        rw [if_neg (by rintro ⟨_, h⟩; cases h)]
        exact give_free d x n m hg h2 hn hu w
      | true =>
        rw [if_pos ⟨by omega, rfl⟩]
        obtain ⟨i, rfl⟩ : ∃ i : Nat, n = (i : Int) := ⟨n.toNat, by omega⟩
        exact give_used d x i m hg (by omega) hu w
end Go.Proofs.YtkbbpdpalfpchaaDoor
