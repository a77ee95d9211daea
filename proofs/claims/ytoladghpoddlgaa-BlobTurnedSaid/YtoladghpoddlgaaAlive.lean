/- Put and Get as laws ask them: numbers written out; the contract of the laws' first call 'alive'. -/
import Derived.Test.YtoladghpoddlgaaPut
import Derived.Test.YtoladghpoddlgaaGet
import Derived.Test.YtoladghpoddlgaaZeros
namespace Go.Proofs.Ytoladghpoddlgaa
open Go.ChangeShapes Go.WideShapes Go.ChangeAt Go.RowKit
set_option linter.unusedVariables false
set_option linter.unusedSimpArgs false
set_option maxRecDepth 100000
theorem nums_row {w : World} {g : Nat} {l : List Int} {cs : Array Value} (h : w.heap[g]? = some (.cells cs 3 (0, 0))) (hc : cs = (l.map (Value.int .i64)).toArray) : I.Nums (g + 1) w (.slice (some ⟨g, 0, none⟩) l.length l.length) l := by
  subst hc
  refine .inr ⟨g, 0, l.length, rfl, by omega, fun j hj => ?_⟩
  rw [cell_of_row _ _ _ _ _ _ h, Nat.zero_add]
  simp [hj]
theorem nums_new (w : World) (l : List Int) (cs : Array Value) (hc : cs = (l.map (Value.int .i64)).toArray) : I.Nums (w.heap.size + 1) (w.alloc (.cells cs 3)) (.slice (some ⟨w.heap.size, 0, none⟩) l.length l.length) l := nums_row (heap_alloc_new w _) hc
/-- A row of a call's own, at its block. -/
theorem own_cells {B n c : Nat} {w : World} {A : Option Addr} {l : List Pg} (h : Own B w (.slice A n c) l) (hn : l.length = n) (h0 : 0 < n) : ∃ g, A = some ⟨g, 0, none⟩ ∧ B ≤ g ∧ g < w.heap.size ∧ ∀ k, k < n → PgAt w g (k * 4) (l.getD k nilP) := by
  subst hn
  have hr : Row w A l.length c l := ⟨rfl, own_base h (Nat.zero_le _)⟩
  obtain ⟨g, rfl, _⟩ := hr.at (i := 0) h0
  have hl := h.lt g rfl
  refine ⟨g, rfl, hl.1, hl.2, fun k hk => ?_⟩
  obtain ⟨g', e, hp⟩ := hr.at hk
  simp only [Option.some.injEq, Addr.mk.injEq, and_true] at e
  subst e
  exact hp
/-- Put of numbers written out. -/
theorem put_lit (v : BA) (l : List Int) (cs : Array Value) (hc : cs = (l.map (Value.int .i64)).toArray) (hl : l.length ≤ 1000) (w : World) : Calls Try.prog 10 #[.string (str v), .slice (some ⟨w.heap.size, 0, none⟩) l.length l.length] (w.alloc (.cells cs 3)) fun e w' => ∃ A c, e = .returned (.tuple #[.slice A (putS v l).length c, .bool (putOk v l)]) ∧ Own w.heap.size w' (.slice A (putS v l).length c) (putS v l) ∧ Below w.heap.size w w' := by
  refine (put_any v (w.alloc (.cells cs 3)) (nums_new w l cs hc) (by simp) hl (Nat.le_refl _)).mono ?_
  rintro e w' ⟨A, c, h1, h2, h3⟩
  have hb := (Below.refl w.heap.size w).alloc (Nat.le_refl _) (.cells cs 3)
  exact ⟨A, c, h1, own_base h2 hb.size, hb.trans (h3.mono hb.size)⟩
theorem put_none (v : BA) (w : World) : Calls Try.prog 10 #[.string (str v), .slice none 0 0] w fun e w' => ∃ A c, e = .returned (.tuple #[.slice A 0 c, .bool false]) ∧ Below w.heap.size w w' := by
  refine (put_any (n₀ := 0) (A := none) (n := 0) (c := 0) (l := []) v w (.inl ⟨_, _, rfl, rfl⟩) (by omega) (by omega) (by omega)).mono ?_
  rintro e w' ⟨A, c, h1, h2, h3⟩
  have hf : putOk v [] = false := putOk_fits (by unfold fitN; rfl)
  rw [hf, putS_no hf] at h1
  exact ⟨A, c, h1, h3⟩
theorem put_no (v : BA) (l : List Int) (cs : Array Value) (hc : cs = (l.map (Value.int .i64)).toArray) (hl : l.length ≤ 1000) (hf : putOk v l = false) (w : World) : Calls Try.prog 10 #[.string (str v), .slice (some ⟨w.heap.size, 0, none⟩) l.length l.length] (w.alloc (.cells cs 3)) fun e w' => ∃ A c, e = .returned (.tuple #[.slice A 0 c, .bool false]) ∧ Below w.heap.size w w' := by
  refine (put_lit v l cs hc hl w).mono ?_
  rintro e w' ⟨A, c, h1, h2, h3⟩
  rw [hf, putS_no hf] at h1
  exact ⟨A, c, h1, h3⟩
/-- A value put: the pages, in a row of the call's own. -/
def Put2 (p q : Pg) (w : World) (e : Ending) (w' : World) : Prop := ∃ g c, e = .returned (.tuple #[.slice (some ⟨g, 0, none⟩) 2 c, .bool true]) ∧ w.heap.size ≤ g ∧ g < w'.heap.size ∧ PgAt w' g 0 p ∧ PgAt w' g 4 q ∧ Own w.heap.size w' (.slice (some ⟨g, 0, none⟩) 2 c) [p, q] ∧ Below w.heap.size w w'
def Put1 (p : Pg) (w : World) (e : Ending) (w' : World) : Prop := ∃ g c, e = .returned (.tuple #[.slice (some ⟨g, 0, none⟩) 1 c, .bool true]) ∧ w.heap.size ≤ g ∧ g < w'.heap.size ∧ PgAt w' g 0 p ∧ Own w.heap.size w' (.slice (some ⟨g, 0, none⟩) 1 c) [p] ∧ Below w.heap.size w w'
theorem put_two (v : BA) (a b : Int) (hf : putOk v [a, b] = true) (w : World) : Calls Try.prog 10 #[.string (str v), .slice (some ⟨w.heap.size, 0, none⟩) 2 2] (w.alloc (.cells #[.int .i64 a, .int .i64 b] 3)) fun e w' => Put2 (pgOf b (v.take 200)) (pgOf 0 (v.drop 200)) w e w' := by
  refine (put_lit v [a, b] #[.int .i64 a, .int .i64 b] rfl (by simp) w).mono ?_
  rintro e w' ⟨A, c, h1, h2, h3⟩
  rw [putS_two hf, hf] at h1
  rw [putS_two hf] at h2
  obtain ⟨g, rfl, h4, h5, h6⟩ := own_cells h2 rfl (by simp)
  exact ⟨g, c, h1, h4, h5, h6 0 (by simp), h6 1 (by simp), h2, h3⟩
theorem put_one (v : BA) (a : Int) (hf : putOk v [a] = true) (w : World) : Calls Try.prog 10 #[.string (str v), .slice (some ⟨w.heap.size, 0, none⟩) 1 1] (w.alloc (.cells #[.int .i64 a] 3)) fun e w' => Put1 (pgOf 0 v) w e w' := by
  refine (put_lit v [a] #[.int .i64 a] rfl (by simp) w).mono ?_
  rintro e w' ⟨A, c, h1, h2, h3⟩
  rw [putS_one hf, hf] at h1
  rw [putS_one hf] at h2
  obtain ⟨g, rfl, h4, h5, h6⟩ := own_cells h2 rfl (by simp)
  exact ⟨g, c, h1, h4, h5, h6 0 (by simp), h2, h3⟩
theorem putOk_two {v : BA} {a b : Int} (h1 : 200 < v.length) (h2 : v.length ≤ 400) (ha : 2 ≤ a ∧ a < 64) (hb : 2 ≤ b ∧ b < 64) (hab : a ≠ b) : putOk v [a, b] = true := by
  have hf : fitN v.length [a, b].length = true := fitN_iff.2 ⟨by simp, pagesN_two (by omega) (by omega)⟩
  rw [putOk_right hf, rightL_pair, rightN_iff.2 ha, rightN_iff.2 hb, decide_eq_true (show b ≠ a from fun e => hab e.symm)]
  rfl
theorem putOk_one {v : BA} {a : Int} (h1 : 40 < v.length) (h2 : v.length ≤ 200) (ha : 2 ≤ a ∧ a < 64) : putOk v [a] = true := by
  have hf : fitN v.length [a].length = true := fitN_iff.2 ⟨by simp, pagesN_one (by omega) (by omega)⟩
  rw [putOk_right hf, rightL_one, rightN_iff.2 ha]
set_option maxHeartbeats 2000000 in
theorem alive_yes (w : World) : Calls Try.prog 8 #[] w fun e w' => e = .returned (.bool true) ∧ Below w.heap.size w w' := by
  have ZE := Lib.hid (fun w => (show Calls Try.prog 22 #[.int .i64 201] w fun e w' => e = .returned (.string (str (zs 201))) ∧ Below w.heap.size w w' from zeros_ok 201 (by omega) w))
  have PU := Lib.hid (fun w => put_two (zs 201) 5 9 (putOk_two (by rw [zs_length]; omega) (by rw [zs_length]; omega) (by omega) (by omega) (by omega)) w)
  have P1 := Lib.hid (fun w => (show Calls Try.prog 17 #[.int .i64 201] w fun e w' => e = .returned (.int .i64 2) ∧ w = w' from pages_any 201 w))
  have P2 := Lib.hid (fun w => (show Calls Try.prog 17 #[.int .i64 40] w fun e w' => e = .returned (.int .i64 0) ∧ w = w' from pages_any 40 w))
  generalize str (zs 201) = s at *
  generalize (zs 201).take 200 = t1 at *
  generalize (zs 201).drop 200 = t2 at *
  go_enter Try.func8, Try.ntmps8
  go_wp2_with fail
  refine (ZE.out _).mono ?_; rintro e w1 ⟨rfl, hb1⟩
  have HB1 := Lib.hid hb1
  clear hb1
  go_wp2_with fail
  refine (PU.out _).mono ?_; rintro e w2 ⟨g, c, rfl, _, _, hp, hq, _, hb2⟩
  have HB2 := Lib.hid (HB1.out.trans (hb2.mono HB1.out.size))
  obtain ⟨p0, _, p2, _⟩ := hp
  obtain ⟨_, _, q2, _⟩ := hq
  unfold pgOf at p0 p2 q2
  dsimp only at p0 p2 q2
  clear hb2
  go_wp2_with fail
  refine (P1.out _).mono ?_; rintro e w3 ⟨rfl, rfl⟩
  go_wp2_with fail
  refine (P2.out _).mono ?_; rintro e w4 ⟨rfl, rfl⟩
  go_wp2_with fail
  go_ret
  exact ⟨rfl, HB2.out⟩
end Go.Proofs.Ytoladghpoddlgaa
