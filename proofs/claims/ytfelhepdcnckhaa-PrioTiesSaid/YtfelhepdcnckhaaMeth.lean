/- The contracts of the five methods of the queue's slice. -/
import Derived.Test.YtfelhepdcnckhaaRows
import Derived.Test.YtfelhepdcnckhaaPlain
import Derived.Test.YtfelhepdcnckhaaHeapCalls
import Derived.RegionTactic
import Derived.Deep.RegionLaw
import Derived.Deep.QuietTactic
import Derived.BigQuiet
import Derived.Deep.OwnRows
import Derived.Deep.AppendLies
import Derived.IntWalk
import Derived.OneCell
import Derived.Lib.Strings
namespace Go.Proofs.Ytfelhepdcnckhaa
open Go.ChangeShapes Go.WideShapes Go.ChangeAt Go.RowKit
set_option linter.unusedVariables false
set_option maxRecDepth 100000

theorem infoP : (Try.prog.info? 48).map (fun i => (i.zero, i.size, i.bytes)) = some (some (.agg #[.int .i64 0, .int .i64 0]), 2, 16) := by kernel_rfl

/-! One cell of an owned row, set. -/
theorem own_set {w : World} {e s n : Nat} {v : Value} {xs : List Value} {g k : Nat} (h : w.ownsRow 0 e s v n xs) (hg : v.ownBlock = some g) (u : Value) : (w.setCell ⟨g, k, none⟩ u).ownsRow 0 e s v n (xs.set k u) := by
  refine ⟨by rw [List.length_set]; exact h.1, ?_⟩
  rcases h.2 with ⟨rfl, _⟩ | ⟨g', cap, cur, rfl, h1, h2, h3, h4, h5, h6⟩
  · simp [Value.ownBlock] at hg
  · simp only [Value.ownBlock, Option.some.injEq] at hg
    subst hg
    refine .inr ⟨g', cap, cur.setIfInBounds k u, rfl, h1, ?_, h3, h4, by simp [h5], ?_⟩
    · rw [setCell_eq_setRow w g' k cur e (0, 0) u h2, setRow_heap w g' _ _ _ _ h2]
    · rw [Array.toList_setIfInBounds, List.take_set, h6]
/-- One element, another. -/
def upd (f : Nat → Pr) (i : Nat) (x : Pr) : Nat → Pr := fun k => if k = i then x else f k
theorem pcs_upd (f : Nat → Pr) (i : Nat) (a b : Int) : ∀ n, i < n → ((pcs f n).set (i * 2) (.int .i64 a)).set (i * 2 + 1) (.int .i64 b) = pcs (upd f i (a, b)) n := by
  intro n
  induction n with
  | zero => omega
  | succ n ih =>
    intro hi
    rw [pcs_succ, pcs_succ]
    by_cases e : i = n
    · subst e
      have h1 : pcs (upd f i (a, b)) i = pcs f i := pcs_congr _ _ _ fun k hk => by unfold upd; rw [if_neg (by omega)]
      have h2 : upd f i (a, b) i = (a, b) := by simp [upd]
      have h3 : i * 2 + 1 - i * 2 = 1 := by omega
      rw [h1, h2, List.set_append_right _ _ (by rw [pcs_length]; omega), List.set_append_right _ _ (by rw [pcs_length]; omega), pcs_length, h3]
      simp [pc]
    · have h2 : upd f i (a, b) n = f n := by unfold upd; rw [if_neg (by omega)]
      rw [h2, List.set_append_left _ _ (by rw [pcs_length]; omega), List.set_append_left _ _ (by rw [List.length_set, pcs_length]; omega), ih (by omega)]
theorem upd_sw (f : Nat → Pr) (i j : Nat) : upd (upd f i (f j)) j (f i) = sw f i j := by
  funext x
  unfold upd sw
  by_cases h1 : x = j <;> by_cases h2 : x = i <;> simp_all
theorem Held.set {w : World} {p : Nat} {v : Value} {f : Nat → Pr} {n g : Nat} (h : Held w p v f n) (hg : v.ownBlock = some g) {i : Nat} (hi : i < n) (a b : Int) :
    Held ((w.setCell ⟨g, i * 2, none⟩ (.int .i64 a)).setCell ⟨g, i * 2 + 1, none⟩ (.int .i64 b)) p v (upd f i (a, b)) n := by
  have hne : p ≠ g := fun e => h.ne (by rw [hg, e])
  refine ⟨?_, ?_⟩
  · rw [Below.heap_setCell _ _ _ _ hne, Below.heap_setCell _ _ _ _ hne]; exact h.1
  · rw [← pcs_upd f i a b n hi]
    exact own_set (own_set h.2 hg _) hg _
theorem Held.drew {w : World} {p : Nat} {v : Value} {f : Nat → Pr} {n : Nat} (h : Held w p v f n) (k : Nat) : Held (w.drewN k) p v f n := h
theorem Held.free {w : World} {p : Nat} {v : Value} {f : Nat → Pr} {n : Nat} (h : Held w p v f n) {g : Nat} (hg : v.ownBlock = some g) (o : Nat) : w.frozen? ⟨g, o, none⟩ = false := by
  obtain ⟨cur, hc⟩ := h.row hg
  exact Lib.frozen_of_heap hc o
theorem Held.pfree {w : World} {p : Nat} {v : Value} {f : Nat → Pr} {n : Nat} (h : Held w p v f n) : w.frozen? ⟨p, 0, none⟩ = false := Lib.frozen_of_heap h.1 0
theorem Held.slice {w : World} {p : Nat} {v : Value} {f : Nat → Pr} {n : Nat} (h : Held w p v f n) : ∃ A c, v = .slice A n c := by
  rcases h.2.2 with ⟨rfl, rfl⟩ | ⟨g, cap, cur, rfl, _⟩
  · exact ⟨_, _, rfl⟩
  · exact ⟨_, _, rfl⟩

/-! Less, Swap, Len. -/
theorem less_other {a b c d : Int} (h : ¬ a = c) : decide (¬ le (c, d) (a, b)) = decide (c < a) := by
  have e : (¬ le (c, d) (a, b)) ↔ c < a := by unfold le; simp only; omega
  simp [e]
set_option maxHeartbeats 1000000 in
theorem less_walk (g n cap i j : Nat) (a b c d : Int) (w : World) (hi : i < n) (hj : j < n) (hn : n ≤ 1000000)
    (h1 : w.cell? ⟨g, i * 2, none⟩ = some (.int .i64 a)) (h2 : w.cell? ⟨g, i * 2 + 1, none⟩ = some (.int .i64 b))
    (h3 : w.cell? ⟨g, j * 2, none⟩ = some (.int .i64 c)) (h4 : w.cell? ⟨g, j * 2 + 1, none⟩ = some (.int .i64 d)) (r : Bool) (hr : r = decide (¬ le (c, d) (a, b))) :
    Calls Try.prog 69 #[.slice (some ⟨g, 0, none⟩) n cap, .int .i64 i, .int .i64 j] w fun e w' => e = .returned (.bool r) ∧ ∃ q, w' = w.drewN q := by
  have b1 : (0 : Int) ≤ (i : Int) := by omega
  have b2 : (i : Int) < (n : Int) := by omega
  have b3 : (0 : Int) ≤ (j : Int) := by omega
  have b4 : (j : Int) < (n : Int) := by omega
  have b5 : (n : Int) ≤ 1000000 := by omega
  have HR := Lib.hid hr
  clear hr
  by_cases hac : a = c
  · subst hac
    go_enter Try.func69, Try.ntmps69
    go_wp2_with fail
    go_quiet (fail)
    go_wp2_with fail
    go_quiet (fail)
    go_wp2_with fail
    go_ret
    refine ⟨?_, _, World.drewN_drewN _ _ _⟩
    rw [HR.out]
    congr 2
    unfold le
    simp
  · have hx : ((a : Int) == c) = false := by simpa using hac
    have hy : ((a : Int) != c) = true := by simpa using hac
    have HA := Lib.hid hac
    clear hac
    go_enter Try.func69, Try.ntmps69
    go_wp2_with fail
    go_quiet (fail)
    go_wp2_with fail
    go_quiet (fail)
    go_wp2_with fail
    go_ret
    refine ⟨?_, _, World.drewN_drewN _ _ _⟩
    rw [HR.out, less_other HA.out]
    rfl

set_option maxHeartbeats 1000000 in
theorem swap_walk (g n cap i j : Nat) (a b c d : Int) (w : World) (hi : i < n) (hj : j < n) (hn : n ≤ 1000000) (hf : ∀ o, w.frozen? ⟨g, o, none⟩ = false)
    (h1 : w.cell? ⟨g, i * 2, none⟩ = some (.int .i64 a)) (h2 : w.cell? ⟨g, i * 2 + 1, none⟩ = some (.int .i64 b))
    (h3 : w.cell? ⟨g, j * 2, none⟩ = some (.int .i64 c)) (h4 : w.cell? ⟨g, j * 2 + 1, none⟩ = some (.int .i64 d)) :
    Calls Try.prog 70 #[.slice (some ⟨g, 0, none⟩) n cap, .int .i64 i, .int .i64 j] w fun e w' => e = .returned (.tuple #[]) ∧
      ∃ q, w' = ((((w.setCell ⟨g, i * 2, none⟩ (.int .i64 c)).setCell ⟨g, i * 2 + 1, none⟩ (.int .i64 d)).setCell ⟨g, j * 2, none⟩ (.int .i64 a)).setCell ⟨g, j * 2 + 1, none⟩ (.int .i64 b)).drewN q := by
  have b1 : (0 : Int) ≤ (i : Int) := by omega
  have b2 : (i : Int) < (n : Int) := by omega
  have b3 : (0 : Int) ≤ (j : Int) := by omega
  have b4 : (j : Int) < (n : Int) := by omega
  have b5 : (n : Int) ≤ 1000000 := by omega
  by_cases hij : i = j
  · subst hij
    obtain rfl : a = c := by rw [h1] at h3; simpa using h3
    obtain rfl : b = d := by rw [h2] at h4; simpa using h4
    clear h3 h4
    go_enter Try.func70, Try.ntmps70
    go_wp2_with fail
    go_region
    all_goals go_end0
    exact ⟨rfl, 1, rfl⟩
  · have n1 : ¬ i * 2 = j * 2 := by omega
    have n2 : ¬ i * 2 = j * 2 + 1 := by omega
    have n3 : ¬ i * 2 + 1 = j * 2 := by omega
    have n4 : ¬ i * 2 + 1 = j * 2 + 1 := by omega
    have m1 : ¬ j * 2 = i * 2 := by omega
    have m2 : ¬ j * 2 + 1 = i * 2 := by omega
    have m3 : ¬ j * 2 = i * 2 + 1 := by omega
    have m4 : ¬ j * 2 + 1 = i * 2 + 1 := by omega
    go_enter Try.func70, Try.ntmps70
    go_wp2_with fail
    go_region
    all_goals go_end0
    exact ⟨rfl, 1, rfl⟩

theorem len_walk (A : Option Addr) (n cap : Nat) (w : World) :
    Calls Try.prog 68 #[.slice A n cap] w fun e w' => e = .returned (.int .i64 (n : Int)) ∧ w' = w := by
  go_enter Try.func68, Try.ntmps68
  go_wp2_with fail
  go_ret
  exact ⟨rfl, rfl⟩

/-! The three, as the heap's functions ask for them. -/
theorem load_slice {w : World} {p : Nat} {v : Value} {f : Nat → Pr} {n : Nat} (h : Held w p v f n) : (loadVar 26 ⟨p, 0, none⟩).run Try.prog w = .ok v w := by
  have hc := h.pcell
  obtain ⟨A, c, rfl⟩ := h.slice
  simp [go_sem, hc]
theorem meth_value {w : World} {p : Nat} {v : Value} {f : Nat → Pr} {n : Nat} (h : Held w p v f n) (name : String) (k : FuncId)
    (hm : ((Try.prog.info? 46).bind fun i => (i.methods.find? (·.name == name)).map fun m => (m.path, m.func)) = some (#[], some (k, false))) :
    (method 209 46 (.pointer (some ⟨p, 0, none⟩)) name).run Try.prog w = .ok (k, v) w :=
  run_method_value (fuel := 209 - 1) ⟨p, 0, none⟩ w v hm Try.underlying46 (load_slice h)

theorem Trn.drewN {B p : Nat} {o : Option Nat} {a b : World} (h : Trn B p o a b) (k : Nat) : Trn B p o a (b.drewN k) := ⟨h.os, h.tape, h.output, h.size, h.block⟩
theorem Trn.setCell {B p : Nat} {o : Option Nat} {a b : World} (h : Trn B p o a b) {x : Addr} (hx : x.block = p ∨ o = some x.block ∨ B ≤ x.block) (u : Value) : Trn B p o a (b.setCell x u) :=
  ⟨h.os, h.tape, h.output, by rw [World.size_setCell]; exact h.size, fun k h1 h2 h3 => (Below.heap_setCell _ _ _ _ (by
    intro e
    rcases hx with hx | hx | hx
    · omega
    · exact h3 (by rw [hx, e])
    · omega)).trans (h.block k h1 h2 h3)⟩

theorem meth (B p : Nat) (o : Option Nat) : Meth ⟨p, 0, none⟩ le (St B p o) (Trn B p o) where
  refl := Trn.refl B p o
  trans := fun _ _ _ h k => h.trans k
  less := fun w f n hS => by
    obtain ⟨hB, hp, hN, v, hv, hn⟩ := hS
    refine ⟨v, meth_value hv "Less" 69 (by kernel_rfl), fun i j hi hj => ?_⟩
    obtain ⟨g, cap, cur, rfl, hcur⟩ := hv.form (Nat.lt_of_le_of_lt (Nat.zero_le _) hi)
    have go : ∀ r, r = decide (¬ le (f j) (f i)) → Calls Try.prog 69 #[.slice (some ⟨g, 0, none⟩) n cap, .int .i64 i, .int .i64 j] w fun e w' => e = .returned (.bool r) ∧ St B p o w' f n ∧ Trn B p o w w' := fun r hr =>
      (less_walk g n cap i j (f i).1 (f i).2 (f j).1 (f j).2 w hi hj hN (hv.cell0 rfl hi) (hv.cell1 rfl hi) (hv.cell0 rfl hj) (hv.cell1 rfl hj) r hr).mono fun e w' ⟨he, q, hw⟩ => by
        subst hw
        exact ⟨he, ⟨hB, hp, hN, _, hv.drew q, hn⟩, (Trn.refl B p o w).drewN q⟩
    exact ⟨fun h => go false (by simp [h]), fun h => go true (by simp [h])⟩
  swap := fun w f n hS => by
    obtain ⟨hB, hp, hN, v, hv, hn⟩ := hS
    refine ⟨v, meth_value hv "Swap" 70 (by kernel_rfl), fun i j hi hj => ?_⟩
    obtain ⟨g, cap, cur, rfl, hcur⟩ := hv.form (Nat.lt_of_le_of_lt (Nat.zero_le _) hi)
    have hg : (g = p ∨ o = some g ∨ B ≤ g) := by
      rcases hn with h | ⟨k, h1, h2⟩
      · exact .inr (.inl h.symm)
      · have : g = k := by simpa [Value.ownBlock] using h2
        exact .inr (.inr (by omega))
    refine (swap_walk g n cap i j (f i).1 (f i).2 (f j).1 (f j).2 w hi hj hN (hv.free rfl) (hv.cell0 rfl hi) (hv.cell1 rfl hi) (hv.cell0 rfl hj) (hv.cell1 rfl hj)).mono fun e w' ⟨he, q, hw⟩ => ?_
    subst hw
    refine ⟨he, ⟨by simpa using hB, hp, hN, _, ?_, hn⟩, ((((((Trn.refl B p o w).setCell (x := ⟨g, i * 2, none⟩) hg _).setCell (x := ⟨g, i * 2 + 1, none⟩) hg _).setCell (x := ⟨g, j * 2, none⟩) hg _).setCell (x := ⟨g, j * 2 + 1, none⟩) hg _).drewN q)⟩
    rw [← upd_sw]
    exact ((hv.set rfl hi (f j).1 (f j).2).set rfl hj (f i).1 (f i).2).drew q

/-! Push. -/
theorem grown_p {w w1 : World} {p : Nat} {v : Value} {f : Nat → Pr} {n : Nat} (h : Held w p v f n) {ob : Obj} (hg : (w.drew.alloc ob).grownBy w1 v.ownBlock) : w1.heap[p]? = w.heap[p]? :=
  (hg.block p (by rw [World.size_alloc]; exact Nat.lt_succ_of_lt h.lt) (h.other h.1 (by intro cs; simp))).trans (Below.heap_alloc w.drew _ _ h.lt)
theorem grown_p2 {w w1 : World} {p : Nat} {v : Value} {f : Nat → Pr} {n : Nat} (h : Held w p v f n) {ob : Obj} (hg : (w.drew.alloc ob).grownBy w1 v.ownBlock) : w1.cell? ⟨p, 0, none⟩ = some v ∧ w1.frozen? ⟨p, 0, none⟩ = false := by
  have e := (grown_p h hg).trans h.1
  exact ⟨cell_of_row w1 p 0 _ _ _ e, Lib.frozen_of_heap e 0⟩
theorem pcs_ext (f : Nat → Pr) (n : Nat) (x : Pr) : pcs (ext f n x) (n + 1) = pcs f n ++ pc x := by
  rw [pcs_succ, ext_at, pcs_congr _ f n fun i hi => ext_lt f n x i hi]
theorem own_far {w : World} {e s n : Nat} {v : Value} {xs : List Value} (h : w.ownsRow 0 e s v n xs) {a : Addr} (ha : v.ownBlock ≠ some a.block) (u : Value) : (w.setCell a u).ownsRow 0 e s v n xs := ownsRow_setCell_other h ha u
theorem pushed {B p : Nat} {o : Option Nat} {f : Nat → Pr} {n : Nat} {x : Pr} {w w1 : World} {v : Value} {g cap : Nat} (hB : B ≤ w.heap.size) (hp : p < B) (hn : n < 1000000) (hv : Held w p v f n) (hnr : Near B o v) {ob : Obj}
    (hown : w1.ownsRow 0 48 2 (.slice (some ⟨g, 0, none⟩) (n + 1) cap) (n + 1) (pcs f n ++ pc x)) (hg : (w.drew.alloc ob).grownBy w1 v.ownBlock) (hat : v.ownBlock = some g ∨ g = w.heap.size + 1) (u : Value) (hu : u = .slice (some ⟨g, 0, none⟩) (n + 1) cap) :
    St B p o (w1.setCell ⟨p, 0, none⟩ u) (ext f n x) (n + 1) ∧ Trn B p o w (w1.setCell ⟨p, 0, none⟩ u) := by
  subst hu
  have e := (grown_p hv hg).trans hv.1
  have hgp : g ≠ p := by
    intro h
    subst h
    rcases hown.2 with ⟨h, _⟩ | ⟨g', cap', cur, h, _, h2, _⟩
    · simp at h
    · simp at h
      obtain ⟨rfl, _⟩ := h
      rw [e] at h2
      simp at h2
  have hz : w.heap.size + 1 ≤ w1.heap.size := by have := hg.size; rw [World.size_alloc] at this; exact this
  refine ⟨⟨by rw [World.size_setCell]; omega, hp, by omega, .slice (some ⟨g, 0, none⟩) (n + 1) cap, ⟨?_, ?_⟩, ?_⟩, ?_⟩
  · rw [setCell_eq_setRow w1 p 0 _ _ _ _ e, setRow_heap w1 p _ _ _ _ e]; rfl
  · rw [pcs_ext]
    exact own_far hown (by simp [Value.ownBlock]; exact hgp) _
  · rcases hat with h | h
    · rcases hnr with k | ⟨b, k1, k2⟩
      · exact .inl (by rw [← k, h]; rfl)
      · exact .inr ⟨b, k1, by rw [← k2, h]; rfl⟩
    · exact .inr ⟨g, by omega, rfl⟩
  · refine Trn.setCell (x := ⟨p, 0, none⟩) ?_ (.inl rfl) _
    refine ⟨hg.os, hg.tape, hg.output, by omega, fun k h1 h2 h3 => ?_⟩
    refine (hg.block k (by rw [World.size_alloc]; exact Nat.lt_succ_of_lt (Nat.lt_of_lt_of_le h1 hB)) ?_).trans (Below.heap_alloc w.drew _ _ (Nat.lt_of_lt_of_le h1 hB))
    rcases hnr with q | ⟨b, q1, q2⟩
    · rw [q]; exact h3
    · rw [q2]; simp; omega

set_option maxHeartbeats 1000000 in
theorem push_walk (B p : Nat) (o : Option Nat) (f : Nat → Pr) (n : Nat) (x : Pr) (w : World) (hS : St B p o w f n) (hn : n < 1000000) :
    Calls Try.prog 72 #[.pointer (some ⟨p, 0, none⟩), .iface 48 (.agg #[.int .i64 x.1, .int .i64 x.2])] w fun e w' => e = .returned (.tuple #[]) ∧ St B p o w' (ext f n x) (n + 1) ∧ Trn B p o w w' := by
  obtain ⟨i0, hi, hz0, hz1, hz2⟩ := info_parts infoP
  obtain ⟨hB, hp, hN, v, hv, hnr⟩ := hS
  have hc := hv.pcell
  have hf := hv.pfree
  have hown := hv.2
  have HV := Lib.hid hv
  have HB := Lib.hid hB
  have HP := Lib.hid hp
  have HN := Lib.hid hnr
  clear hv hB hp hnr
  have hta : ∀ W u, (Instr.typeAssert (.iface 48 u) 20 48 false).run Try.prog W = .ok u W := fun _ _ => by kernel_rfl
  go_enter Try.func72, Try.ntmps72
  go_wp2_with fail
  have hca : ∀ ob, (w.alloc ob).cell? ⟨p, 0, none⟩ = some v := fun ob => (World.cell?_of_block (w := w) (Below.heap_alloc w ob p HV.out.lt)).trans hc
  have hnew := heap_alloc_new w.drew (.cells #[.int .i64 x.1, .int .i64 x.2] 48)
  go_region_law ((refine step_append_lies _ (by rfl) (.tmp 7) (.tmp 10) 26 (by rfl) 0 48 i0 (.agg #[.int .i64 0, .int .i64 0]) 2 16 Try.underlying26 hi hz0 hz1 hz2 rfl (by omega) v n (pcs f n) (by rfl) (hown.alloc _) ⟨w.heap.size, 0, none⟩ 1 1 (pc x) (by rfl) rfl (World.news_of_block hnew) (by intro u hu; simp only [pc, List.mem_cons, List.not_mem_nil, or_false] at hu; rcases hu with rfl | rfl <;> rfl) (by omega) (by unfold maxLen; omega) (by omega) (by simp) (w.heap.size + 1) (by simp) ?_; intro g cap w1 hown1 hgrow hat hlt; obtain ⟨hc1, hf1⟩ := grown_p2 HV.out hgrow))
  all_goals go_end0
  all_goals (have hq := pushed HB.out HP.out hn HV.out HN.out hown1 hgrow hat _ rfl)
  all_goals exact ⟨rfl, hq⟩

/-! Pop. -/
theorem popped {B p : Nat} {o : Option Nat} {f : Nat → Pr} {n : Nat} {w : World} {g cap : Nat} (hB : B ≤ w.heap.size) (hp : p < B) (hn : n ≤ 1000000) (hv : Held w p (.slice (some ⟨g, 0, none⟩) (n + 1) cap) f (n + 1)) (hnr : Near B o (.slice (some ⟨g, 0, none⟩) (n + 1) cap)) (ob : Obj) :
    St B p o ((w.setCell ⟨p, 0, none⟩ (.slice (some ⟨g, 0, none⟩) n cap)).alloc ob) f n ∧ Trn B p o w ((w.setCell ⟨p, 0, none⟩ (.slice (some ⟨g, 0, none⟩) n cap)).alloc ob) := by
  have hgp : g ≠ p := fun e => hv.ne (by rw [← e]; rfl)
  obtain ⟨g', cap', cur, hsl, hcur, h1, h2, h3, h4⟩ := hv.form (by omega)
  simp only [Value.slice.injEq, Option.some.injEq, Addr.mk.injEq, and_true, true_and] at hsl
  obtain ⟨rfl, rfl⟩ := hsl
  have hh : (w.setCell ⟨p, 0, none⟩ (.slice (some ⟨g, 0, none⟩) n cap)).heap[p]? = some (.cells #[.slice (some ⟨g, 0, none⟩) n cap] 28 (0, 0)) := by
    rw [setCell_eq_setRow w p 0 _ _ _ _ hv.1, setRow_heap w p _ _ _ _ hv.1]; rfl
  refine ⟨⟨by rw [World.size_alloc, World.size_setCell]; omega, hp, hn, .slice (some ⟨g, 0, none⟩) n cap, ⟨?_, pcs_length f n, .inr ⟨g, cap, cur, rfl, Nat.zero_le _, ?_, by omega, h2, h3, ?_⟩⟩, ?_⟩, ?_⟩
  · rw [Below.heap_alloc _ _ _ (by rw [World.size_setCell]; exact hv.lt)]; exact hh
  · rw [Below.heap_alloc _ _ _ (by rw [World.size_setCell]; exact hv.row_lt rfl), Below.heap_setCell _ _ _ _ hgp]; exact hcur
  · rw [← pcs_take f n, ← h4, List.take_take]; congr 1; omega
  · exact hnr
  · refine Trn.trans ((Trn.refl B p o w).setCell (x := ⟨p, 0, none⟩) (.inl rfl) _) (Trn.of_below ((Below.refl B _).alloc (by rw [World.size_setCell]; exact hB) _))
set_option maxHeartbeats 1000000 in
theorem pop_walk (B p : Nat) (o : Option Nat) (f : Nat → Pr) (n : Nat) (w : World) (hS : St B p o w f (n + 1)) :
    Calls Try.prog 71 #[.pointer (some ⟨p, 0, none⟩)] w fun e w' => e = .returned (.iface 48 (.agg #[.int .i64 (f n).1, .int .i64 (f n).2])) ∧ St B p o w' f n ∧ Trn B p o w w' := by
  obtain ⟨hB, hp, hN, v, hv, hnr⟩ := hS
  obtain ⟨g, cap, cur, rfl, hcur, hnc, hcm, _⟩ := hv.form (by omega)
  unfold maxLen at hcm
  have hc := hv.pcell
  have hf := hv.pfree
  have h0 := hv.cell0 (i := n) rfl (by omega)
  have h1 := hv.cell1 (i := n) rfl (by omega)
  have hgp : ¬ g = p := fun e => hv.ne (by rw [← e]; rfl)
  have hpl := hv.lt
  have hgl := hv.row_lt rfl
  have HV := Lib.hid hv
  have HB := Lib.hid hB
  have HP := Lib.hid hp
  have HN := Lib.hid hnr
  clear hv hB hp hnr hcur
  have e1 : ((n + 1 : Nat) : Int) - 1 = (n : Int) := by omega
  have b1 : (0 : Int) ≤ (n : Int) := by omega
  have b2 : (n : Int) < ((n + 1 : Nat) : Int) := by omega
  have b3 : (n : Int) ≤ (cap : Int) := by omega
  go_enter Try.func71, Try.ntmps71
  go_wp2_with fail
  have hq := popped HB.out HP.out (by omega) HV.out HN.out (.cells #[.int .i64 (f n).1, .int .i64 (f n).2] 48)
  go_ret
  exact ⟨rfl, hq⟩

def enc (x : Pr) : Value := .iface 48 (.agg #[.int .i64 x.1, .int .i64 x.2])
theorem meth2 (B p : Nat) (o : Option Nat) : Meth2 ⟨p, 0, none⟩ enc (St B p o) (Trn B p o) where
  len := fun w f n hS => by
    obtain ⟨hB, hp, hN, v, hv, hn⟩ := hS
    refine ⟨v, meth_value hv "Len" 68 (by kernel_rfl), ?_⟩
    obtain ⟨A, c, rfl⟩ := hv.slice
    exact (len_walk A n c w).mono fun e w' ⟨he, hw⟩ => by subst hw; exact ⟨he, ⟨hB, hp, hN, _, hv, hn⟩, Trn.refl B p o _⟩
  push := fun w f n x hS hn => ⟨.pointer (some ⟨p, 0, none⟩), by kernel_rfl, push_walk B p o f n x w hS hn⟩
  pop := fun w f n hS => ⟨.pointer (some ⟨p, 0, none⟩), by kernel_rfl, pop_walk B p o f n w hS⟩
end Go.Proofs.Ytfelhepdcnckhaa
