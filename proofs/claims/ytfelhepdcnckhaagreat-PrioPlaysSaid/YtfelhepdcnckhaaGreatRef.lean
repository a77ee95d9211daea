/- The document's own Sorted; lists with room behind them, in which a mark stands. -/
import Derived.Test.YtfelhepdcnckhaaGreatBook
import Derived.Test.YtfelhepdcnckhaaGreatMeth
namespace Go.Proofs.YtfelhepdcnckhaaGreat
open Go.ChangeShapes Go.WideShapes Go.ChangeAt Go.RowKit
set_option linter.unusedVariables false
set_option maxRecDepth 100000

/-! The document's Sorted: one number after the other is put in its place. -/
theorem list_vals (l : List Int) : l = vals (fun i => l.getD i 0) l.length := by
  apply List.ext_getElem
  · simp [vals]
  · intro i h1 h2
    simp [vals, List.getD, h1]
theorem vals_getD (f : Nat → Int) (n i : Nat) (h : i < n) : (vals f n).getD i 0 = f i := by simp [vals, List.getD, h]
theorem vals_set (f : Nat → Int) (n i : Nat) (x : Int) : (vals f n).set i x = vals (fun j => if j = i then x else f j) n := by
  apply List.ext_getElem
  · simp [vals]
  · intro j h1 h2
    simp only [vals, List.getElem_set, List.getElem_map, List.getElem_range]
    by_cases h : i = j
    · subst h; simp
    · simp [h, Ne.symm h]
theorem vals_set2 (f : Nat → Int) (n i j : Nat) : ((vals f n).set i (f j)).set j (f i) = vals (sw f i j) n := by
  rw [vals_set, vals_set]
  congr 1
  funext x
  unfold sw
  by_cases h1 : x = j <;> by_cases h2 : x = i <;> simp_all
/-- All but k stand behind what is no less. -/
def PutIn (f : Nat → Int) (i k : Nat) : Prop := ∀ a b, a < b → b ≤ i → b ≠ k → f b ≤ f a
theorem putin_start {f : Nat → Int} {i : Nat} (h : ∀ a b, a < b → b < i → f b ≤ f a) : PutIn f i i := fun a b h1 h2 h3 => h a b h1 (by omega)
theorem putin_step {f : Nat → Int} {i j : Nat} (h : PutIn f i (j + 1)) (hj : j + 1 ≤ i) (hl : f j < f (j + 1)) : PutIn (sw f (j + 1) j) i j := by
  intro a b h1 h2 h3
  by_cases hb : b = j + 1
  · subst hb
    rw [sw_left]
    by_cases ha : a = j
    · subst ha; rw [sw_right]; omega
    · rw [sw_other f _ _ a (by omega) ha]; exact h a j (by omega) (by omega) (by omega)
  · rw [sw_other f _ _ b hb h3]
    by_cases ha : a = j + 1
    · subst ha; rw [sw_left]; exact h j b (by omega) h2 hb
    · by_cases ha2 : a = j
      · subst ha2; rw [sw_right]; exact h (a + 1) b (by omega) h2 hb
      · rw [sw_other f _ _ a ha ha2]; exact h a b h1 h2 hb
theorem putin_zero {f : Nat → Int} {i : Nat} (h : PutIn f i 0) : ∀ a b, a < b → b < i + 1 → f b ≤ f a := fun a b h1 h2 => h a b h1 (by omega) (by omega)
theorem putin_stop {f : Nat → Int} {i j : Nat} (h : PutIn f i (j + 1)) (hj : j + 1 ≤ i) (hl : f (j + 1) ≤ f j) : ∀ a b, a < b → b < i + 1 → f b ≤ f a := fun a b h1 h2 => by
  by_cases hb : b = j + 1
  · subst hb
    by_cases ha : a = j
    · subst ha; exact hl
    · have := h a j (by omega) (by omega) (by omega); omega
  · exact h a b h1 (by omega) hb
theorem vals_falls {f : Nat → Int} {n : Nat} (h : ∀ a b, a < b → b < n → f b ≤ f a) : (vals f n).Pairwise fun x y => y ≤ x := by
  rw [List.pairwise_iff_getElem]
  intro i j hi hj hij
  have hj' : j < n := by simpa [vals] using hj
  simp only [vals, List.getElem_map, List.getElem_range]
  exact h i j hij hj'
def Sorting (l : List Int) (n : Nat) (w : World) (v : Value) (f : Nat → Int) (wr : World) : Prop := wr.ownsRow w.heap.size 3 1 v n ((vals f n).map (Value.int .i64)) ∧ Below w.heap.size w wr ∧ (vals f n).Perm l
theorem own_setb {w : World} {B e s n : Nat} {v : Value} {xs : List Value} {g k : Nat} (h : w.ownsRow B e s v n xs) (hg : v.ownBlock = some g) (u : Value) : (w.setCell ⟨g, k, none⟩ u).ownsRow B e s v n (xs.set k u) := by
  refine ⟨by rw [List.length_set]; exact h.1, ?_⟩
  rcases h.2 with ⟨rfl, _⟩ | ⟨g', cap, cur, rfl, h1, h2, h3, h4, h5, h6⟩
  · simp [Value.ownBlock] at hg
  · simp only [Value.ownBlock, Option.some.injEq] at hg
    subst hg
    refine .inr ⟨g', cap, cur.setIfInBounds k u, rfl, h1, ?_, h3, h4, by simp [h5], ?_⟩
    · rw [setCell_eq_setRow w g' k cur e (0, 0) u h2, setRow_heap w g' _ _ _ _ h2]
    · rw [Array.toList_setIfInBounds, List.take_set, h6]
theorem Sorting.swap {l : List Int} {n : Nat} {w : World} {v : Value} {f : Nat → Int} {wr : World} {g j : Nat} (h : Sorting l n w v f wr) (hg : v.ownBlock = some g) (hj : j + 1 < n) :
    Sorting l n w v (sw f (j + 1) j) ((wr.setCell ⟨g, j + 1, none⟩ (.int .i64 (f j))).setCell ⟨g, j, none⟩ (.int .i64 (f (j + 1)))) := by
  obtain ⟨h1, h2, h3⟩ := h
  have hb := (h1.lt g hg).1
  refine ⟨?_, ?_, (vals_sw f n (j + 1) j hj (by omega)).trans h3⟩
  · have := own_setb (k := j) (own_setb (k := j + 1) h1 hg (.int .i64 (f j))) hg (.int .i64 (f (j + 1)))
    rw [← List.map_set, ← List.map_set, vals_set2] at this
    exact this
  · exact (h2.setCell (p := ⟨g, j + 1, none⟩) hb _).setCell (p := ⟨g, j, none⟩) hb _
theorem Sorting.drewN {l : List Int} {n : Nat} {w : World} {v : Value} {f : Nat → Int} {wr : World} (h : Sorting l n w v f wr) (q : Nat) : Sorting l n w v f (wr.drewN q) := ⟨h.1, h.2.1.trans ⟨rfl, rfl, rfl, Nat.le_refl _, fun _ _ => rfl⟩, h.2.2⟩
theorem Sorting.at {l : List Int} {n : Nat} {w : World} {v : Value} {f : Nat → Int} {wr : World} {g i : Nat} (h : Sorting l n w v f wr) (hg : v.ownBlock = some g) (hi : i < n) : wr.cell? ⟨g, i, none⟩ = some (.int .i64 (f i)) ∧ wr.frozen? ⟨g, i, none⟩ = false := by
  have := h.1.cells hg i (.int .i64 (f i)) (by simp [vals, hi])
  rw [add_plain, Nat.zero_add] at this
  refine ⟨this, ?_⟩
  rcases h.1.2 with ⟨rfl, _⟩ | ⟨g', cap, cur, rfl, _, h2, _⟩
  · simp [Value.ownBlock] at hg
  · simp only [Value.ownBlock, Option.some.injEq] at hg
    subst hg
    exact Lib.frozen_of_heap h2 _

set_option maxHeartbeats 4000000 in
theorem ref_sorted (A : Option Addr) (n c : Nat) (l : List Int) (w : World) (h : Nums w.heap.size w (.slice A n c) l) (hn : n ≤ 1000000) :
    Calls Tryz.prog 15 #[.slice A n c] w fun e w' => ∃ A2 c2, e = .returned (.slice A2 n c2) ∧ w'.ownsRow w.heap.size 3 1 (.slice A2 n c2) n ((desc l).map (Value.int .i64)) ∧ Below w.heap.size w w' := by
  obtain ⟨i0, hi0, hz0, hz1, hz2⟩ := info_parts infoI
  have hl := h.len
  have hs := h.src
  have HL : Hid (n = l.length) := hl
  have hN : (n : Int) ≤ 1000000 := by omega
  clear hl
  go_enter Tryz.func15, Tryz.ntmps15
  go_wp2_with (at_builtin; refine wpList_append_src _ rfl _ _ 23 rfl 3 i0 (.int .i64 0) 1 8 Tryz.underlying23 hi0 hz0 hz1 hz2 rfl (by decide) w.heap.size (.slice none 0 0) 0 [] rfl (World.ownsRow_nil _ _ _ _) A n c _ rfl hs (ints_ones l) (by unfold maxLen; omega) (by omega) (Nat.le_refl _) ?_; intro v' w1 hown hgrow hat; rw [Nat.zero_add] at hown; obtain ⟨A2, c2, rfl⟩ := own_shape hown)
  have H0 : Hid (Sorting l n w (.slice A2 n c2) (fun i => l.getD i 0) w1) := by
    rw [List.nil_append] at hown
    refine ⟨?_, (Below.refl _ _).grown hgrow (Nat.le_refl _) (fun k hk => by simp [Value.ownBlock] at hk), ?_⟩
    · rw [HL.out, ← list_vals l, ← HL.out]; exact hown
    · rw [HL.out, ← list_vals l]
  clear hown hgrow hat hs
  go_wp2_with fail
  go_loopw [4, 5] (fun x _ wr => ∃ (i : Nat) (f : Nat → Int), 1 ≤ i ∧ x = .int .i64 i ∧ (i ≤ n ∨ i = 1) ∧ Hid (Sorting l n w (.slice A2 n c2) f wr ∧ ∀ a b, a < b → b < i → b < n → f b ≤ f a)) (fun x _ _ => n + 1 - (intOf x).toNat)
  case atStart => exact ⟨1, _, Nat.le_refl _, rfl, .inr rfl, H0.out, fun a b h1 h2 => by omega⟩
  case round =>
    obtain ⟨i, f, hi1, rfl, hi2, hq⟩ := hrel
    have HQ := Lib.hid hq.out
    clear hq
    have b0 : (1 : Int) ≤ (i : Int) := by omega
    by_cases hlt : i < n
    · have b1 : (i : Int) < (n : Int) := by omega
      have HP : Hid (PutIn f i i) := putin_start fun a b h1 h2 => HQ.out.2 a b h1 h2 (by omega)
      go_wp2_with fail
      go_loopw [5] (fun y wr => ∃ (k : Nat) (f : Nat → Int), k ≤ i ∧ y = .int .i64 k ∧ Hid (Sorting l n w (.slice A2 n c2) f wr ∧ PutIn f i k)) (fun y _ => (intOf y).toNat)
      case atStart => exact ⟨i, f, Nat.le_refl _, rfl, HQ.out.1, HP.out⟩
      case round =>
        clear HQ HP f
        obtain ⟨k, f, hk, rfl, hq⟩ := hrel
        have HQ := Lib.hid hq.out
        clear hq
        by_cases k0 : k = 0
        · subst k0
          go_wp2_with fail
          go_quiet (fail)
          go_wp2_with fail
          go_roundw
          case rel => exact ⟨i + 1, f, by omega, by go_num, .inl (by omega), HQ.out.1.drewN _, fun a b h1 h2 h3 => putin_zero HQ.out.2 a b h1 h2⟩
          case measure => simp [intOf]; omega
        · obtain ⟨j, rfl⟩ : ∃ j, k = j + 1 := ⟨k - 1, by omega⟩
          have ek : ((j + 1 : Nat) : Int) = (j : Int) + 1 := by omega
          rw [ek]
          obtain ⟨g, rfl⟩ : ∃ g, A2 = some ⟨g, 0, none⟩ := by
            rcases HQ.out.1.1.2 with ⟨_, h0⟩ | ⟨g, cap, cur, h1, _⟩
            · omega
            · simp only [Value.slice.injEq] at h1
              exact ⟨g, h1.1⟩
          obtain ⟨x0, f0⟩ := HQ.out.1.at (i := j) (g := g) rfl (by omega)
          obtain ⟨x1, f1⟩ := HQ.out.1.at (i := j + 1) (g := g) rfl (by omega)
          have HSW := Lib.hid (fun q => (HQ.out.1.drewN q).swap (g := g) (j := j) rfl (by omega))
          have HSTEP := Lib.hid (fun hl => putin_step HQ.out.2 hk hl)
          have HSTOP := Lib.hid (fun hl => putin_stop HQ.out.2 hk hl)
          have t1 : (0 : Int) ≤ (j : Int) := by omega
          have t2 : (j : Int) + 1 < (n : Int) := by omega
          have t3 : (j : Int) < (n : Int) := by omega
          have t4 : ((j : Int) + 1).toNat = j + 1 := by omega
          have t5 : (0 : Int) < (j : Int) + 1 := by omega
          have n1 : ¬ j = j + 1 := by omega
          have n2 : ¬ j + 1 = j := by omega
          clear ek
          have HF := Lib.hid (show f j = f j from rfl)
          by_cases hl : f j < f (j + 1)
          · have HLT := Lib.hid hl
            generalize ha : f j = a at *
            generalize hb : f (j + 1) = b at *
            clear ha hb
            go_wp2_with fail
            go_quiet (fail)
            go_wp2_with fail
            go_region
            all_goals go_wp2_with fail
            all_goals go_roundw
            case rel => exact ⟨j, _, by omega, rfl, HSW.out _, HSTEP.out HLT.out⟩
            case measure => simp [intOf]
          · have hle : f (j + 1) ≤ f j := by omega
            have HLE := Lib.hid hle
            have HLN := Lib.hid hl
            clear hl hle
            have hl : ¬ (f j < f (j + 1)) := HLN.out
            generalize ha : f j = a at *
            generalize hb : f (j + 1) = b at *
            clear ha hb
            go_wp2_with fail
            go_quiet (fail)
            go_wp2_with fail
            go_roundw
            case rel => exact ⟨i + 1, f, by omega, by go_num, .inl (by omega), HQ.out.1.drewN _, fun a b h1 h2 h3 => HSTOP.out HLE.out a b h1 h2⟩
            case measure => simp [intOf]; omega
    · have hge : ¬ ((i : Int) < (n : Int)) := by omega
      go_wp2_with fail
      go_ret
      refine ⟨A2, c2, rfl, ?_, HQ.out.1.2.1⟩
      have e : vals f n = desc l := falls_unique (vals_falls fun a b h1 h2 => HQ.out.2 a b h1 (by omega) h2) (desc_falls l) (HQ.out.1.2.2.trans (desc_perm l).symm)
      rw [← e]
      exact HQ.out.1.1

/-! A list with room behind it, in which a mark stands. -/
theorem owns_kept2 {w w' : World} {B e s n : Nat} {v : Value} {xs : List Value} (h : w.ownsRow B e s v n xs) (hk : ∀ g, v.ownBlock = some g → w'.heap[g]? = w.heap[g]?) : w'.ownsRow B e s v n xs := by
  refine ⟨h.1, ?_⟩
  rcases h.2 with h1 | ⟨g', cap, cur, rfl, h1, h2, h3⟩
  · exact .inl h1
  · exact .inr ⟨g', cap, cur, rfl, h1, (hk g' rfl).trans h2, h3⟩
theorem lent_cap {w : World} {B e s n g c m : Nat} {xs : List Value} (h : w.ownsRow B e s (.slice (some ⟨g, 0, none⟩) n c) m xs) : (m : Int) ≤ (c : Int) ∧ B ≤ g := by
  rcases h.2 with ⟨h2, _⟩ | ⟨g', cap, cur, h2, h3, h4, h5, _⟩
  · simp at h2
  · simp at h2
    obtain ⟨rfl, _, rfl⟩ := h2
    exact ⟨by omega, h3⟩
def Lent (w : World) (g n c : Nat) (l : List Int) : Prop := n = l.length ∧ w.ownsRow 0 3 1 (.slice (some ⟨g, 0, none⟩) (n + 1) c) (n + 1) ((l ++ [-77]).map (Value.int .i64))
theorem Lent.row {w : World} {g n c : Nat} {l : List Int} (h : Lent w g n c l) : Row w (some ⟨g, 0, none⟩) n c l := by
  obtain ⟨hn, h1, h2⟩ := h
  refine ⟨hn, by simp [hn], ?_⟩
  rcases h2 with ⟨h2, _⟩ | ⟨g', cap, cur, h2, h3, h4, h5, h6, h7, h8⟩
  · simp at h2
  · simp only [Value.slice.injEq, Option.some.injEq, Addr.mk.injEq, and_true, true_and] at h2
    obtain ⟨rfl, rfl⟩ := h2
    refine .inr ⟨g, c, cur, rfl, h3, h4, by omega, h6, h7, ?_⟩
    have e : n * 1 = min (n * 1) ((n + 1) * 1) := by omega
    rw [e, ← List.take_take, h8, List.map_append, List.take_left' (by simp [hn])]
theorem Lent.mark {w : World} {g n c : Nat} {l : List Int} (h : Lent w g n c l) : w.cell? ⟨g, n, none⟩ = some (.int .i64 (-77)) ∧ n + 1 ≤ c := by
  obtain ⟨hn, h⟩ := h
  have := h.cells (g := g) rfl n (.int .i64 (-77)) (by simp [hn])
  rw [add_plain, Nat.zero_add] at this
  refine ⟨this, ?_⟩
  rcases h.2 with ⟨h2, _⟩ | ⟨g', cap, cur, h2, h3, h4, h5, _⟩
  · simp at h2
  · simp at h2; omega
theorem Lent.keep {w w' : World} {g n c : Nat} {l : List Int} (h : Lent w g n c l) (hk : w'.heap[g]? = w.heap[g]?) : Lent w' g n c l := ⟨h.1, owns_kept2 h.2 fun q hq => by
  simp only [Value.ownBlock, Option.some.injEq] at hq
  subst hq
  exact hk⟩
theorem Lent.lt {w : World} {g n c : Nat} {l : List Int} (h : Lent w g n c l) : g < w.heap.size := (h.2.lt g rfl).2
theorem Lent.block {w : World} {g n c : Nat} {l : List Int} (h : Lent w g n c l) : ∃ cur, w.heap[g]? = some (.cells cur 3 (0, 0)) := by
  rcases h.2.2 with ⟨h2, _⟩ | ⟨g', cap, cur, h2, h3, h4, _⟩
  · simp at h2
  · simp only [Value.slice.injEq, Option.some.injEq, Addr.mk.injEq, and_true, true_and] at h2
    obtain ⟨rfl, _⟩ := h2
    exact ⟨cur, h4⟩

set_option maxHeartbeats 1000000 in
theorem lent_walk (A : Option Addr) (n c : Nat) (l : List Int) (w : World) (h : Nums w.heap.size w (.slice A n c) l) (hn : n ≤ 100000) :
    Calls Tryz.prog 11 #[.slice A n c] w fun e w' => ∃ g c2, e = .returned (.slice (some ⟨g, 0, none⟩) n c2) ∧ Lent w' g n c2 l ∧ w.heap.size ≤ g ∧ Below w.heap.size w w' := by
  obtain ⟨i0, hi0, hz0, hz1, hz2⟩ := info_parts infoI
  have HC := Lib.hid (copy_walk A n c l w h (by omega))
  have HL : Hid (n = l.length) := h.len
  have b0 : (n : Int) ≤ 100000 := by omega
  have b1 : (0 : Int) ≤ (n : Int) := by omega
  clear h
  go_enter Tryz.func11, Tryz.ntmps11
  go_wp2_with fail
  refine HC.out.mono ?_; rintro e w1 ⟨A1, c1, rfl, h1, h2⟩
  rw [← HL.out] at h1
  have hx := HL.out
  have H1 := Lib.hid h1
  have H2 := Lib.hid h2
  have e1 : l.length = n := hx.symm
  rw [e1]
  clear hx e1 h2 HC
  go_wp2_with (at_builtin; refine wpList_append_own _ rfl _ _ 23 rfl w.heap.size 3 i0 (.int .i64 0) 1 8 Tryz.underlying23 hi0 hz0 hz1 hz2 rfl (by decide) _ _ _ rfl (h1.alloc _) ⟨w1.heap.size, 0, none⟩ 1 1 [.int .i64 (-77)] rfl rfl (cell_one_new _ _ _) (by simp [Value.oneCell']) (by unfold maxLen; omega) (by omega) (by have := H2.out.size; simp; omega) ?_; intro v' w2 hown hgrow _; obtain ⟨g, c2, rfl⟩ := ownsRow_succ hown; obtain ⟨hcap, hbase⟩ := lent_cap hown)
  go_ret
  refine ⟨g, c2, rfl, ⟨HL.out, ?_⟩, hbase, ?_⟩
  · rw [List.map_append]
    exact own_base hown
  · exact (H2.out.alloc H2.out.size _).grown hgrow (by have := H2.out.size; simp; omega) (fun k hk => (H1.out.lt k hk).1)

set_option maxHeartbeats 1000000 in
theorem stays_walk (g n c : Nat) (B : Option Addr) (d : Nat) (l : List Int) (w : World) (h1 : Lent w g n c l) (h2 : Nums w.heap.size w (.slice B n d) l) (hn : n ≤ 100000) :
    Calls Tryz.prog 16 #[.slice (some ⟨g, 0, none⟩) n c, .slice B n d] w fun e w' => e = .returned (.bool true) ∧ ∃ q, w' = w.drewN q := by
  have HS := Lib.hid (same_walk w.heap.size (some ⟨g, 0, none⟩) B n c d l w (by omega) h1.row.nums h2)
  obtain ⟨hm, hc⟩ := h1.mark
  have b0 : (n : Int) ≤ 100000 := by omega
  have b1 : (0 : Int) ≤ (n : Int) := by omega
  have b2 : (n : Int) + 1 ≤ (c : Int) := by omega
  have b3 : (n : Int) < (n : Int) + 1 := by omega
  have b4 : ((n : Int) + 1).toNat = n + 1 := by omega
  have b5 : n < n + 1 := by omega
  clear h1 h2
  go_enter Tryz.func16, Tryz.ntmps16
  go_wp2_with fail
  refine HS.out.mono ?_; rintro e w1 ⟨rfl, q, rfl⟩
  go_wp2_with fail
  go_ret
  exact ⟨rfl, q, rfl⟩
end Go.Proofs.YtfelhepdcnckhaaGreat
