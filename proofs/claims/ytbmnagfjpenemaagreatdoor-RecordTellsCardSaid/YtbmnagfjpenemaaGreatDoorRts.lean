/- The document's Sorted, Rising and Touches. -/
import Derived.Test.YtbmnagfjpenemaaGreatDoorBki
import Derived.Test.YtbmnagfjpenemaaGreatDoorSort
import Derived.StillTailTactics
import Derived.BigQuiet
import Derived.Deep.QuietTactic
namespace Go.Proofs.YtbmnagfjpenemaaGreatDoor.Bk
open Go.ChangeShapes Go.WideShapes Go.ChangeAt Go.RowKit
set_option linter.unusedVariables false
set_option linter.unusedSimpArgs false
set_option maxRecDepth 100000
section
variable {α : Type}

/-- Two places exchanged. -/
def sw (f : Nat → α) (i j : Nat) : Nat → α := fun x => if x = i then f j else if x = j then f i else f x

theorem sw_left (f : Nat → α) (i j : Nat) : sw f i j i = f j := by simp [sw]
theorem sw_right (f : Nat → α) (i j : Nat) : sw f i j j = f i := by unfold sw; split <;> simp_all
theorem sw_other (f : Nat → α) (i j x : Nat) (h1 : x ≠ i) (h2 : x ≠ j) : sw f i j x = f x := by simp [sw, h1, h2]

/-- The first n places. -/
def vals (f : Nat → α) (n : Nat) : List α := (List.range n).map f

theorem vals_length (f : Nat → α) (n : Nat) : (vals f n).length = n := by simp [vals]
theorem vals_get (f : Nat → α) (n i : Nat) (h : i < n) : (vals f n)[i]? = some (f i) := by simp [vals, h]
theorem vals_succ (f : Nat → α) (n : Nat) : vals f (n + 1) = vals f n ++ [f n] := by simp [vals, List.range_succ]
theorem vals_congr (f g : Nat → α) (n : Nat) (h : ∀ i, i < n → f i = g i) : vals f n = vals g n := by
  unfold vals; exact List.map_congr_left fun i hi => h i (List.mem_range.1 hi)

theorem vals_sw (f : Nat → α) (n i j : Nat) (hi : i < n) (hj : j < n) : (vals (sw f i j) n).Perm (vals f n) := by
  have h := Array.swap_perm (xs := (vals f n).toArray) (i := i) (j := j) (by simp [vals_length]; exact hi) (by simp [vals_length]; exact hj)
  have e : ((vals f n).toArray.swap i j (by simp [vals_length]; exact hi) (by simp [vals_length]; exact hj)).toList = vals (sw f i j) n := by
    apply List.ext_getElem?
    intro k
    by_cases hk : k < n
    · rw [vals_get _ _ _ hk, Array.getElem?_toList, Array.getElem?_swap]
      simp only [List.getElem?_toArray, vals, sw, List.getElem_toArray, List.getElem_map, List.getElem_range, List.getElem?_map, List.getElem?_range hk]
      by_cases h1 : k = i <;> by_cases h2 : k = j <;> simp_all [eq_comm]
    · rw [List.getElem?_eq_none (by simp [vals_length]; omega), List.getElem?_eq_none (by simp [vals_length]; omega)]
  have h2 := h.toList
  rw [e] at h2
  simpa using h2

end
/-- Numbers, falling. -/
def desc (l : List Int) : List Int := l.mergeSort fun x y => decide (y ≤ x)
theorem desc_length (l : List Int) : (desc l).length = l.length := List.length_mergeSort l
theorem desc_perm (l : List Int) : (desc l).Perm l := List.mergeSort_perm l _
theorem desc_falls (l : List Int) : (desc l).Pairwise fun x y => y ≤ x := by
  have h := List.pairwise_mergeSort (le := fun x y : Int => decide (y ≤ x)) (fun a b c h k => by simp at *; omega) (fun a b => by simp; omega) l
  exact h.imp fun h => by simpa using h
theorem falls_unique {l m : List Int} (h : l.Pairwise fun x y => y ≤ x) (k : m.Pairwise fun x y => y ≤ x) (p : l.Perm m) : l = m :=
  p.eq_of_pairwise (fun a b _ _ h1 h2 => by omega) h k

theorem ints_src {C : Nat} {w : World} {A : Option Addr} {n : Nat} {l : List Int} (h : IntsM C w A n l) : Src w 1 A n (ics l) := by
  refine ⟨by simp [ics, h.1], fun h0 => ?_⟩
  obtain ⟨b, off, h1, _⟩ := h.2.2 0 h0
  refine ⟨⟨b, off, none⟩, h1, fun j u hu => ?_⟩
  have hj : j < l.length := by have := (List.getElem?_eq_some_iff.1 hu).1; simpa [ics] using this
  obtain ⟨b', off', h1', _, h3, _⟩ := h.2.2 j (by rw [← h.1]; exact hj)
  rw [h1] at h1'
  simp only [Option.some.injEq, Addr.mk.injEq, and_true] at h1'
  obtain ⟨rfl, rfl⟩ := h1'
  have e : u = .int .i64 (l.getD j 0) := by
    unfold ics at hu
    rw [List.getElem?_map, List.getElem?_eq_getElem hj] at hu
    rw [getD_at hj]
    simpa using hu.symm
  rw [add_plain, h3, e]
theorem ics_ones (l : List Int) : ∀ u ∈ ics l, u.oneCell' = true := by
  intro u hu
  obtain ⟨x, _, rfl⟩ := List.mem_map.1 hu
  rfl
theorem list_vals (l : List Int) : l = vals (fun i => l.getD i 0) l.length := by
  apply List.ext_getElem
  · simp [vals]
  · intro i h1 h2
    simp [vals, List.getD, h1]
theorem vals_getD (f : Nat → Int) (n i : Nat) (h : i < n) : (vals f n).getD i 0 = f i := by simp [vals, List.getD, h]
theorem vals_set (f : Nat → Int) (n i : Nat) (x : Int) : (vals f n).set i x = vals (fun j => if j = i then x else f j) n := by
  apply List.ext_getElem
  · simp [vals]
  · intro j h1 h2
    simp only [vals, List.getElem_set, List.getElem_map, List.getElem_range]
    by_cases h : i = j
    · subst h; simp
    · simp [h, Ne.symm h]
theorem vals_set2 (f : Nat → Int) (n i j : Nat) : ((vals f n).set i (f j)).set j (f i) = vals (sw f i j) n := by
  rw [vals_set, vals_set]
  congr 1
  funext x
  unfold sw
  by_cases h1 : x = j <;> by_cases h2 : x = i <;> simp_all
/-- All but k stand behind what is no less. -/
def PutIn (f : Nat → Int) (i k : Nat) : Prop := ∀ a b, a < b → b ≤ i → b ≠ k → f b ≤ f a
theorem putin_start {f : Nat → Int} {i : Nat} (h : ∀ a b, a < b → b < i → f b ≤ f a) : PutIn f i i := fun a b h1 h2 h3 => h a b h1 (by omega)
theorem putin_step {f : Nat → Int} {i j : Nat} (h : PutIn f i (j + 1)) (hj : j + 1 ≤ i) (hl : f j < f (j + 1)) : PutIn (sw f (j + 1) j) i j := by
  intro a b h1 h2 h3
  by_cases hb : b = j + 1
  · subst hb
    rw [sw_left]
    by_cases ha : a = j
    · subst ha; rw [sw_right]; omega
    · rw [sw_other f _ _ a (by omega) ha]; exact h a j (by omega) (by omega) (by omega)
  · rw [sw_other f _ _ b hb h3]
    by_cases ha : a = j + 1
    · subst ha; rw [sw_left]; exact h j b (by omega) h2 hb
    · by_cases ha2 : a = j
      · subst ha2; rw [sw_right]; exact h (a + 1) b (by omega) h2 hb
      · rw [sw_other f _ _ a ha ha2]; exact h a b h1 h2 hb
theorem putin_zero {f : Nat → Int} {i : Nat} (h : PutIn f i 0) : ∀ a b, a < b → b < i + 1 → f b ≤ f a := fun a b h1 h2 => h a b h1 (by omega) (by omega)
theorem putin_stop {f : Nat → Int} {i j : Nat} (h : PutIn f i (j + 1)) (hj : j + 1 ≤ i) (hl : f (j + 1) ≤ f j) : ∀ a b, a < b → b < i + 1 → f b ≤ f a := fun a b h1 h2 => by
  by_cases hb : b = j + 1
  · subst hb
    by_cases ha : a = j
    · subst ha; exact hl
    · have := h a j (by omega) (by omega) (by omega); omega
  · exact h a b h1 (by omega) hb
theorem vals_falls {f : Nat → Int} {n : Nat} (h : ∀ a b, a < b → b < n → f b ≤ f a) : (vals f n).Pairwise fun x y => y ≤ x := by
  rw [List.pairwise_iff_getElem]
  intro i j hi hj hij
  have hj' : j < n := by simpa [vals] using hj
  simp only [vals, List.getElem_map, List.getElem_range]
  exact h i j hij hj'
def Sorting (l : List Int) (n : Nat) (w : World) (v : Value) (f : Nat → Int) (wr : World) : Prop := wr.ownsRow w.heap.size 3 1 v n (ics (vals f n)) ∧ Below w.heap.size w wr ∧ (vals f n).Perm l
theorem Sorting.swap {l : List Int} {n : Nat} {w : World} {v : Value} {f : Nat → Int} {wr : World} {g j : Nat} (h : Sorting l n w v f wr) (hg : v.ownBlock = some g) (hj : j + 1 < n) :
    Sorting l n w v (sw f (j + 1) j) ((wr.setCell ⟨g, j + 1, none⟩ (.int .i64 (f j))).setCell ⟨g, j, none⟩ (.int .i64 (f (j + 1)))) := by
  obtain ⟨h1, h2, h3⟩ := h
  have hb := (h1.lt g hg).1
  refine ⟨?_, ?_, (vals_sw f n (j + 1) j hj (by omega)).trans h3⟩
  · have := own_set (k := j) (own_set (k := j + 1) h1 hg (.int .i64 (f j))) hg (.int .i64 (f (j + 1)))
    unfold ics at this
    rw [← List.map_set, ← List.map_set, vals_set2] at this
    exact this
  · exact (h2.setCell (p := ⟨g, j + 1, none⟩) hb _).setCell (p := ⟨g, j, none⟩) hb _
theorem Sorting.drewN {l : List Int} {n : Nat} {w : World} {v : Value} {f : Nat → Int} {wr : World} (h : Sorting l n w v f wr) (q : Nat) : Sorting l n w v f (wr.drewN q) := ⟨h.1, h.2.1.trans ⟨rfl, rfl, rfl, Nat.le_refl _, fun _ _ => rfl⟩, h.2.2⟩
theorem Sorting.at {l : List Int} {n : Nat} {w : World} {v : Value} {f : Nat → Int} {wr : World} {g i : Nat} (h : Sorting l n w v f wr) (hg : v.ownBlock = some g) (hi : i < n) : wr.cell? ⟨g, i, none⟩ = some (.int .i64 (f i)) ∧ wr.frozen? ⟨g, i, none⟩ = false := by
  have := h.1.cells hg i (.int .i64 (f i)) (by simp [ics, vals, hi])
  rw [add_plain, Nat.zero_add] at this
  refine ⟨this, ?_⟩
  rcases h.1.2 with ⟨rfl, _⟩ | ⟨g', cap, cur, rfl, _, h2, _⟩
  · simp [Value.ownBlock] at hg
  · simp only [Value.ownBlock, Option.some.injEq] at hg
    subst hg
    exact Lib.frozen_of_heap h2 _

set_option maxHeartbeats 4000000 in
theorem ref_sorted (A : Option Addr) (n c : Nat) (l : List Int) (w : World) (h : IntsM w.heap.size w A n l) (hn : n ≤ 1000000) :
    Calls Tryz.prog 111 #[.slice A n c] w fun e w' => ∃ A2 c2, e = .returned (.slice A2 n c2) ∧ w'.ownsRow w.heap.size 3 1 (.slice A2 n c2) n (ics (desc l)) ∧ Below w.heap.size w w' := by
  obtain ⟨i0, hi0, hz0, hz1, hz2⟩ := info_parts infoI
  have hl := h.1.symm
  have hs := ints_src h
  have HL : Hid (n = l.length) := hl
  have hN : (n : Int) ≤ 1000000 := by omega
  clear hl
  go_enter Tryz.func111, Tryz.ntmps111
  go_wp2_with (at_builtin; refine wpList_append_src _ rfl _ _ 24 rfl 3 i0 (.int .i64 0) 1 8 Tryz.underlying24 hi0 hz0 hz1 hz2 rfl (by decide) w.heap.size (.slice none 0 0) 0 [] rfl (World.ownsRow_nil _ _ _ _) A n c _ rfl hs (ics_ones l) (by unfold maxLen; omega) (by omega) (Nat.le_refl _) ?_; intro v' w1 hown hgrow hat; rw [Nat.zero_add] at hown; obtain ⟨A2, c2, rfl⟩ := own_shape hown)
  have H0 : Hid (Sorting l n w (.slice A2 n c2) (fun i => l.getD i 0) w1) := by
    rw [List.nil_append] at hown
    refine ⟨?_, (Below.refl _ _).grown hgrow (Nat.le_refl _) (fun k hk => by simp [Value.ownBlock] at hk), ?_⟩
    · rw [HL.out, ← list_vals l, ← HL.out]; exact hown
    · rw [HL.out, ← list_vals l]
  clear hown hgrow hat hs
  go_wp2_with fail
  go_loopw [4, 5] (fun x _ wr => ∃ (i : Nat) (f : Nat → Int), 1 ≤ i ∧ x = .int .i64 i ∧ (i ≤ n ∨ i = 1) ∧ Hid (Sorting l n w (.slice A2 n c2) f wr ∧ ∀ a b, a < b → b < i → b < n → f b ≤ f a)) (fun x _ _ => n + 1 - (intOf x).toNat)
  case atStart => exact ⟨1, _, Nat.le_refl _, rfl, .inr rfl, H0.out, fun a b h1 h2 => by omega⟩
  case round =>
    obtain ⟨i, f, hi1, rfl, hi2, hq⟩ := hrel
    have HQ := Lib.hid hq.out
    clear hq
    have b0 : (1 : Int) ≤ (i : Int) := by omega
    by_cases hlt : i < n
    · have b1 : (i : Int) < (n : Int) := by omega
      have HP : Hid (PutIn f i i) := putin_start fun a b h1 h2 => HQ.out.2 a b h1 h2 (by omega)
      go_wp2_with fail
      go_loopw [5] (fun y wr => ∃ (k : Nat) (f : Nat → Int), k ≤ i ∧ y = .int .i64 k ∧ Hid (Sorting l n w (.slice A2 n c2) f wr ∧ PutIn f i k)) (fun y _ => (intOf y).toNat)
      case atStart => exact ⟨i, f, Nat.le_refl _, rfl, HQ.out.1, HP.out⟩
      case round =>
        clear HQ HP f
        obtain ⟨k, f, hk, rfl, hq⟩ := hrel
        have HQ := Lib.hid hq.out
        clear hq
        by_cases k0 : k = 0
        · subst k0
          go_wp2_with fail
          go_quiet (fail)
          go_wp2_with fail
          go_roundw
          case rel => exact ⟨i + 1, f, by omega, by go_num, .inl (by omega), HQ.out.1.drewN _, fun a b h1 h2 h3 => putin_zero HQ.out.2 a b h1 h2⟩
          case measure => simp [intOf]; omega
        · obtain ⟨j, rfl⟩ : ∃ j, k = j + 1 := ⟨k - 1, by omega⟩
          have ek : ((j + 1 : Nat) : Int) = (j : Int) + 1 := by omega
          rw [ek]
          obtain ⟨g, rfl⟩ : ∃ g, A2 = some ⟨g, 0, none⟩ := by
            rcases HQ.out.1.1.2 with ⟨_, h0⟩ | ⟨g, cap, cur, h1, _⟩
            · omega
            · simp only [Value.slice.injEq] at h1
              exact ⟨g, h1.1⟩
          obtain ⟨x0, f0⟩ := HQ.out.1.at (i := j) (g := g) rfl (by omega)
          obtain ⟨x1, f1⟩ := HQ.out.1.at (i := j + 1) (g := g) rfl (by omega)
          have HSW := Lib.hid (fun q => (HQ.out.1.drewN q).swap (g := g) (j := j) rfl (by omega))
          have HSTEP := Lib.hid (fun hl => putin_step HQ.out.2 hk hl)
          have HSTOP := Lib.hid (fun hl => putin_stop HQ.out.2 hk hl)
          have t1 : (0 : Int) ≤ (j : Int) := by omega
          have t2 : (j : Int) + 1 < (n : Int) := by omega
          have t3 : (j : Int) < (n : Int) := by omega
          have t4 : ((j : Int) + 1).toNat = j + 1 := by omega
          have t5 : (0 : Int) < (j : Int) + 1 := by omega
          have n1 : ¬ j = j + 1 := by omega
          have n2 : ¬ j + 1 = j := by omega
          clear ek
          have HF := Lib.hid (show f j = f j from rfl)
          by_cases hl : f j < f (j + 1)
          · have HLT := Lib.hid hl
            generalize ha : f j = a at *
            generalize hb : f (j + 1) = b at *
            clear ha hb
            go_wp2_with fail
            go_quiet (fail)
            go_wp2_with fail
            go_region
            all_goals go_wp2_with fail
            all_goals go_roundw
            case rel => exact ⟨j, _, by omega, rfl, HSW.out _, HSTEP.out HLT.out⟩
            case measure => simp [intOf]
          · have hle : f (j + 1) ≤ f j := by omega
            have HLE := Lib.hid hle
            have HLN := Lib.hid hl
            clear hl hle
            have hl : ¬ (f j < f (j + 1)) := HLN.out
            generalize ha : f j = a at *
            generalize hb : f (j + 1) = b at *
            clear ha hb
            go_wp2_with fail
            go_quiet (fail)
            go_wp2_with fail
            go_roundw
            case rel => exact ⟨i + 1, f, by omega, by go_num, .inl (by omega), HQ.out.1.drewN _, fun a b h1 h2 h3 => HSTOP.out HLE.out a b h1 h2⟩
            case measure => simp [intOf]; omega
    · have hge : ¬ ((i : Int) < (n : Int)) := by omega
      go_wp2_with fail
      go_ret
      refine ⟨A2, c2, rfl, ?_, HQ.out.1.2.1⟩
      have e : vals f n = desc l := falls_unique (vals_falls fun a b h1 h2 => HQ.out.2 a b h1 (by omega) h2) (desc_falls l) (HQ.out.1.2.2.trans (desc_perm l).symm)
      rw [← e]
      exact HQ.out.1.1


theorem asc_rises (l : List Int) : (asc l).Pairwise fun x y => x ≤ y := by
  have h := List.pairwise_mergeSort (le := fun x y : Int => decide (x ≤ y)) (fun a b c h k => by simp at *; omega) (fun a b => by simp; omega) l
  exact h.imp fun h => by simpa using h
theorem desc_rev (l : List Int) : (desc l).reverse = asc l := by
  have e : desc l = (asc l).reverse := falls_unique (desc_falls l) (List.pairwise_reverse.2 (asc_rises l)) ((desc_perm l).trans (((List.reverse_perm _).trans (List.mergeSort_perm l _)).symm))
  rw [e, List.reverse_reverse]
/-- The k-th of the rising ones. -/
theorem desc_at (l : List Int) (k j : Nat) (h : k + 1 + j = l.length) : (desc l).getD j 0 = (asc l).toArray[k]! := by
  have h1 : j < (desc l).length := by rw [desc_length]; omega
  have h2 : k < (asc l).length := by rw [asc_length]; omega
  rw [getD_at h1]
  have e : (asc l).toArray[k]! = (asc l)[k] := by simp [h2]
  rw [e]
  have e2 : (asc l)[k] = (desc l).reverse[k]'(by rw [desc_rev]; exact h2) := by simp only [desc_rev]
  rw [e2, List.getElem_reverse]
  congr 1
  rw [desc_length]
  omega
/-- What is kept ends in what was looked at last. -/
theorem compact_last (d : Array Int) : ∀ m, ∃ O, Lib.compactUpTo d (m + 1) = O ++ [d[m]!]
  | 0 => ⟨[], by rw [Lib.compactUpTo_succ]; simp [Lib.compactUpTo, Lib.keeps]⟩
  | m + 1 => by
    obtain ⟨O, h⟩ := compact_last d m
    rw [Lib.compactUpTo_succ]
    by_cases hk : Lib.keeps d (m + 1) = true
    · rw [if_pos hk]
      exact ⟨_, rfl⟩
    · rw [if_neg hk, List.append_nil, h]
      refine ⟨O, ?_⟩
      have : d[m + 1]! = d[m]! := by
        simp only [Lib.keeps, decide_eq_true_eq, not_or] at hk
        have := hk.2
        simp only [Nat.add_sub_cancel, ne_eq, Classical.not_not] at this
        exact this
      rw [this]
theorem compact_upto_len (d : Array Int) (m : Nat) : (Lib.compactUpTo d m).length ≤ m := by
  unfold Lib.compactUpTo
  rw [List.length_map]
  exact Nat.le_trans (List.length_filter_le _ _) (by simp)
/-- While it is made rising: k have been looked at. -/
def Rsg (l : List Int) (w : World) (Av : Option Addr) (c : Nat) (k : Nat) (v : Value) (m : Nat) (wr : World) : Prop := m = (Lib.compactUpTo (asc l).toArray k).length ∧ wr.ownsRow w.heap.size 3 1 v m (ics (Lib.compactUpTo (asc l).toArray k)) ∧ wr.ownsRow w.heap.size 3 1 (.slice Av l.length c) l.length (ics (desc l)) ∧ Below w.heap.size w wr ∧ ∀ g, v.ownBlock = some g → (Value.slice Av l.length c).ownBlock ≠ some g
theorem Rsg.drewN {l : List Int} {w : World} {Av : Option Addr} {c k : Nat} {v : Value} {m : Nat} {wr : World} (h : Rsg l w Av c k v m wr) (q : Nat) : Rsg l w Av c k v m (wr.drewN q) := ⟨h.1, h.2.1, h.2.2.1, h.2.2.2.1.trans ⟨rfl, rfl, rfl, Nat.le_refl _, fun _ _ => rfl⟩, h.2.2.2.2⟩
theorem Rsg.skip {l : List Int} {w : World} {Av : Option Addr} {c k : Nat} {v : Value} {m : Nat} {wr : World} (h : Rsg l w Av c k v m wr) (hk : Lib.keeps (asc l).toArray k = false) : Rsg l w Av c (k + 1) v m wr := by
  unfold Rsg
  rw [Lib.compactUpTo_succ, hk]
  simp only [Bool.false_eq_true, if_false, List.append_nil]
  exact h
theorem Rsg.add {l : List Int} {w : World} {Av : Option Addr} {c k : Nat} {v v' : Value} {m : Nat} {wr w' : World} {o : Obj} (h : Rsg l w Av c k v m wr) (hk : Lib.keeps (asc l).toArray k = true)
    (hown : w'.ownsRow w.heap.size 3 1 v' (m + 1) (ics (Lib.compactUpTo (asc l).toArray k) ++ [.int .i64 ((asc l).toArray[k]!)])) (hg : (wr.alloc o).grownBy w' v.ownBlock) (hat : v'.ownBlock = v.ownBlock ∨ v'.ownBlock = some (wr.alloc o).heap.size) : Rsg l w Av c (k + 1) v' (m + 1) w' := by
  obtain ⟨h1, h2, h3, h4, h5⟩ := h
  have e : Lib.compactUpTo (asc l).toArray (k + 1) = Lib.compactUpTo (asc l).toArray k ++ [(asc l).toArray[k]!] := by rw [Lib.compactUpTo_succ, if_pos hk]
  have keep : ∀ g, (Value.slice Av l.length c).ownBlock = some g → w'.heap[g]? = wr.heap[g]? := fun g hg' => by
    have hlt := (h3.lt g hg').2
    exact (hg.block g (by rw [World.size_alloc]; omega) (fun hh => h5 g hh.symm hg')).trans (Below.heap_alloc wr o g hlt)
  refine ⟨by rw [e, h1]; simp, by rw [e]; unfold ics at hown ⊢; rw [List.map_append]; exact hown, owns_kept h3 keep, (h4.alloc h4.size o).grown hg (by have := h4.size; simp; omega) (fun g hg' => (h2.lt g hg').1), fun g hg' he => ?_⟩
  have hlt := (h3.lt g he).2
  rcases hat with ha | ha
  · exact h5 g (ha ▸ hg') he
  · rw [ha, World.size_alloc] at hg'
    simp only [Option.some.injEq] at hg'
    omega
set_option maxHeartbeats 4000000 in
theorem ref_rising (A : Option Addr) (n c : Nat) (l : List Int) (w : World) (h : IntsM w.heap.size w A n l) (hn : n ≤ 1000000) :
    Calls Tryz.prog 42 #[.slice A n c] w fun e w' => ∃ A2 c2, e = .returned (.slice A2 (Lib.compact (asc l)).length c2) ∧ w'.ownsRow w.heap.size 3 1 (.slice A2 (Lib.compact (asc l)).length c2) (Lib.compact (asc l)).length (ics (Lib.compact (asc l))) ∧ Below w.heap.size w w' := by
  obtain ⟨i0, hi0, hz0, hz1, hz2⟩ := info_parts infoI
  have SO := Lib.hid (ref_sorted A n c l w h hn)
  have HL := Lib.hid h.1
  have hN : (n : Int) ≤ 1000000 := by omega
  have hCC : Lib.compact (asc l) = Lib.compactUpTo (asc l).toArray n := by unfold Lib.compact; rw [asc_length, h.1]
  rw [hCC]
  clear h hCC
  go_enter Tryz.func42, Tryz.ntmps42
  go_wp2_with fail
  refine SO.out.mono ?_; rintro e w1 ⟨As, cs, rfl, ho, hb⟩
  have H0 : Hid (Rsg l w As cs 0 (.slice none 0 0) 0 w1) := ⟨by simp [Lib.compactUpTo], by simpa [Lib.compactUpTo, ics] using World.ownsRow_nil _ _ _ _, by rw [HL.out]; exact ho, hb, fun g hg => by simp [Value.ownBlock] at hg⟩
  clear ho hb SO
  go_wp2_with fail
  go_loopw [4, 5] (fun v x wr => ∃ i k m : Nat, k + i = n ∧ x = .int .i64 ((i : Int) - 1) ∧ ∃ B d, v = .slice B m d ∧ Hid (Rsg l w As cs k (.slice B m d) m wr)) (fun _ x _ => (intOf x + 1).toNat)
  case atStart => exact ⟨n, 0, 0, by omega, by go_num, none, 0, rfl, H0.out⟩
  case round =>
    clear H0
    obtain ⟨i, k, m, hki, rfl, B, d, rfl, hq⟩ := hrel
    have HQ := Lib.hid hq.out
    clear hq
    cases i with
    | zero =>
      obtain rfl : k = n := by omega
      go_wp2_with fail
      go_ret
      obtain ⟨h1, h2, h3, h4, h5⟩ := HQ.out
      refine ⟨B, d, by rw [← h1]; rfl, ?_, h4⟩
      rw [← h1]
      exact h2
    | succ j =>
      have HKI := Lib.hid hki
      have e1 : (((j + 1 : Nat) : Int) - 1) = (j : Int) := by omega
      rw [e1]
      have hjn : j < n := by omega
      have j0 : (0 : Int) ≤ (j : Int) := by omega
      have j1 : (j : Int) < (n : Int) := by omega
      have hmn : m ≤ n := by have := compact_upto_len (asc l).toArray k; have := HQ.out.1; omega
      -- the cell of the sorted row
      obtain ⟨gs, rfl, cS⟩ : ∃ g, As = some ⟨g, 0, none⟩ ∧ wr.cell? ⟨g, j, none⟩ = some (.int .i64 ((asc l).toArray[k]!)) := by
        obtain ⟨_, _, h3, _, _⟩ := HQ.out
        rcases h3.2 with ⟨_, h0⟩ | ⟨g, cap, cur, hv, _⟩
        · rw [HL.out] at h0; omega
        · simp only [Value.slice.injEq] at hv
          refine ⟨g, hv.1, ?_⟩
          have := h3.cells (g := g) (by rw [hv.1]; rfl) j (.int .i64 ((desc l).getD j 0)) (by
            unfold ics
            have hj : j < (desc l).length := by rw [desc_length, HL.out]; exact hjn
            rw [List.getElem?_map, List.getElem?_eq_getElem hj, getD_at hj]; rfl)
          rw [add_plain, Nat.zero_add] at this
          rw [this, desc_at l k j (by rw [HL.out]; omega)]
      cases k with
      | zero =>
        have hm : m = 0 := by have := HQ.out.1; simpa [Lib.compactUpTo] using this
        subst hm
        have HK := Lib.hid (show Lib.keeps (asc l).toArray 0 = true from by simp [Lib.keeps])
        have hown := HQ.out.2.1
        have HB := Lib.hid HQ.out.2.2.2.1.size
        have HAD := Lib.hid (fun (v' : Value) (w' : World) (o : Obj) (q : Nat) => Rsg.add (v' := v') (w' := w') (o := o) (HQ.out.drewN q) HK.out)
        generalize (asc l).toArray[0]! = x at *
        clear hki
        go_wp2_with fail
        go_quiet (fail)
        go_wp2_with (at_builtin; refine wpList_append_own_at _ rfl (.tmp 31) (.tmp 36) 24 rfl w.heap.size 3 i0 (.int .i64 0) 1 8 Tryz.underlying24 hi0 hz0 hz1 hz2 rfl (by decide) _ _ _ rfl (hown.alloc _) ⟨wr.heap.size, 0, none⟩ 1 1 [.int .i64 x] rfl rfl (cell_one_new _ _ _) (by simp [Value.oneCell']) (by unfold maxLen; omega) (by omega) (by have := HB.out; simp; omega) ?_; intro v' w2 hown' hgrow _ hat; obtain ⟨g', cap', rfl⟩ := ownsRow_succ hown')
        have HN := Lib.hid (HAD.out _ _ _ _ hown' hgrow hat)
        clear hown hown' hgrow hat HAD
        go_wp2_with fail
        go_roundw
        case rel => exact ⟨j, 1, 1, by have := HKI.out; omega, by go_num, _, _, rfl, HN.out⟩
        case measure => simp [intOf] <;> omega
      | succ k =>
        obtain ⟨O, hO⟩ := compact_last (asc l).toArray k
        have hmO : m = O.length + 1 := by have := HQ.out.1; rw [hO] at this; simpa using this
        subst hmO
        have hown := HQ.out.2.1
        obtain ⟨gb, rfl, cB⟩ : ∃ g, B = some ⟨g, 0, none⟩ ∧ wr.cell? ⟨g, O.length, none⟩ = some (.int .i64 ((asc l).toArray[k]!)) := by
          rcases hown.2 with ⟨_, h0⟩ | ⟨g, cap, cur, hv, _⟩
          · omega
          · simp only [Value.slice.injEq] at hv
            refine ⟨g, hv.1, ?_⟩
            have := hown.cells (g := g) (by rw [hv.1]; rfl) O.length (.int .i64 ((asc l).toArray[k]!)) (by
              rw [hO]; unfold ics; rw [List.map_append, List.getElem?_append_right (by simp)]; simp)
            rw [add_plain, Nat.zero_add] at this
            exact this
        have HB := Lib.hid HQ.out.2.2.2.1.size
        have hKS := (show Lib.keeps (asc l).toArray (k + 1) = decide ((asc l).toArray[k + 1]! ≠ (asc l).toArray[k]!) from by simp [Lib.keeps])
        have HKS := Lib.hid hKS
        have HAD := Lib.hid (fun (v' : Value) (w' : World) (o : Obj) (q : Nat) (hk : Lib.keeps (asc l).toArray (k + 1) = true) => Rsg.add (v' := v') (w' := w') (o := o) (HQ.out.drewN q) hk)
        have HSK := Lib.hid (fun (q : Nat) (hk : Lib.keeps (asc l).toArray (k + 1) = false) => Rsg.skip (HQ.out.drewN q) hk)
        generalize (asc l).toArray[k + 1]! = x at *
        generalize (asc l).toArray[k]! = y at *
        obtain ⟨t, ht⟩ : ∃ t, O.length = t := ⟨_, rfl⟩
        rw [ht] at hown cB hmn
        have HT := Lib.hid ht
        have e2 : ((t + 1 : Nat) : Int) = (t : Int) + 1 := by omega
        have t0 : (0 : Int) ≤ (t : Int) := by omega
        have t1 : ((t : Int) + 1 == 0) = false := by rw [beq_eq_false_iff_ne]; omega
        have t2 : (t : Int) < (t : Int) + 1 := by omega
        rw [ht] at HAD HSK ⊢
        clear hKS ht hO HQ
        by_cases hxy : y = x
        · have HKF := Lib.hid (show Lib.keeps (asc l).toArray (k + 1) = false from by rw [HKS.out, hxy]; simp)
          subst hxy
          clear HKS hki e1
          go_wp2_with fail
          go_quiet (fail)
          go_wp2_with fail
          go_roundw
          case rel => exact ⟨j, k + 2, t + 1, by have := HKI.out; omega, by go_num, _, _, rfl, HSK.out _ HKF.out⟩
          case measure => simp [intOf] <;> omega
        · have HKT := Lib.hid (show Lib.keeps (asc l).toArray (k + 1) = true from by rw [HKS.out]; exact decide_eq_true (fun hh => hxy hh.symm))
          have hb : (y == x) = false := by rw [beq_eq_false_iff_ne]; exact hxy
          clear HKS hki e1
          go_wp2_with fail
          go_quiet (fail)
          go_wp2_with (at_builtin; refine wpList_append_own_at _ rfl (.tmp 31) (.tmp 36) 24 rfl w.heap.size 3 i0 (.int .i64 0) 1 8 Tryz.underlying24 hi0 hz0 hz1 hz2 rfl (by decide) _ _ _ rfl (hown.alloc _) ⟨wr.heap.size, 0, none⟩ 1 1 [.int .i64 x] rfl rfl (cell_one_new _ _ _) (by simp [Value.oneCell']) (by unfold maxLen; omega) (by omega) (by have := HB.out; simp; omega) ?_; intro v' w2 hown' hgrow _ hat; obtain ⟨g', cap', rfl⟩ := ownsRow_succ hown')
          have HN := Lib.hid (HAD.out _ _ _ _ HKT.out hown' hgrow hat)
          clear hown hown' hgrow hat HAD
          go_wp2_with fail
          go_roundw
          case rel => exact ⟨j, k + 2, t + 2, by have := HKI.out; omega, by go_num, _, _, rfl, HN.out⟩
          case measure => simp [intOf] <;> omega
set_option maxHeartbeats 4000000 in
theorem rtouches_is {C : Nat} (r : Rc) (h : Hd) (w : World) (hr : RcM C w r h) (hC : C ≤ w.heap.size) (hn : r.pts.length ≤ 1000000) :
    Calls Tryz.prog 13 #[rcv r h] w fun e w' => ∃ A c, e = .returned (.slice A (touchL r).length c) ∧ RowI w.heap.size w' ⟨A, (touchL r).length, c⟩ (touchL r) ∧ Below w.heap.size w w' := by
  obtain ⟨i0, hi0, hz0, hz1, hz2⟩ := info_parts infoI
  have HA := Lib.hid ((Below.refl w.heap.size w).alloc (Nat.le_refl _) (.cells (rcs r h) 29))
  have HX := Lib.hid (Bx.new w (rcs r h) 29)
  have HP := Lib.hid (hr.p.more hC)
  obtain ⟨kind, tx, prev, next, key, had, ⟨ok, ov, ob, oz⟩, pages, pts, txs, dys⟩ := r
  obtain ⟨g, ⟨A2, n2, c2⟩, t, d⟩ := h
  have hl := hr.p.1
  unfold touchL
  unfold rcv
  unfold rcs at *
  dsimp only at *
  have HL := Lib.hid hl
  have hN : (n2 : Int) ≤ 1000000 := by omega
  have HN := Lib.hid (show pts.length ≤ 1000000 from hn)
  clear hr hC hl hn
  have x11 := HX.out.cell 11
  simp only [List.getElem?_toArray, List.getElem?_cons_zero, List.getElem?_cons_succ] at x11
  go_enter Tryz.func13, Tryz.ntmps13
  go_wp2_with fail
  clear x11
  go_loopw [3, 4] (fun u x wr => ∃ k : Nat, k ≤ n2 ∧ x = .int .i64 k ∧ Hid (wr.ownsRow w.heap.size 3 1 u k (ics ((pts.take k).map Pt.pg)) ∧ Below w.heap.size w wr ∧ Below (w.heap.size + 1) (w.alloc (.cells (rcs ⟨kind, tx, prev, next, key, had, ⟨ok, ov, ob, oz⟩, pages, pts, txs, dys⟩ ⟨g, ⟨A2, n2, c2⟩, t, d⟩) 29)) wr)) (fun _ x _ => n2 - (intOf x).toNat)
  case atStart => exact ⟨0, Nat.zero_le _, rfl, World.ownsRow_nil _ _ _ _, HA.out, Below.refl _ _⟩
  case round =>
    obtain ⟨k, hk, rfl, hq⟩ := hrel
    have HQ := Lib.hid hq.out
    clear hq
    obtain ⟨Av, cv, rfl⟩ := own_shape HQ.out.1
    have x11 := ((HX.out.kept HQ.out.2.2 (Nat.lt_succ_self _)).cell 11).trans rfl
    have b0 : (0 : Int) ≤ (k : Int) := by omega
    by_cases hlt : k < n2
    · have b1 : (k : Int) < (n2 : Int) := by omega
      have hkl : k < pts.length := by rw [HL.out]; exact hlt
      obtain ⟨b, off, rfl, hb, ⟨c0, c1, c2'⟩, _⟩ := (HP.out.kept HQ.out.2.1).2.2 k hlt
      have HS := Lib.hid (show ics ((pts.take (k + 1)).map Pt.pg) = ics ((pts.take k).map Pt.pg) ++ [.int .i64 (pts.getD k nilP).pg] from by rw [take_snoc pts k nilP hkl, List.map_append, List.map_singleton, ics_snoc])
      generalize pts.getD k nilP = x at *
      obtain ⟨pg, ofs, bs⟩ := x
      dsimp only at c0 c1 c2' HS
      have hO := HQ.out.1
      clear hb hkl c1 c2'
      go_wp2_with (at_builtin; refine wpList_append_own _ rfl (.tmp 12) (.tmp 19) 24 rfl w.heap.size 3 i0 (.int .i64 0) 1 8 Tryz.underlying24 hi0 hz0 hz1 hz2 rfl (by decide) _ _ _ rfl (hO.alloc _) ⟨wr.heap.size, 0, none⟩ 1 1 [.int .i64 pg] rfl rfl (cell_one_new _ _ _) (by simp [Value.oneCell']) (by unfold maxLen; omega) (by omega) (by have := HQ.out.2.1.size; simp; omega) ?_; intro v3 w3 hown' hgrow _; obtain ⟨g', cap', rfl⟩ := ownsRow_succ hown')
      have HBX := Lib.hid (show Below (w.heap.size + 1) (w.alloc (.cells (rcs ⟨kind, tx, prev, next, key, had, ⟨ok, ov, ob, oz⟩, pages, pts, txs, dys⟩ ⟨g, ⟨some ⟨b, off, none⟩, n2, c2⟩, t, d⟩) 29)) w3 from by
        have hsz := HQ.out.2.2.size
        rw [World.size_alloc] at hsz
        refine (HQ.out.2.2.alloc hsz _).grown hgrow (by rw [World.size_alloc]; omega) fun q hq => ?_
        obtain ⟨cur, hc⟩ := owns_block hO hq
        have h1 := (hO.lt q hq).1
        have hne : q ≠ w.heap.size := fun e => by
          rw [e] at hc
          have := HX.out.kept HQ.out.2.2 (Nat.lt_succ_self _)
          rw [show wr.heap[w.heap.size]? = _ from this] at hc
          simp at hc
        omega)
      have HN' : Hid (w3.ownsRow w.heap.size 3 1 (.slice (some ⟨g', 0, none⟩) (k + 1) cap') (k + 1) (ics ((pts.take (k + 1)).map Pt.pg)) ∧ Below w.heap.size w w3) := by
        refine ⟨by rw [HS.out]; exact hown', ?_⟩
        exact (HQ.out.2.1.alloc HQ.out.2.1.size _).grown hgrow (by have := HQ.out.2.1.size; simp at this ⊢; omega) (fun g hg => (hO.lt g hg).1)
      clear hown' hgrow hO
      go_wp2_with fail
      go_roundw
      case rel => exact ⟨k + 1, by omega, by go_num, HN'.out.1, HN'.out.2, HBX.out⟩
      case measure => simp [intOf] <;> omega
    · obtain rfl : k = n2 := by omega
      have hown := HQ.out.1
      rw [List.take_of_length_le (by rw [HL.out]; exact Nat.le_refl _)] at hown
      have hlen : (pts.map Pt.pg).length = k := by rw [List.length_map, HL.out]
      have hread : IntsM wr.heap.size wr Av k (pts.map Pt.pg) := by
        have hr : RowI w.heap.size wr ⟨Av, k, cv⟩ (pts.map Pt.pg) := ⟨hlen.symm, hown⟩
        refine hr.m (by rw [hlen]; have := HN.out; rw [HL.out] at this; unfold maxLen; omega) fun y hy => ?_
        obtain ⟨p, hp, rfl⟩ := List.mem_map.1 hy
        obtain ⟨j, hj, rfl⟩ := List.getElem_of_mem hp
        obtain ⟨_, _, _, _, _, hw⟩ := HP.out.2.2 j (by rw [← HL.out]; exact hj)
        rw [getD_at hj] at hw
        exact hw.1
      have RI := Lib.hid (ref_rising Av k cv (pts.map Pt.pg) wr hread (by have := HN.out; rw [HL.out] at this; exact this))
      have H2 := Lib.hid HQ.out.2.1
      clear hown hread hlen HQ
      go_wp2_with fail
      refine RI.out.mono ?_; rintro e w5 ⟨A5, c5, rfl, ho, hb⟩
      have H5 := Lib.hid (H2.out.trans (hb.mono H2.out.size))
      have HO := Lib.hid (own_base ho H2.out.size)
      clear ho hb RI
      go_wp2_with fail
      go_ret
      exact ⟨A5, c5, rfl, ⟨rfl, HO.out⟩, H5.out⟩
end Go.Proofs.YtbmnagfjpenemaaGreatDoor.Bk
