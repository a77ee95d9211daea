/- Get, asked for pages written out, for pages that were put. -/
import Derived.Test.YtoladghpoddlgaaLaws
namespace Go.Proofs.Ytoladghpoddlgaa
open Go.ChangeShapes Go.WideShapes Go.ChangeAt Go.RowKit
set_option linter.unusedVariables false
set_option linter.unusedSimpArgs false
set_option maxRecDepth 100000
theorem pgs_row {w : World} {g : Nat} {l : List Pg} {cs : Array Value} (h : w.heap[g]? = some (.cells cs 26 (0, 0))) (hc : cs = (pcs l).toArray) (hs : ∀ p ∈ l, p.b.size ≤ maxLen) (hm : l.length ≤ maxLen) : Pgs (g + 1) w (some ⟨g, 0, none⟩) l := by
  subst hc
  have hc := fun j => cell_of_row w g j _ _ _ h
  refine ⟨fun k hk => ⟨g, 0, rfl, by omega, ?_⟩, hs, hm⟩
  obtain ⟨g0, g1, g2, g3⟩ := pcs_get l k hk
  rw [Nat.zero_add]
  exact ⟨(hc _).trans (by simpa using g0), (hc _).trans (by simpa using g1), (hc _).trans (by simpa using g2), (hc _).trans (by simpa using g3)⟩
theorem get_new (n : Int) (hn : -9223372036854775808 ≤ n ∧ n ≤ 9223372036854775807) (l : List Pg) (m : Nat) (hl : l.length = m) (hm : m ≤ 1000) (cs : Array Value) (hc : cs = (pcs l).toArray) (hs : ∀ p ∈ l, p.b.size ≤ 1000000) (w : World) :
    Calls Try.prog 13 #[.int .i64 n, .slice (some ⟨w.heap.size, 0, none⟩) m m] (w.alloc (.cells cs 26)) fun e w' => GetP n l w e w' := by
  have hp := pgs_row (heap_alloc_new w (.cells cs 26)) hc (fun p hp => max_small (hs p hp)) (max_small (by omega))
  refine (get_any n (w.alloc (.cells cs 26)) hp (by simp) hl hm hn).mono ?_
  rintro e w' ⟨h1, h2⟩
  have hb := (Below.refl w.heap.size w).alloc (Nat.le_refl _) (.cells cs 26)
  exact ⟨h1, hb.trans (h2.mono hb.size)⟩
theorem get_newd (n : Int) (hn : -9223372036854775808 ≤ n ∧ n ≤ 9223372036854775807) (l : List Pg) (m : Nat) (hl : l.length = m) (hm : m ≤ 1000) (cs : Array Value) (hc : cs = (pcs l).toArray) (hs : ∀ p ∈ l, p.b.size ≤ 1000000) (w : World) :
    Calls Try.prog 13 #[.int .i64 n, .slice (some ⟨w.heap.size, 0, none⟩) m m] (w.alloc (.cells cs 26)).drew fun e w' => GetP n l w e w' := by
  have hp := pgs_row (w := (w.alloc (.cells cs 26)).drew) (heap_alloc_new w (.cells cs 26)) hc (fun p hp => max_small (hs p hp)) (max_small (by omega))
  refine (get_any n (w.alloc (.cells cs 26)).drew hp (by show _ ≤ (w.alloc (.cells cs 26)).heap.size; simp) hl hm hn).mono ?_
  rintro e w' ⟨h1, h2⟩
  have hb := ((Below.refl w.heap.size w).alloc (Nat.le_refl _) (.cells cs 26)).drew
  exact ⟨h1, hb.trans (h2.mono hb.size)⟩
theorem own_pgs {B n c : Nat} {w : World} {A : Option Addr} {l : List Pg} (h : Own B w (.slice A n c) l) (hn : l.length = n) (hm : n ≤ 1000) (hs : ∀ p ∈ l, p.b.size ≤ 1000000) : Pgs w.heap.size w A l := by
  subst hn
  exact Own.pgs h rfl (fun p hp => max_small (hs p hp)) (max_small (by omega))
theorem two_sizes {x y : Int} {d e : BA} (hd : d.length ≤ 240) (he : e.length ≤ 240) : ∀ p ∈ [pgOf x d, pgOf y e], p.b.size ≤ 1000000 := by
  intro p hp
  simp only [List.mem_cons, List.not_mem_nil, or_false] at hp
  rcases hp with rfl | rfl
  · rw [pgOf_size x d hd]; omega
  · rw [pgOf_size y e he]; omega
theorem one_size {x : Int} {d : BA} (hd : d.length ≤ 240) : ∀ p ∈ [pgOf x d], p.b.size ≤ 1000000 := by
  intro p hp
  simp only [List.mem_cons, List.not_mem_nil, or_false] at hp
  subst hp
  rw [pgOf_size x d hd]; omega
theorem getS_length {n : Int} {l : List Pg} (h : getOk n l = true) : (getS n l).length = n.toNat := by
  obtain ⟨hf, ho⟩ := getOk_iff.1 h
  rw [getS_yes h, bytesL_length hf l.length (Nat.le_refl _) ho]
  rcases fitN_is hf with ⟨e, _, _⟩ | ⟨e, _, _⟩ <;> omega
theorem getOk_pos {n : Int} {l : List Pg} (h : getOk n l = true) : 0 ≤ n := by
  obtain ⟨hf, ho⟩ := getOk_iff.1 h
  rcases fitN_is hf with ⟨e, _, _⟩ | ⟨e, _, _⟩ <;> omega
theorem getOk_count {n : Int} {l : List Pg} (h : pagesN n ≠ l.length) : getOk n l = false := getOk_fits (by unfold fitN; rw [decide_eq_false h, Bool.and_false])
end Go.Proofs.Ytoladghpoddlgaa
