/- Lists of numbers with room behind them, in which a mark stands; are they still as they were? -/
import Derived.Test.YtoladghpoddlgaaNums
import Derived.Maps.AppendAt
import Derived.RangeFuncBox
import Derived.Deep.RegionLaw
import Derived.Deep.RegionWith
namespace Go.Proofs.Ytoladghpoddlgaa.I
open Go.ChangeShapes Go.WideShapes Go.ChangeAt Go.RowKit
set_option linter.unusedVariables false
set_option maxRecDepth 100000
theorem ints_ones (l : List Int) : ∀ u ∈ l.map (Value.int .i64), u.oneCell' = true := by
  intro u hu
  obtain ⟨x, _, rfl⟩ := List.mem_map.1 hu
  rfl
theorem Nums.src {n₀ : Nat} {w : World} {A : Option Addr} {n c : Nat} {l : List Int} (h : Nums n₀ w (.slice A n c) l) : Src w 1 A n (l.map (Value.int .i64)) := by
  have hn := h.len
  refine ⟨by simp [hn], fun h0 => ?_⟩
  rcases h with ⟨A', c', h1, h2⟩ | ⟨b, off, cap, h1, h2, h3⟩
  · simp at h1; omega
  · simp only [Value.slice.injEq] at h1
    obtain ⟨rfl, _, rfl⟩ := h1
    refine ⟨_, rfl, fun j u hu => ?_⟩
    rw [List.getElem?_map] at hu
    obtain ⟨x, hx, rfl⟩ := Option.map_eq_some_iff.1 hu
    have hj : j < l.length := (List.getElem?_eq_some_iff.1 hx).1
    rw [add_plain, h3 j hj, hx]
    rfl

/-- A new row of the call's own. -/
def Made (l : List Int) (w : World) (e : Ending) (w' : World) : Prop := ∃ A c, e = .returned (.slice A l.length c) ∧ w'.ownsRow w.heap.size 3 1 (.slice A l.length c) l.length (l.map (Value.int .i64)) ∧ Below w.heap.size w w'
theorem Made.row {w : World} {A : Option Addr} {c : Nat} {l : List Int} {B : Nat} (h : w.ownsRow B 3 1 (.slice A l.length c) l.length (l.map (Value.int .i64))) : Row w A l.length c l := ⟨rfl, own_base h⟩

theorem copy_walk (A : Option Addr) (n c : Nat) (l : List Int) (w : World) (h : Nums w.heap.size w (.slice A n c) l) (hn : n ≤ 1000000) :
    Calls Try.prog 24 #[.slice A n c] w fun e w' => Made l w e w' := by
  obtain ⟨i0, hi, hz0, hz1, hz2⟩ := info_parts infoI
  have hl := h.len
  have hs := h.src
  go_enter Try.func24, Try.ntmps24
  go_wp2_with (at_builtin; refine wpList_append_src _ rfl _ _ 22 rfl 3 i0 (.int .i64 0) 1 8 Try.underlying22 hi hz0 hz1 hz2 rfl (by decide) w.heap.size (.slice none 0 0) 0 [] rfl (World.ownsRow_nil _ _ _ _) A n c _ rfl hs (ints_ones l) (by unfold maxLen; omega) (by omega) (Nat.le_refl _) ?_; intro v' w1 hown hgrow hat)
  go_ret
  subst hl
  simp only [Nat.zero_add, List.nil_append] at hown
  obtain ⟨A', c', rfl⟩ := own_shape hown
  exact ⟨A', c', rfl, hown, (Below.refl _ _).grown hgrow (Nat.le_refl _) (fun k hk => by simp [Value.ownBlock] at hk)⟩

/-! A list with room behind it, in which a mark stands. -/
theorem owns_kept2 {w w' : World} {B e s n : Nat} {v : Value} {xs : List Value} (h : w.ownsRow B e s v n xs) (hk : ∀ g, v.ownBlock = some g → w'.heap[g]? = w.heap[g]?) : w'.ownsRow B e s v n xs := by
  refine ⟨h.1, ?_⟩
  rcases h.2 with h1 | ⟨g', cap, cur, rfl, h1, h2, h3⟩
  · exact .inl h1
  · exact .inr ⟨g', cap, cur, rfl, h1, (hk g' rfl).trans h2, h3⟩
theorem lent_cap {w : World} {B e s n g c m : Nat} {xs : List Value} (h : w.ownsRow B e s (.slice (some ⟨g, 0, none⟩) n c) m xs) : (m : Int) ≤ (c : Int) ∧ B ≤ g := by
  rcases h.2 with ⟨h2, _⟩ | ⟨g', cap, cur, h2, h3, h4, h5, _⟩
  · simp at h2
  · simp at h2
    obtain ⟨rfl, _, rfl⟩ := h2
    exact ⟨by omega, h3⟩
def Lent (w : World) (g n c : Nat) (l : List Int) : Prop := n = l.length ∧ w.ownsRow 0 3 1 (.slice (some ⟨g, 0, none⟩) (n + 1) c) (n + 1) ((l ++ [-77]).map (Value.int .i64))
theorem Lent.row {w : World} {g n c : Nat} {l : List Int} (h : Lent w g n c l) : Row w (some ⟨g, 0, none⟩) n c l := by
  obtain ⟨hn, h1, h2⟩ := h
  refine ⟨hn, by simp [hn], ?_⟩
  rcases h2 with ⟨h2, _⟩ | ⟨g', cap, cur, h2, h3, h4, h5, h6, h7, h8⟩
  · simp at h2
  · simp only [Value.slice.injEq, Option.some.injEq, Addr.mk.injEq, and_true, true_and] at h2
    obtain ⟨rfl, rfl⟩ := h2
    refine .inr ⟨g, c, cur, rfl, h3, h4, by omega, h6, h7, ?_⟩
    have e : n * 1 = min (n * 1) ((n + 1) * 1) := by omega
    rw [e, ← List.take_take, h8, List.map_append, List.take_left' (by simp [hn])]
theorem Lent.mark {w : World} {g n c : Nat} {l : List Int} (h : Lent w g n c l) : w.cell? ⟨g, n, none⟩ = some (.int .i64 (-77)) ∧ n + 1 ≤ c := by
  obtain ⟨hn, h⟩ := h
  have := h.cells (g := g) rfl n (.int .i64 (-77)) (by simp [hn])
  rw [add_plain, Nat.zero_add] at this
  refine ⟨this, ?_⟩
  rcases h.2 with ⟨h2, _⟩ | ⟨g', cap, cur, h2, h3, h4, h5, _⟩
  · simp at h2
  · simp at h2; omega
theorem Lent.keep {w w' : World} {g n c : Nat} {l : List Int} (h : Lent w g n c l) (hk : w'.heap[g]? = w.heap[g]?) : Lent w' g n c l := ⟨h.1, owns_kept2 h.2 fun q hq => by
  simp only [Value.ownBlock, Option.some.injEq] at hq
  subst hq
  exact hk⟩
theorem Lent.lt {w : World} {g n c : Nat} {l : List Int} (h : Lent w g n c l) : g < w.heap.size := (h.2.lt g rfl).2
theorem Lent.block {w : World} {g n c : Nat} {l : List Int} (h : Lent w g n c l) : ∃ cur, w.heap[g]? = some (.cells cur 3 (0, 0)) := by
  rcases h.2.2 with ⟨h2, _⟩ | ⟨g', cap, cur, h2, h3, h4, _⟩
  · simp at h2
  · simp only [Value.slice.injEq, Option.some.injEq, Addr.mk.injEq, and_true, true_and] at h2
    obtain ⟨rfl, _⟩ := h2
    exact ⟨cur, h4⟩

set_option maxHeartbeats 1000000 in
theorem lent_walk (A : Option Addr) (n c : Nat) (l : List Int) (w : World) (h : Nums w.heap.size w (.slice A n c) l) (hn : n ≤ 100000) :
    Calls Try.prog 9 #[.slice A n c] w fun e w' => ∃ g c2, e = .returned (.slice (some ⟨g, 0, none⟩) n c2) ∧ Lent w' g n c2 l ∧ w.heap.size ≤ g ∧ Below w.heap.size w w' := by
  obtain ⟨i0, hi0, hz0, hz1, hz2⟩ := info_parts infoI
  have HC := Lib.hid (copy_walk A n c l w h (by omega))
  have HL : Hid (n = l.length) := h.len
  have b0 : (n : Int) ≤ 100000 := by omega
  have b1 : (0 : Int) ≤ (n : Int) := by omega
  clear h
  go_enter Try.func9, Try.ntmps9
  go_wp2_with fail
  refine HC.out.mono ?_; rintro e w1 ⟨A1, c1, rfl, h1, h2⟩
  rw [← HL.out] at h1
  have hx := HL.out
  have H1 := Lib.hid h1
  have H2 := Lib.hid h2
  have e1 : l.length = n := hx.symm
  rw [e1]
  clear hx e1 h2 HC
  go_wp2_with (at_builtin; refine wpList_append_own _ rfl _ _ 22 rfl w.heap.size 3 i0 (.int .i64 0) 1 8 Try.underlying22 hi0 hz0 hz1 hz2 rfl (by decide) _ _ _ rfl (h1.alloc _) ⟨w1.heap.size, 0, none⟩ 1 1 [.int .i64 (-77)] rfl rfl (cell_one_new _ _ _) (by simp [Value.oneCell']) (by unfold maxLen; omega) (by omega) (by have := H2.out.size; simp; omega) ?_; intro v' w2 hown hgrow _; obtain ⟨g, c2, rfl⟩ := ownsRow_succ hown; obtain ⟨hcap, hbase⟩ := lent_cap hown)
  go_ret
  refine ⟨g, c2, rfl, ⟨HL.out, ?_⟩, hbase, ?_⟩
  · rw [List.map_append]
    exact own_base hown
  · exact (H2.out.alloc H2.out.size _).grown hgrow (by have := H2.out.size; simp; omega) (fun k hk => (H1.out.lt k hk).1)

set_option maxHeartbeats 1000000 in
theorem stays_walk (g n c : Nat) (B : Option Addr) (d : Nat) (l : List Int) (w : World) (h1 : Lent w g n c l) (h2 : Nums w.heap.size w (.slice B n d) l) (hn : n ≤ 100000) :
    Calls Try.prog 19 #[.slice (some ⟨g, 0, none⟩) n c, .slice B n d] w fun e w' => e = .returned (.bool true) ∧ ∃ q, w' = w.drewN q := by
  have HS := Lib.hid (same_walk w.heap.size (some ⟨g, 0, none⟩) B n c d l w (by omega) h1.row.nums h2)
  obtain ⟨hm, hc⟩ := h1.mark
  have b0 : (n : Int) ≤ 100000 := by omega
  have b1 : (0 : Int) ≤ (n : Int) := by omega
  have b2 : (n : Int) + 1 ≤ (c : Int) := by omega
  have b3 : (n : Int) < (n : Int) + 1 := by omega
  have b4 : ((n : Int) + 1).toNat = n + 1 := by omega
  have b5 : n < n + 1 := by omega
  clear h1 h2
  go_enter Try.func19, Try.ntmps19
  go_wp2_with fail
  refine HS.out.mono ?_; rintro e w1 ⟨rfl, q, rfl⟩
  go_wp2_with fail
  go_ret
  exact ⟨rfl, q, rfl⟩
end Go.Proofs.Ytoladghpoddlgaa.I
