/- Lists of pages with room behind them, in which a mark stands; are they still as they were? -/
import Derived.Test.YtoladghpoddlgaaSame
import Derived.RangeFuncBox
import Derived.StillTailTactics
import Derived.BigQuiet
namespace Go.Proofs.Ytoladghpoddlgaa
open Go.ChangeShapes Go.WideShapes Go.ChangeAt Go.RowKit
set_option linter.unusedVariables false
set_option linter.unusedSimpArgs false
set_option maxRecDepth 100000
def NewL (l : List Pg) (w : World) (e : Ending) (w' : World) : Prop := ∃ A c, e = .returned (.slice A l.length c) ∧ Own w.heap.size w' (.slice A l.length c) l ∧ Below w.heap.size w w'
set_option maxHeartbeats 1000000 in
theorem copy_walk {C n : Nat} {A : Option Addr} {c : Nat} {l : List Pg} (w : World) (h : Pgs C w A l) (hn : l.length = n) (hm : n ≤ 1000000) :
    Calls Try.prog 29 #[.slice A n c] w fun e w' => NewL l w e w' := by
  obtain ⟨i0, hi, hz0, hz1, hz2⟩ := info_parts info_p
  have hs := h.src
  subst hn
  go_enter Try.func29, Try.ntmps29
  go_wp2_with (at_builtin; refine wpList_append_src _ rfl _ _ 23 rfl 26 i0 (.agg #[.int .i64 0, .int .i64 0, .int .i64 0, .string ⟨#[]⟩]) 4 40 Try.underlying23 hi hz0 hz1 hz2 rfl (by decide) w.heap.size (.slice none 0 0) 0 [] rfl (World.ownsRow_nil _ _ _ _) A l.length c _ rfl hs (pcs_one l) (by unfold maxLen; omega) (by omega) (Nat.le_refl _) ?_; intro v' w1 hown hgrow hat)
  go_ret
  simp only [Nat.zero_add, List.nil_append] at hown
  obtain ⟨A', c', rfl⟩ := own_shape hown
  exact ⟨A', c', rfl, hown, (Below.refl _ _).grown hgrow (Nat.le_refl _) (fun k hk => by simp [Value.ownBlock] at hk)⟩
def markP : Pg := ⟨0, -77, 0, ⟨#[]⟩⟩
def Lent (w : World) (g n c : Nat) (l : List Pg) : Prop := n = l.length ∧ w.ownsRow 0 26 4 (.slice (some ⟨g, 0, none⟩) (n + 1) c) (n + 1) (pcs (l ++ [markP]))
theorem Lent.lt {w : World} {g n c : Nat} {l : List Pg} (h : Lent w g n c l) : g < w.heap.size := (h.2.lt g rfl).2
theorem Lent.kept {w w' : World} {g n c : Nat} {l : List Pg} (h : Lent w g n c l) (hb : Below w.heap.size w w') : Lent w' g n c l := ⟨h.1, owns_kept2 h.2 fun q hq => hb.block q (h.2.lt q hq).2⟩
theorem Lent.pgs {w : World} {g n c : Nat} {l : List Pg} (h : Lent w g n c l) (hs : ∀ p ∈ l, p.b.size ≤ maxLen) (hm : n ≤ maxLen) : Pgs w.heap.size w (some ⟨g, 0, none⟩) l := by
  obtain ⟨hn, h⟩ := h
  have hc := h.cells (g := g) rfl
  refine ⟨fun k hk => ?_, hs, by omega⟩
  obtain ⟨g0, g1, g2, g3⟩ := pcs_get l k hk
  have hl := pcs_length l
  have e0 := hc (k * 4) _ (by rw [pcs_append, List.getElem?_append_left (by omega)]; exact g0)
  have e1 := hc (k * 4 + 1) _ (by rw [pcs_append, List.getElem?_append_left (by omega)]; exact g1)
  have e2 := hc (k * 4 + 2) _ (by rw [pcs_append, List.getElem?_append_left (by omega)]; exact g2)
  have e3 := hc (k * 4 + 3) _ (by rw [pcs_append, List.getElem?_append_left (by omega)]; exact g3)
  rw [add_plain] at e0 e1 e2 e3
  exact ⟨g, 0, rfl, (h.lt g rfl).2, e0, by rw [Nat.add_assoc]; exact e1, by rw [Nat.add_assoc]; exact e2, by rw [Nat.add_assoc]; exact e3⟩
theorem Lent.mark {w : World} {g n c : Nat} {l : List Pg} (h : Lent w g n c l) : w.cell? ⟨g, n * 4 + 1, none⟩ = some (.int .i64 (-77)) ∧ n + 1 ≤ c := by
  obtain ⟨hn, h⟩ := h
  have hl := pcs_length l
  have := h.cells (g := g) rfl (n * 4 + 1) (.int .i64 (-77)) (by
    rw [pcs_append, List.getElem?_append_right (by omega), show n * 4 + 1 - (pcs l).length = 1 by omega]
    rfl)
  rw [add_plain, Nat.zero_add] at this
  refine ⟨this, ?_⟩
  rcases h.2 with ⟨h2, _⟩ | ⟨g', cap, cur, h2, h3, h4, h5, _⟩
  · simp at h2
  · simp at h2; omega
set_option maxHeartbeats 1000000 in
theorem lent_walk {C n : Nat} {A : Option Addr} {c : Nat} {l : List Pg} (w : World) (h : Pgs C w A l) (hn : l.length = n) (hm : n ≤ 100000) :
    Calls Try.prog 12 #[.slice A n c] w fun e w' => ∃ g c2, e = .returned (.slice (some ⟨g, 0, none⟩) n c2) ∧ Lent w' g n c2 l ∧ w.heap.size ≤ g ∧ Below w.heap.size w w' := by
  obtain ⟨i0, hi0, hz0, hz1, hz2⟩ := info_parts info_p
  have HC := Lib.hid (copy_walk (c := c) w h hn (by omega))
  have HL := Lib.hid hn
  have b0 : (n : Int) ≤ 100000 := by omega
  have b1 : (0 : Int) ≤ (n : Int) := by omega
  clear h hn
  go_enter Try.func12, Try.ntmps12
  go_wp2_with fail
  refine HC.out.mono ?_; rintro e w1 ⟨A1, c1, rfl, h1, h2⟩
  unfold Own at h1
  rw [HL.out] at h1
  have hx := HL.out
  have H1 := Lib.hid h1
  have H2 := Lib.hid h2
  rw [hx]
  clear hx h2 HC
  go_wp2_with (at_builtin; refine wpList_append_own _ rfl _ _ 23 rfl w.heap.size 26 i0 (.agg #[.int .i64 0, .int .i64 0, .int .i64 0, .string ⟨#[]⟩]) 4 40 Try.underlying23 hi0 hz0 hz1 hz2 rfl (by decide) _ _ _ rfl (h1.alloc _) ⟨w1.heap.size, 0, none⟩ 1 1 (pcell markP) rfl rfl (news_four _ _ _ _ _ _) (pcell_one markP) (by unfold maxLen; omega) (by omega) (by have := H2.out.size; simp; omega) ?_; intro v' w2 hown hgrow _; obtain ⟨g, c2, rfl⟩ := ownsRow_succ hown; obtain ⟨hcap, hbase⟩ := lent_cap hown)
  go_ret
  refine ⟨g, c2, rfl, ⟨HL.out.symm, ?_⟩, hbase, ?_⟩
  · rw [pcs_append]
    exact own_base hown (Nat.zero_le _)
  · exact (H2.out.alloc H2.out.size _).grown hgrow (by have := H2.out.size; simp; omega) (fun k hk => (H1.out.lt k hk).1)
set_option maxHeartbeats 1000000 in
theorem stays_walk {D g n : Nat} {B : Option Addr} {c d : Nat} {l : List Pg} (w : World) (h1 : Lent w g n c l) (h2 : Pgs D w B l) (hm : n ≤ 100000) :
    Calls Try.prog 20 #[.slice (some ⟨g, 0, none⟩) n c, .slice B n d] w fun e w' => e = .returned (.bool true) ∧ Below w.heap.size w w' := by
  have HS := Lib.hid (same_walk (c := c) (d := d) w (h1.pgs h2.2.1 (by unfold maxLen; omega)) h2 h1.1.symm h1.1.symm (by omega))
  rw [sameB_self] at HS
  obtain ⟨hmk, hc⟩ := h1.mark
  have b0 : (n : Int) ≤ 100000 := by omega
  have b1 : (0 : Int) ≤ (n : Int) := by omega
  have b2 : (n : Int) + 1 ≤ (c : Int) := by omega
  have b3 : (n : Int) < (n : Int) + 1 := by omega
  have b4 : ((n : Int) + 1).toNat = n + 1 := by omega
  have b5 : n < n + 1 := by omega
  clear h1 h2
  go_enter Try.func20, Try.ntmps20
  go_wp2_with fail
  refine HS.out.mono ?_; rintro e w1 ⟨rfl, q, rfl⟩
  go_wp2_with fail
  go_ret
  exact ⟨rfl, rfl, rfl, rfl, Nat.le_refl _, fun _ _ => rfl⟩
end Go.Proofs.Ytoladghpoddlgaa
