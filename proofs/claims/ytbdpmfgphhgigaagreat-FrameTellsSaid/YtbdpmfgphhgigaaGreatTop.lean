/- Lists of texts with room behind them, in which a mark stands; the book's rows and the program's. -/
import Derived.Test.YtbdpmfgphhgigaaGreatRsc
import Derived.Test.YtbdpmfgphhgigaaGreatBks
import Derived.Test.YtbdpmfgphhgigaaGreatTurn
import Derived.Test.YtbdpmfgphhgigaaGreatSml
import Derived.Test.YtbdpmfgphhgigaaGreatAlive
import Derived.RangeFuncBox
import Derived.StillTailTactics
import Derived.BigQuiet
namespace Go.Proofs.YtbdpmfgphhgigaaGreat
open Go.ChangeShapes Go.WideShapes Go.ChangeAt Go.RowKit
set_option linter.unusedVariables false
set_option linter.unusedSimpArgs false
set_option maxRecDepth 100000
def NewT (l : List BA) (w : World) (e : Ending) (w' : World) : Prop := ∃ A c, e = .returned (.slice A l.length c) ∧ OwnT w.heap.size w' (.slice A l.length c) l ∧ Below w.heap.size w w'
set_option maxHeartbeats 1000000 in
theorem copy_txt {C n c : Nat} {A : Option Addr} {l : List BA} (w : World) (h : Txt C w A n l) (hm : n ≤ 100000) :
    Calls Tryz.prog 32 #[.slice A n c] w fun e w' => NewT l w e w' := by
  obtain ⟨i0, hi, hz0, hz1, hz2⟩ := info_parts info_s
  have hs := h.src
  have hl := h.1
  have HL := Lib.hid hl
  subst hl
  go_enter Tryz.func32, Tryz.ntmps32
  go_wp2_with (at_builtin; refine wpList_append_src _ rfl _ _ 24 rfl 9 i0 (.string ⟨#[]⟩) 1 16 Tryz.underlying24 hi hz0 hz1 hz2 rfl (by decide) w.heap.size (.slice none 0 0) 0 [] rfl (World.ownsRow_nil _ _ _ _) A l.length c _ rfl hs (tcs_one l) (by unfold maxLen; omega) (by omega) (Nat.le_refl _) ?_; intro v' w1 hown hgrow hat)
  go_ret
  simp only [Nat.zero_add, List.nil_append] at hown
  obtain ⟨A', c', rfl⟩ := own_shape hown
  exact ⟨A', c', rfl, hown, (Below.refl _ _).grown hgrow (Nat.le_refl _) (fun k hk => by simp [Value.ownBlock] at hk)⟩
def markB : BA := [109, 97, 114, 107]
def LentT (w : World) (g n c : Nat) (l : List BA) : Prop := n = l.length ∧ w.ownsRow 0 9 1 (.slice (some ⟨g, 0, none⟩) (n + 1) c) (n + 1) (tcs (l ++ [markB]))
theorem LentT.lt {w : World} {g n c : Nat} {l : List BA} (h : LentT w g n c l) : g < w.heap.size := (h.2.lt g rfl).2
theorem LentT.kept {w w' : World} {g n c : Nat} {l : List BA} (h : LentT w g n c l) (hb : Below w.heap.size w w') : LentT w' g n c l := ⟨h.1, owns_kept2 h.2 fun q hq => hb.block q (h.2.lt q hq).2⟩
theorem LentT.kt {C : Nat} {T : TypeId → Prop} {w w' : World} {g n c : Nat} {l : List BA} (h : LentT w g n c l) (k : Bk.KT C T w w') (ht : T 9) : LentT w' g n c l := ⟨h.1, Bk.owns_kt h.2 k ht⟩
theorem LentT.txt {w : World} {g n c : Nat} {l : List BA} (h : LentT w g n c l) (hs : ∀ p ∈ l, p.length ≤ maxLen) (hm : n ≤ maxLen) : Txt w.heap.size w (some ⟨g, 0, none⟩) n l := by
  obtain ⟨hn, h⟩ := h
  have hc := h.cells (g := g) rfl
  refine ⟨hn.symm, hm, fun k hk => ?_⟩
  have hkl : k < l.length := by omega
  have e0 := hc k _ (by rw [tcs_append, List.getElem?_append_left (by rw [tcs_length]; exact hkl)]; exact tcs_get hkl)
  rw [add_plain] at e0
  exact ⟨g, 0, rfl, (h.lt g rfl).2, e0, hs _ (getD_mem' [] hkl)⟩
theorem LentT.mark {w : World} {g n c : Nat} {l : List BA} (h : LentT w g n c l) : w.cell? ⟨g, n, none⟩ = some (.string (str markB)) ∧ n + 1 ≤ c := by
  obtain ⟨hn, h⟩ := h
  have := h.cells (g := g) rfl n (.string (str markB)) (by
    rw [tcs_append, List.getElem?_append_right (by rw [tcs_length]; omega), tcs_length, show n - l.length = 0 by omega]
    rfl)
  rw [add_plain, Nat.zero_add] at this
  refine ⟨this, ?_⟩
  rcases h.2 with ⟨h2, _⟩ | ⟨g', cap, cur, h2, h3, h4, h5, _⟩
  · simp at h2
  · simp at h2; omega
set_option maxHeartbeats 1000000 in
theorem lent_txt {C n c : Nat} {A : Option Addr} {l : List BA} (w : World) (h : Txt C w A n l) (hm : n ≤ 100000) :
    Calls Tryz.prog 10 #[.slice A n c] w fun e w' => ∃ g c2, e = .returned (.slice (some ⟨g, 0, none⟩) n c2) ∧ LentT w' g n c2 l ∧ w.heap.size ≤ g ∧ Below w.heap.size w w' := by
  obtain ⟨i0, hi0, hz0, hz1, hz2⟩ := info_parts info_s
  have HC := Lib.hid (copy_txt (c := c) w h hm)
  have HL := Lib.hid h.1
  have b0 : (n : Int) ≤ 100000 := by omega
  have b1 : (0 : Int) ≤ (n : Int) := by omega
  clear h
  go_enter Tryz.func10, Tryz.ntmps10
  go_wp2_with fail
  refine HC.out.mono ?_; rintro e w1 ⟨A1, c1, rfl, h1, h2⟩
  unfold OwnT at h1
  rw [HL.out] at h1 ⊢
  have H1 := Lib.hid h1
  have H2 := Lib.hid h2
  clear h2 HC
  go_wp2_with (at_builtin; refine wpList_append_own _ rfl _ _ 24 rfl w.heap.size 9 i0 (.string ⟨#[]⟩) 1 16 Tryz.underlying24 hi0 hz0 hz1 hz2 rfl (by decide) _ _ _ rfl (h1.alloc _) ⟨w1.heap.size, 0, none⟩ 1 1 [.string (str markB)] rfl rfl (cell_one_new _ _ _) (by simp [Value.oneCell']) (by unfold maxLen; omega) (by omega) (by have := H2.out.size; simp; omega) ?_; intro v' w2 hown hgrow _; obtain ⟨g, c2, rfl⟩ := ownsRow_succ hown; have hcn := (lent_cap hown).1; have hbase := (lent_cap hown).2)
  go_ret
  refine ⟨g, c2, rfl, ⟨HL.out.symm, ?_⟩, hbase, ?_⟩
  · rw [tcs_append]
    exact own_base hown (Nat.zero_le _)
  · exact (H2.out.alloc H2.out.size _).grown hgrow (by have := H2.out.size; simp; omega) (fun k hk => (H1.out.lt k hk).1)
set_option maxHeartbeats 1000000 in
theorem stays_txt {D g n : Nat} {B : Option Addr} {c d : Nat} {l : List BA} (w : World) (h1 : LentT w g n c l) (h2 : Txt D w B n l) (hs : ∀ p ∈ l, p.length ≤ maxLen) (hm : n ≤ 100000) :
    Calls Tryz.prog 19 #[.slice (some ⟨g, 0, none⟩) n c, .slice B n d] w fun e w' => e = .returned (.bool true) ∧ Below w.heap.size w w' := by
  have HS := Lib.hid (sameTx_is (c := c) (d := d) w (h1.txt hs (by unfold maxLen; omega)) h2)
  rw [decide_eq_true (show l = l from rfl)] at HS
  obtain ⟨hmk, hc⟩ := h1.mark
  have b0 : (n : Int) ≤ 100000 := by omega
  have b1 : (0 : Int) ≤ (n : Int) := by omega
  have b2 : (n : Int) + 1 ≤ (c : Int) := by omega
  have b3 : (n : Int) < (n : Int) + 1 := by omega
  have b4 : ((n : Int) + 1).toNat = n + 1 := by omega
  have b5 : n < n + 1 := by omega
  have hmm : ((str markB).toList == (⟨#[109, 97, 114, 107]⟩ : ByteArray).toList) = true := by rw [beq_iff_eq]; rfl
  have hmb : str markB = (⟨#[109, 97, 114, 107]⟩ : ByteArray) := rfl
  rw [hmb] at hmk
  clear h1 h2 hmb hmm
  go_enter Tryz.func19, Tryz.ntmps19
  go_wp2_with fail
  refine HS.out.mono ?_; rintro e w1 ⟨rfl, q, rfl⟩
  go_wp2_with fail
  go_ret
  exact ⟨rfl, rfl, rfl, rfl, Nat.le_refl _, fun _ _ => rfl⟩
/-! The book's rows. -/
theorem kW_tcs (l : List BA) : Bk.kW.cs (l.map str) = tcs l := by
  induction l with
  | nil => rfl
  | cons x l ih => rw [List.map_cons, Bk.kW.cs_cons, ih]; rfl
theorem OwnT.bk {B n c : Nat} {w : World} {A : Option Addr} {l : List BA} (h : OwnT B w (.slice A n c) l) (hn : n = l.length) : Bk.Row Bk.kW B w ⟨A, n, c⟩ (l.map str) := by
  refine ⟨by rw [List.length_map]; exact hn, ?_⟩
  rw [kW_tcs]
  show w.ownsRow B 9 1 (.slice A n c) n (tcs l)
  unfold OwnT at h
  rw [← hn] at h
  exact h
theorem OwnT.kt {B C : Nat} {T : TypeId → Prop} {w w' : World} {v : Value} {l : List BA} (h : OwnT B w v l) (k : Bk.KT C T w w') (ht : T 9) : OwnT B w' v l := Bk.owns_kt h k ht
theorem OwnT.own {B n c : Nat} {w : World} {A : Option Addr} {l : List BA} (h : OwnT B w (.slice A n c) l) : ∀ g, (⟨A, n, c⟩ : Bk.E).own = some g → B ≤ g := fun g hg => (World.ownsRow.lt h g hg).1
theorem small_bk {l : List BA} {K : Nat} (h : ∀ x ∈ l, x.length ≤ K) (hK : K ≤ 1000000) : ∀ x ∈ l.map str, x.size ≤ maxLen := by
  intro x hx
  obtain ⟨y, hy, rfl⟩ := List.mem_map.1 hx
  have := h y hy
  rw [str_size]
  unfold maxLen
  omega
end Go.Proofs.YtbdpmfgphhgigaaGreat
