/- The book's Apart. -/
import Derived.Test.YtoladghpoddlgaaBook5
namespace Go.Proofs.Ytoladghpoddlgaa
open Go.ChangeShapes Go.WideShapes Go.ChangeAt Go.RowKit
set_option linter.unusedVariables false
set_option maxRecDepth 100000

theorem book_cells {w : World} {b : Nat} {v u : Value} (h : w.heap[b]? = some (.cells (bookCells v u) 46 (0, 0))) :
    w.cell? ⟨b, 6, none⟩ = some v ∧ w.cell? ⟨b, 2, none⟩ = some (.slice none 0 0) ∧ w.cell? ⟨b, 0, none⟩ = some (.slice none 0 0) ∧ w.cell? ⟨b, 4, none⟩ = some (.slice none 0 0) ∧ w.cell? ⟨b, 8, none⟩ = some (.slice none 0 0) ∧
      w.cell? ⟨b, 10, none⟩ = some (.slice none 0 0) ∧ w.cell? ⟨b, 12, none⟩ = some (.slice none 0 0) ∧ w.cell? ⟨b, 14, none⟩ = some (.slice none 0 0) ∧ w.cell? ⟨b, 16, none⟩ = some (.slice none 0 0) :=
  ⟨cell_of_row w b 6 _ _ _ h, cell_of_row w b 2 _ _ _ h, cell_of_row w b 0 _ _ _ h, cell_of_row w b 4 _ _ _ h, cell_of_row w b 8 _ _ _ h, cell_of_row w b 10 _ _ _ h, cell_of_row w b 12 _ _ _ h, cell_of_row w b 14 _ _ _ h, cell_of_row w b 16 _ _ _ h⟩
theorem half_all (F : Nat → List Pg) (es : List E) (w : World) (h : Conts w es F) (j : Nat) (hj : j < es.length) : half F es.length 0 j = marks j 0 (es.getD j e0).n := by
  unfold half
  rw [if_pos hj, ← (h j hj).1]
/-- Marked all. -/
theorem marking_conts {C b : Nat} {es fs : List E} {F G : Nat → List Pg} {w w' : World} (h : Marking C b es fs F G w es.length 0 w') (h2 : Conts w es F) : Conts w' es (fun j => marks j 0 (es.getD j e0).n) := fun j hj => by
  have := h.2.1 j hj
  rw [half_all F es w h2 j hj] at this
  exact this

set_option maxHeartbeats 8000000 in
theorem apart_walk (C b : Nat) (es fs : List E) (ls : List (List Pg)) (w : World) (h : Book C w b es fs ls ls) (hC : C ≤ w.heap.size) (hes : ∀ e ∈ es, ∀ g, e.own = some g → C ≤ g) (hk : es.length ≤ 200) (hsz : ∀ i, i < es.length → (es.getD i e0).n ≤ 90000) (hls : ∀ i, i < es.length → Sz (ls.getD i [])) :
    Calls Try.prog 21 #[ptr b] w fun e w' => e = .returned (.bool true) ∧ Below C w w' := by
  have HS := Lib.hid hsz
  have HES := Lib.hid hes
  have HC := Lib.hid hC
  have HST := Lib.hid (still_walk C b es fs ls w h (by omega) (fun i hi => by have := hsz i hi; omega) hls)
  have HBK := Lib.hid h
  have HPUT : Hid (∀ q, Calls Try.prog 48 #[ptr b] (w.drewN q) fun e w' => e = .returned (.tuple #[]) ∧ Marking C b es fs (fun i => ls.getD i []) (fun i => ls.getD i []) (w.drewN q) es.length 0 w') :=
    fun q => put_walk C b es fs _ _ (w.drewN q) h.1 h.2.1.conts h.2.2.1.conts h.2.2.2 hk (fun i hi => by have := hsz i hi; omega)
  obtain ⟨⟨hCb, v, u, kv, ku, g1, g2, g3, g4⟩, h5, h6, h7⟩ := h
  have g1q : ∀ q, (w.drewN q).heap[b]? = some (.cells (bookCells v u) 46 (0, 0)) := fun q => g1
  have GQ := Lib.hid g1q
  have GW := Lib.hid (book_cells g1)
  clear hsz hls hes hC hCb kv ku g1 g2 g3 g4 h5 h6 h7 g1q
  go_enter Try.func21, Try.ntmps21
  go_wp2_with fail
  refine (stillInts_none b _ GW.out.2.2.1).mono ?_; rintro e X ⟨rfl, rfl⟩
  go_wp2_with fail
  refine (stillTexts_none b _ GW.out.2.1).mono ?_; rintro e X ⟨rfl, rfl⟩
  go_wp2_with fail
  refine (stillCells_none b _ GW.out.2.2.2.1).mono ?_; rintro e X ⟨rfl, rfl⟩
  go_wp2_with fail
  refine (HST.out).mono ?_; rintro e X ⟨rfl, q, rfl⟩
  have CQ := Lib.hid (book_cells (GQ.out q))
  go_wp2_with fail
  refine (stillPatches_none b _ CQ.out.2.2.2.2.1).mono ?_; rintro e X ⟨rfl, rfl⟩
  go_wp2_with fail
  refine (stillDirty_none b _ CQ.out.2.2.2.2.2.1).mono ?_; rintro e X ⟨rfl, rfl⟩
  go_wp2_with fail
  refine (stillEntries_none b _ CQ.out.2.2.2.2.2.2.1).mono ?_; rintro e X ⟨rfl, rfl⟩
  go_wp2_with fail
  refine (stillPairs_none b _ CQ.out.2.2.2.2.2.2.2.1).mono ?_; rintro e X ⟨rfl, rfl⟩
  go_wp2_with fail
  refine (stillTxs_none b _ CQ.out.2.2.2.2.2.2.2.2).mono ?_; rintro e X ⟨rfl, rfl⟩
  go_wp2_with fail
  refine (putTxs_none b _ CQ.out.2.2.2.2.2.2.2.2).mono ?_; rintro e X ⟨rfl, rfl⟩
  go_wp2_with fail
  refine (putInts_none b _ CQ.out.2.2.1).mono ?_; rintro e X ⟨rfl, rfl⟩
  go_wp2_with fail
  refine (putTexts_none b _ CQ.out.2.1).mono ?_; rintro e X ⟨rfl, rfl⟩
  go_wp2_with fail
  refine (putCells_none b _ CQ.out.2.2.2.1).mono ?_; rintro e X ⟨rfl, rfl⟩
  go_wp2_with fail
  refine (HPUT.out q).mono ?_; rintro e X hm
  obtain ⟨rfl, hm⟩ := hm
  have HM := Lib.hid hm
  obtain ⟨hCb, v1, u1, kv, ku, g1, g2, g3, g4⟩ := hm.1
  have G1 := Lib.hid g1
  have G2 := Lib.hid g2
  have CW := Lib.hid (book_cells g1)
  have HCT := Lib.hid (marking_conts hm (show Conts (w.drewN q) es _ from HBK.out.2.1.conts))
  clear hm hCb kv ku g1 g2 g3 g4
  go_wp2_with fail
  refine (putPatches_none b _ CW.out.2.2.2.2.1).mono ?_; rintro e X ⟨rfl, rfl⟩
  go_wp2_with fail
  refine (putDirty_none b _ CW.out.2.2.2.2.2.1).mono ?_; rintro e X ⟨rfl, rfl⟩
  go_wp2_with fail
  refine (putEntries_none b _ CW.out.2.2.2.2.2.2.1).mono ?_; rintro e X ⟨rfl, rfl⟩
  go_wp2_with fail
  refine (putPairs_none b _ CW.out.2.2.2.2.2.2.2.1).mono ?_; rintro e X ⟨rfl, rfl⟩
  go_wp2_with fail
  refine (growInts_none b _ CW.out.2.2.1).mono ?_; rintro e X ⟨rfl, rfl⟩
  go_wp2_with fail
  refine (growTexts_none b _ CW.out.2.1).mono ?_; rintro e X ⟨rfl, rfl⟩
  go_wp2_with fail
  refine (growCells_none b _ CW.out.2.2.2.1).mono ?_; rintro e X ⟨rfl, rfl⟩
  go_wp2_with fail
  refine (grow_walk C b es fs _ HM.out.1 HCT.out (List.pairwise_append.1 HBK.out.2.2.2).1 hk (fun i hi => by have := HS.out i hi; omega)).mono ?_; rintro e X ⟨A, c, gs, rfl, hg⟩
  rename_i X1
  have HG := Lib.hid hg
  have hnb := conts_type HCT.out G1.out (by decide)
  have g1 : X.heap[b]? = some (.cells (bookCells v1 u1) 46 (0, 0)) := (hg.kept.2.2.2.2 b (Array.getElem?_eq_some_iff.1 G1.out).1 hnb).trans G1.out
  have g2 : X.ownsRow 0 23 1 v1 es.length (es.map E.val) := owns_kept G2.out fun g hgo => by
    obtain ⟨cur, hc⟩ := owns_block G2.out hgo
    exact hg.kept.2.2.2.2 g (G2.out.lt g hgo).2 (conts_type HCT.out hc (by decide))
  have G1' := Lib.hid g1
  have CX := Lib.hid (book_cells g1)
  obtain ⟨Av, cv, rfl⟩ := own_shape g2
  have G2' := Lib.hid g2
  have HB1 : Hid (Below C w X) := ((show Below C w (w.drewN q) from ⟨rfl, rfl, rfl, Nat.le_refl _, fun _ _ => rfl⟩).trans (HM.out.2.2.2.below HC.out HES.out)).trans (hg.kept.below (Nat.le_trans HC.out HM.out.2.2.2.2.2.2.1) HES.out)
  have HMK := Lib.hid (marked_walk A es.length c gs X hg.len hk (own_base hg.out (Nat.zero_le _)) (fun j hj => by rw [(hg.new j hj).1]; exact by have := (hg.new j hj).2.1.rd (e := gs.getD j e0); exact this) (fun j hj => by rw [(hg.new j hj).1]; have := HS.out j hj; omega))
  clear hg hnb g1 g2
  go_wp2_with fail
  refine (growPatches_none b _ CX.out.2.2.2.2.1).mono ?_; rintro e X ⟨rfl, rfl⟩
  go_wp2_with fail
  refine (growDirty_none b _ CX.out.2.2.2.2.2.1).mono ?_; rintro e X ⟨rfl, rfl⟩
  go_wp2_with fail
  refine (growEntries_none b _ CX.out.2.2.2.2.2.2.1).mono ?_; rintro e X ⟨rfl, rfl⟩
  go_wp2_with fail
  refine (growPairs_none b _ CX.out.2.2.2.2.2.2.2.1).mono ?_; rintro e X ⟨rfl, rfl⟩
  go_wp2_with fail
  refine (growTxs_none b _ CX.out.2.2.2.2.2.2.2.2).mono ?_; rintro e X ⟨rfl, rfl⟩
  have x0 := CX.out.2.2.1
  have x2 := CX.out.2.1
  have x4 := CX.out.2.2.2.1
  go_wp2_with fail
  refine (markedInts_none _).mono ?_; rintro e X ⟨rfl, rfl⟩
  go_wp2_with fail
  refine (markedInts_none _).mono ?_; rintro e X ⟨rfl, rfl⟩
  go_wp2_with fail
  refine (markedTexts_none _).mono ?_; rintro e X ⟨rfl, rfl⟩
  go_wp2_with fail
  refine (markedTexts_none _).mono ?_; rintro e X ⟨rfl, rfl⟩
  go_wp2_with fail
  refine (markedCells_none _).mono ?_; rintro e X ⟨rfl, rfl⟩
  go_wp2_with fail
  refine (markedCells_none _).mono ?_; rintro e X ⟨rfl, rfl⟩
  clear x0 x2 x4
  go_wp2_with fail
  refine (HMK.out).mono ?_; rintro e X ⟨rfl, hb3⟩
  rename_i X2
  have BY := Lib.hid ((hb3.block b (Array.getElem?_eq_some_iff.1 G1'.out).1).trans G1'.out)
  have CY := Lib.hid (book_cells BY.out)
  have CY0 := CY.out.1
  have HMO := Lib.hid (marked_walk Av es.length cv es X rfl hk (owns_kept G2'.out fun g hgo => hb3.block g (G2'.out.lt g hgo).2) (fun j hj => (HG.out.old j hj).below hb3) (fun j hj => by have := HS.out j hj; omega))
  have HB3 := Lib.hid (HB1.out.trans (hb3.mono (Nat.le_trans HC.out HB1.out.size)))
  clear hb3
  go_wp2_with fail
  refine (HMO.out).mono ?_; rintro e X ⟨rfl, hb4⟩
  rename_i X3
  have HB4 := Lib.hid (HB3.out.trans (hb4.mono (Nat.le_trans HC.out HB3.out.size)))
  have CZ := book_cells ((hb4.block b (Array.getElem?_eq_some_iff.1 ((BY.out))).1).trans BY.out)
  obtain ⟨_, z2, z4, z6, z8, z10, z12, z14, z16⟩ := CZ
  clear hb4 CY0
  go_wp2_with fail
  refine (markedPatches_none _).mono ?_; rintro e X ⟨rfl, rfl⟩
  go_wp2_with fail
  refine (markedPatches_none _).mono ?_; rintro e X ⟨rfl, rfl⟩
  go_wp2_with fail
  refine (markedDirty_none _).mono ?_; rintro e X ⟨rfl, rfl⟩
  go_wp2_with fail
  refine (markedDirty_none _).mono ?_; rintro e X ⟨rfl, rfl⟩
  go_wp2_with fail
  refine (markedEntries_none _).mono ?_; rintro e X ⟨rfl, rfl⟩
  go_wp2_with fail
  refine (markedEntries_none _).mono ?_; rintro e X ⟨rfl, rfl⟩
  go_wp2_with fail
  refine (markedPairs_none _).mono ?_; rintro e X ⟨rfl, rfl⟩
  go_wp2_with fail
  refine (markedPairs_none _).mono ?_; rintro e X ⟨rfl, rfl⟩
  go_wp2_with fail
  refine (markedTxs_none _).mono ?_; rintro e X ⟨rfl, rfl⟩
  go_wp2_with fail
  refine (markedTxs_none _).mono ?_; rintro e X ⟨rfl, rfl⟩
  go_wp2_with fail
  go_ret
  exact ⟨rfl, HB4.out⟩
end Go.Proofs.Ytoladghpoddlgaa
