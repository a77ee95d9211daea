/- The law's alive(). -/
import Derived.Test.YtbdpmfgphhgigaaGreatScan
import Derived.Test.YtbdpmfgphhgigaaGreatBatch
namespace Go.Proofs.YtbdpmfgphhgigaaGreat
open Go.ChangeShapes Go.WideShapes Go.ChangeAt Go.RowKit
set_option linter.unusedVariables false
set_option linter.unusedSimpArgs false
set_option maxRecDepth 100000
def aL : List BA := [[97, 98, 99], [100]]
def aE : BA := encX ⟨3, 0, true, [0, 3, 97, 98, 99, 0, 1, 100]⟩
theorem a_ok : batOk 3 0 aL = true := by decide
theorem a_bat : batB 3 0 aL = [aE] := by unfold batB; rw [if_pos a_ok]; rfl
theorem a_scan : (scan [aE]).out = aL ∧ (scan [aE]).next = 1 ∧ (scan [aE]).ep = 3 := by
  obtain ⟨r1, r2, r3, r4, r5⟩ := bat_read (i := 0) (s := sc0) a_ok (by decide)
  rw [show ((0 : Nat) : Int) = 0 from rfl, a_bat] at r2 r3 r4
  exact ⟨r2, r3, r4⟩
theorem a_size : aE.length = 64 := rfl
theorem a_head : str (aE.take 14) = ⟨#[0, 0, 0, 3, 0, 0, 2, 8, 0, 3, 97, 98, 99, 0]⟩ := rfl
theorem a_cnt : cntB [[97, 98, 99]] = 1 := by decide
/-- Texts written out. -/
theorem Txt.lit (w : World) (l : List BA) (cs : Array Value) (hc : cs.toList = tcs l) (hl : ∀ x ∈ l, x.length ≤ maxLen) (hn : l.length ≤ maxLen) (B : Nat) (hB : B = w.heap.size) : Txt (B + 1) (w.alloc (.cells cs 9)) (some ⟨B, 0, none⟩) l.length l := by
  subst hB
  refine ⟨rfl, hn, fun k hk => ⟨_, _, rfl, Nat.lt_succ_self _, ?_, hl _ (getD_mem' _ hk)⟩⟩
  rw [Nat.zero_add, cell_of_row _ _ _ _ _ _ (heap_alloc_new w _), ← Array.getElem?_toList, hc, tcs_get hk]
theorem strm_aL : (strmB aL).length ≤ 100000 := by decide
/-- A text of a row of a call's own. -/
theorem OwnT.at {B : Nat} {w : World} {A : Option Addr} {n c : Nat} {l : List BA} (h : OwnT B w (.slice A n c) l) {k : Nat} (hk : k < l.length) : ∃ g, A = some ⟨g, 0, none⟩ ∧ B ≤ g ∧ g < w.heap.size ∧ w.cell? ⟨g, k, none⟩ = some (.string (str (l.getD k []))) := by
  rcases h.2 with ⟨h1, h2⟩ | ⟨g, cap, cur, h1, h2, h3, h4⟩
  · omega
  · simp only [Value.slice.injEq] at h1
    obtain ⟨rfl, _, rfl⟩ := h1
    have hc := h.cells (g := g) rfl _ _ (tcs_get hk)
    rw [add_plain, Nat.zero_add] at hc
    exact ⟨g, rfl, h2, block_of_heap h3, hc⟩
set_option maxHeartbeats 4000000 in
theorem alive_yes (w : World) : Calls Tryz.prog 5 #[] w fun e w' => e = .returned (.bool true) ∧ Below w.heap.size w w' := by
  have hb0 : Below w.heap.size w (w.alloc (.cells #[.string ⟨#[97, 98, 99]⟩, .string ⟨#[100]⟩] 9)) := (Below.refl _ w).alloc (Nat.le_refl _) _
  have hT := Txt.lit w aL #[.string ⟨#[97, 98, 99]⟩, .string ⟨#[100]⟩] rfl (by decide) (by decide) w.heap.size rfl
  have BA := Lib.hid (bat_any (c := 2) 3 0 (by unfold rng; omega) (by unfold rng; omega) hT (by simp) (by decide) strm_aL)
  unfold BatP at BA
  rw [a_ok, a_bat] at BA
  have HB0 := Lib.hid hb0
  clear hb0 hT
  go_enter Tryz.func5, Tryz.ntmps5
  go_wp2_with fail
  refine BA.out.mono ?_; rintro e w2 ⟨v, rfl, ho, hb⟩
  obtain ⟨A1, c1, rfl⟩ : ∃ A c, v = .slice A 1 c := ho.shape
  obtain ⟨-, ht1⟩ := ho.txt (by decide) (by decide)
  obtain ⟨g, rfl, hg1, hg2, hg3⟩ := ho.at (k := 0) (by decide)
  have HB2 := Lib.hid (HB0.out.trans (hb.mono (by simp)))
  have HG := Lib.hid hg3
  have SC := Lib.hid (scan_any (c := c1) ht1 (Nat.le_refl _) (by decide))
  unfold ScanP at SC
  rw [a_scan.1, a_scan.2.1, a_scan.2.2] at SC
  clear ho hb ht1 hg3 HB0 BA
  go_wp2_with fail
  refine SC.out.mono ?_; rintro e w3 ⟨v2, rfl, ho2, hb3⟩
  obtain ⟨A2, c2, rfl⟩ : ∃ A c, v2 = .slice A 2 c := ho2.shape
  obtain ⟨-, ht2⟩ := ho2.txt (by decide) (by decide)
  have z3 : w3.cell? ⟨g, 0, none⟩ = some (.string (str aE)) := (hb3.cell (p := ⟨g, 0, none⟩) hg2).trans HG.out
  have HB3 := Lib.hid (HB2.out.trans (hb3.mono HB2.out.size))
  have sl : ∀ w : World, (Instr.slice 9 (.string (str aE)) none (some (.int .i64 14)) none).run Tryz.prog w = .ok (.string ⟨#[0, 0, 0, 3, 0, 0, 2, 8, 0, 3, 97, 98, 99, 0]⟩) w := fun w => by
    rw [run_slice_string_h (P := Tryz.prog) w 9 (str aE) Tryz.underlying9 .i64 14 (by omega) (by rw [str_size, a_size]; decide), extract_str, ← a_head]; rfl
  have hsz : (str aE).size = 64 := rfl
  have hL := Txt.lit w3 aL #[.string ⟨#[97, 98, 99]⟩, .string ⟨#[100]⟩] rfl (by decide) (by decide) w3.heap.size rfl
  have SM := Lib.hid (sameTx_is (c := c2) (d := 2) (w3.alloc (.cells #[.string ⟨#[97, 98, 99]⟩, .string ⟨#[100]⟩] 9)) (ht2.kept ((Below.refl _ _).alloc (Nat.le_refl _) _)) hL)
  rw [decide_eq_true (show aL = aL from rfl)] at SM
  generalize str aE = se at *
  clear ho2 hb3 ht2 hL HB2 SC HG
  go_wp2_with fail
  refine SM.out.mono ?_; rintro e w4 ⟨rfl, q, rfl⟩
  have CO := Lib.hid (count_any (c := 1) ((((w3.alloc (.cells #[.string ⟨#[97, 98, 99]⟩, .string ⟨#[100]⟩] 9)).drewN q)).alloc (.cells #[.string ⟨#[97, 98, 99]⟩] 9)) (Txt.lit ((w3.alloc (.cells #[.string ⟨#[97, 98, 99]⟩, .string ⟨#[100]⟩] 9)).drewN q) [[97, 98, 99]] #[.string ⟨#[97, 98, 99]⟩] rfl (by decide) (by decide) (w3.heap.size + 1) (by simp)) (by decide))
  rw [a_cnt] at CO
  have HB4 := Lib.hid (fun r => below_drewN (((below_drewN (HB3.out.alloc HB3.out.size (.cells #[.string ⟨#[97, 98, 99]⟩, .string ⟨#[100]⟩] 9)) q)).alloc (by have := HB3.out.size; simp; omega) (.cells #[.string ⟨#[97, 98, 99]⟩] 9)) r)
  clear SM
  go_wp2_with fail
  refine CO.out.mono ?_; rintro e w5 ⟨rfl, r, rfl⟩
  go_wp2_with fail
  go_ret
  exact ⟨rfl, HB4.out r⟩
end Go.Proofs.YtbdpmfgphhgigaaGreat
