/- The book's Apart, for lists of the kinds Texts. -/
import Derived.Test.YtbdpmfgphhgigaaGreatBkw
import Derived.Test.YtbdpmfgphhgigaaGreatBkx
namespace Go.Proofs.YtbdpmfgphhgigaaGreat.Bk
open Go.ChangeShapes Go.WideShapes Go.ChangeAt Go.RowKit
set_option linter.unusedVariables false
set_option linter.unusedSimpArgs false
set_option maxRecDepth 100000
set_option maxHeartbeats 16000000 in
theorem apart_any (C b : Nat) (cs : Array Value) (vW uW : Value) (esW fsW : List E) (lsW : List (List (ByteArray))) (w : World) (hb : w.heap[b]? = some (.cells cs 46 (0, 0))) (hC : C ≤ w.heap.size) (aW : cs[2]? = some vW) (bW : cs[3]? = some uW) (PW : Part kW C w vW uW esW fsW lsW lsW) (nW : esW.length ≤ 200) (zW : ∀ i, i < esW.length → (esW.getD i e0).n ≤ 90000) (wW : ∀ i, i < esW.length → ∀ x ∈ lsW.getD i [], x.size ≤ maxLen) (xInts : cs[0]? = some (.slice none 0 0)) (xCells : cs[4]? = some (.slice none 0 0)) (xPages : cs[6]? = some (.slice none 0 0)) (xPatches : cs[8]? = some (.slice none 0 0)) (xDirty : cs[10]? = some (.slice none 0 0)) (xEntries : cs[12]? = some (.slice none 0 0)) (xPairs : cs[14]? = some (.slice none 0 0)) (xTxs : cs[16]? = some (.slice none 0 0)) :
    Calls Tryz.prog 20 #[ptr b] w fun e w' => e = .returned (.bool true) ∧ Below C w w' := by
  have HB := Lib.hid hb
  have HC := Lib.hid hC
  have HW := Lib.hid (Below.refl w.heap.size w)
  have AW := Lib.hid aW
  have STW := Lib.hid (fun (u : World) (h : Below w.heap.size w u) (hu : u.heap[b]? = some (.cells cs 46 (0, 0))) => stillW C b cs vW uW esW fsW lsW u hu aW bW (PW.below h) nW (fun i hi => by have := zW i hi; omega) wW (by rw [← PW.nm, PW.nl]))
  have QW := Lib.hid (PW.st nW zW)
  have XInts := Lib.hid (fun (u : World) (hu : u.heap[b]? = some (.cells cs 46 (0, 0))) => (cell_of_row u b 0 _ _ _ hu).trans xInts)
  have XCells := Lib.hid (fun (u : World) (hu : u.heap[b]? = some (.cells cs 46 (0, 0))) => (cell_of_row u b 4 _ _ _ hu).trans xCells)
  have XPages := Lib.hid (fun (u : World) (hu : u.heap[b]? = some (.cells cs 46 (0, 0))) => (cell_of_row u b 6 _ _ _ hu).trans xPages)
  have XPatches := Lib.hid (fun (u : World) (hu : u.heap[b]? = some (.cells cs 46 (0, 0))) => (cell_of_row u b 8 _ _ _ hu).trans xPatches)
  have XDirty := Lib.hid (fun (u : World) (hu : u.heap[b]? = some (.cells cs 46 (0, 0))) => (cell_of_row u b 10 _ _ _ hu).trans xDirty)
  have XEntries := Lib.hid (fun (u : World) (hu : u.heap[b]? = some (.cells cs 46 (0, 0))) => (cell_of_row u b 12 _ _ _ hu).trans xEntries)
  have XPairs := Lib.hid (fun (u : World) (hu : u.heap[b]? = some (.cells cs 46 (0, 0))) => (cell_of_row u b 14 _ _ _ hu).trans xPairs)
  have XTxs := Lib.hid (fun (u : World) (hu : u.heap[b]? = some (.cells cs 46 (0, 0))) => (cell_of_row u b 16 _ _ _ hu).trans xTxs)
  have LW := Lib.hid (fun (u : World) (hu : u.heap[b]? = some (.cells cs 46 (0, 0))) => (cell_of_row u b 2 _ _ _ hu).trans aW)
  clear hb hC aW bW PW nW zW wW xInts xCells xPages xPatches xDirty xEntries xPairs xTxs
  go_enter Tryz.func20, Tryz.ntmps20
  have HBX := Lib.hid HB.out
  have HWX := Lib.hid HW.out
  go_wp2_with fail
  refine (stillInts_none b _ (XInts.out _ HBX.out)).mono ?_; rintro e X ⟨rfl, rfl⟩
  go_wp2_with fail
  refine (STW.out _ HWX.out HBX.out).mono ?_; rintro e Y1 ⟨rfl, hb⟩
  replace HBX := Lib.hid ((hb.block b (Array.getElem?_eq_some_iff.1 HBX.out).1).trans HBX.out)
  replace HWX := Lib.hid (HWX.out.trans (hb.mono HWX.out.size))
  clear hb
  go_wp2_with fail
  refine (stillCells_none b _ (XCells.out _ HBX.out)).mono ?_; rintro e X ⟨rfl, rfl⟩
  go_wp2_with fail
  refine (stillPages_none b _ (XPages.out _ HBX.out)).mono ?_; rintro e X ⟨rfl, rfl⟩
  go_wp2_with fail
  refine (stillPatches_none b _ (XPatches.out _ HBX.out)).mono ?_; rintro e X ⟨rfl, rfl⟩
  go_wp2_with fail
  refine (stillDirty_none b _ (XDirty.out _ HBX.out)).mono ?_; rintro e X ⟨rfl, rfl⟩
  go_wp2_with fail
  refine (stillEntries_none b _ (XEntries.out _ HBX.out)).mono ?_; rintro e X ⟨rfl, rfl⟩
  go_wp2_with fail
  refine (stillPairs_none b _ (XPairs.out _ HBX.out)).mono ?_; rintro e X ⟨rfl, rfl⟩
  go_wp2_with fail
  refine (stillTxs_none b _ (XTxs.out _ HBX.out)).mono ?_; rintro e X ⟨rfl, rfl⟩
  clear STW
  replace QW := Lib.hid (QW.out.below HWX.out)
  have HCX := Lib.hid (Nat.le_trans HC.out HWX.out.size)
  have HBL := Lib.hid (HWX.out.mono HC.out)
  clear HW HWX HB
  go_wp2_with fail
  refine (putTxs_none b _ (XTxs.out _ HBX.out)).mono ?_; rintro e X ⟨rfl, rfl⟩
  go_wp2_with fail
  refine (putInts_none b _ (XInts.out _ HBX.out)).mono ?_; rintro e X ⟨rfl, rfl⟩
  go_wp2_with fail
  refine (putW_st C b cs vW esW _ _ HBX.out AW.out HCX.out QW.out).mono ?_; rintro e Y2 ⟨rfl, hk, hst⟩
  replace QW := Lib.hid hst
  replace HBX := Lib.hid (hk.block HBX.out (by decide))
  replace HCX := Lib.hid (Nat.le_trans HCX.out hk.1.size)
  replace HBL := Lib.hid (HBL.out.trans hk.1)
  clear hk hst
  go_wp2_with fail
  refine (putCells_none b _ (XCells.out _ HBX.out)).mono ?_; rintro e X ⟨rfl, rfl⟩
  go_wp2_with fail
  refine (putPages_none b _ (XPages.out _ HBX.out)).mono ?_; rintro e X ⟨rfl, rfl⟩
  go_wp2_with fail
  refine (putPatches_none b _ (XPatches.out _ HBX.out)).mono ?_; rintro e X ⟨rfl, rfl⟩
  go_wp2_with fail
  refine (putDirty_none b _ (XDirty.out _ HBX.out)).mono ?_; rintro e X ⟨rfl, rfl⟩
  go_wp2_with fail
  refine (putEntries_none b _ (XEntries.out _ HBX.out)).mono ?_; rintro e X ⟨rfl, rfl⟩
  go_wp2_with fail
  refine (putPairs_none b _ (XPairs.out _ HBX.out)).mono ?_; rintro e X ⟨rfl, rfl⟩
  go_wp2_with fail
  refine (growInts_none b _ (XInts.out _ HBX.out)).mono ?_; rintro e X ⟨rfl, rfl⟩
  go_wp2_with fail
  refine (growW_st C b cs vW esW _ HBX.out AW.out HCX.out QW.out).mono ?_; rintro e Y3 ⟨gWA, gWc, gsW, rfl, hk, hst⟩
  replace QW := Lib.hid hst
  replace HBX := Lib.hid (hk.block HBX.out (by decide))
  replace HCX := Lib.hid (Nat.le_trans HCX.out hk.1.size)
  replace HBL := Lib.hid (HBL.out.trans hk.1)
  clear hk hst
  go_wp2_with fail
  refine (growCells_none b _ (XCells.out _ HBX.out)).mono ?_; rintro e X ⟨rfl, rfl⟩
  go_wp2_with fail
  refine (growPages_none b _ (XPages.out _ HBX.out)).mono ?_; rintro e X ⟨rfl, rfl⟩
  go_wp2_with fail
  refine (growPatches_none b _ (XPatches.out _ HBX.out)).mono ?_; rintro e X ⟨rfl, rfl⟩
  go_wp2_with fail
  refine (growDirty_none b _ (XDirty.out _ HBX.out)).mono ?_; rintro e X ⟨rfl, rfl⟩
  go_wp2_with fail
  refine (growEntries_none b _ (XEntries.out _ HBX.out)).mono ?_; rintro e X ⟨rfl, rfl⟩
  go_wp2_with fail
  refine (growPairs_none b _ (XPairs.out _ HBX.out)).mono ?_; rintro e X ⟨rfl, rfl⟩
  go_wp2_with fail
  refine (growTxs_none b _ (XTxs.out _ HBX.out)).mono ?_; rintro e X ⟨rfl, rfl⟩
  go_wp2_with fail
  refine (markedInts_none _).mono ?_; rintro e X ⟨rfl, rfl⟩
  have lx := XInts.out _ HBX.out
  go_wp2_with fail
  clear lx
  refine (markedInts_none _).mono ?_; rintro e X ⟨rfl, rfl⟩
  go_wp2_with fail
  refine (markedW_new C vW esW gsW gWA gWc _ QW.out).mono ?_; rintro e Y4 ⟨rfl, hb⟩
  replace QW := Lib.hid (QW.out.below hb)
  replace HBX := Lib.hid ((hb.block b (Array.getElem?_eq_some_iff.1 HBX.out).1).trans HBX.out)
  replace HBL := Lib.hid (HBL.out.trans (hb.mono HCX.out))
  replace HCX := Lib.hid (Nat.le_trans HCX.out hb.size)
  clear hb
  have lx := LW.out _ HBX.out
  go_wp2_with fail
  clear lx
  refine (markedW_old C vW esW gsW gWA gWc _ QW.out).mono ?_; rintro e Y5 ⟨rfl, hb⟩
  replace QW := Lib.hid (QW.out.below hb)
  replace HBX := Lib.hid ((hb.block b (Array.getElem?_eq_some_iff.1 HBX.out).1).trans HBX.out)
  replace HBL := Lib.hid (HBL.out.trans (hb.mono HCX.out))
  replace HCX := Lib.hid (Nat.le_trans HCX.out hb.size)
  clear hb
  go_wp2_with fail
  refine (markedCells_none _).mono ?_; rintro e X ⟨rfl, rfl⟩
  have lx := XCells.out _ HBX.out
  go_wp2_with fail
  clear lx
  refine (markedCells_none _).mono ?_; rintro e X ⟨rfl, rfl⟩
  go_wp2_with fail
  refine (markedPages_none _).mono ?_; rintro e X ⟨rfl, rfl⟩
  have lx := XPages.out _ HBX.out
  go_wp2_with fail
  clear lx
  refine (markedPages_none _).mono ?_; rintro e X ⟨rfl, rfl⟩
  go_wp2_with fail
  refine (markedPatches_none _).mono ?_; rintro e X ⟨rfl, rfl⟩
  have lx := XPatches.out _ HBX.out
  go_wp2_with fail
  clear lx
  refine (markedPatches_none _).mono ?_; rintro e X ⟨rfl, rfl⟩
  go_wp2_with fail
  refine (markedDirty_none _).mono ?_; rintro e X ⟨rfl, rfl⟩
  have lx := XDirty.out _ HBX.out
  go_wp2_with fail
  clear lx
  refine (markedDirty_none _).mono ?_; rintro e X ⟨rfl, rfl⟩
  go_wp2_with fail
  refine (markedEntries_none _).mono ?_; rintro e X ⟨rfl, rfl⟩
  have lx := XEntries.out _ HBX.out
  go_wp2_with fail
  clear lx
  refine (markedEntries_none _).mono ?_; rintro e X ⟨rfl, rfl⟩
  go_wp2_with fail
  refine (markedPairs_none _).mono ?_; rintro e X ⟨rfl, rfl⟩
  have lx := XPairs.out _ HBX.out
  go_wp2_with fail
  clear lx
  refine (markedPairs_none _).mono ?_; rintro e X ⟨rfl, rfl⟩
  go_wp2_with fail
  refine (markedTxs_none _).mono ?_; rintro e X ⟨rfl, rfl⟩
  have lx := XTxs.out _ HBX.out
  go_wp2_with fail
  clear lx
  refine (markedTxs_none _).mono ?_; rintro e X ⟨rfl, rfl⟩
  go_wp2_with fail
  go_ret
  exact ⟨rfl, HBL.out⟩
end Go.Proofs.YtbdpmfgphhgigaaGreat.Bk
