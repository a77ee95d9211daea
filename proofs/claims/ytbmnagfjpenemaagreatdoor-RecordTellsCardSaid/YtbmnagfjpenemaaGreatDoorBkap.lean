/- The book's Apart, for lists of the kinds Ints, Patches, Dirty, Txs. -/
import Derived.Test.YtbmnagfjpenemaaGreatDoorBki
import Derived.Test.YtbmnagfjpenemaaGreatDoorBkp
import Derived.Test.YtbmnagfjpenemaaGreatDoorBkd
import Derived.Test.YtbmnagfjpenemaaGreatDoorBkt
import Derived.Test.YtbmnagfjpenemaaGreatDoorBkx
namespace Go.Proofs.YtbmnagfjpenemaaGreatDoor.Bk
open Go.ChangeShapes Go.WideShapes Go.ChangeAt Go.RowKit
set_option linter.unusedVariables false
set_option linter.unusedSimpArgs false
set_option maxRecDepth 100000
set_option maxHeartbeats 16000000 in
theorem apart_any (C b : Nat) (cs : Array Value) (vI uI : Value) (esI fsI : List E) (lsI : List (List (Int))) (vP uP : Value) (esP fsP : List E) (lsP : List (List (Pt))) (vD uD : Value) (esD fsD : List E) (lsD : List (List (Dy))) (vT uT : Value) (esT fsT : List E) (lsT msT : List (List (Tx × Sl))) (w : World) (hb : w.heap[b]? = some (.cells cs 46 (0, 0))) (hC : C ≤ w.heap.size) (aI : cs[0]? = some vI) (bI : cs[1]? = some uI) (PI : Part kI C w vI uI esI fsI lsI lsI) (nI : esI.length ≤ 200) (zI : ∀ i, i < esI.length → (esI.getD i e0).n ≤ 90000) (wI : ∀ i, i < esI.length → ∀ x ∈ lsI.getD i [], rng x) (aP : cs[8]? = some vP) (bP : cs[9]? = some uP) (PP : Part kP C w vP uP esP fsP lsP lsP) (nP : esP.length ≤ 200) (zP : ∀ i, i < esP.length → (esP.getD i e0).n ≤ 90000) (wP : ∀ i, i < esP.length → ∀ x ∈ lsP.getD i [], PtW x) (aD : cs[10]? = some vD) (bD : cs[11]? = some uD) (PD : Part kD C w vD uD esD fsD lsD lsD) (nD : esD.length ≤ 200) (zD : ∀ i, i < esD.length → (esD.getD i e0).n ≤ 90000) (wD : ∀ i, i < esD.length → ∀ x ∈ lsD.getD i [], DyW x) (aT : cs[16]? = some vT) (bT : cs[17]? = some uT) (PT : Part kT C w vT uT esT fsT lsT msT) (nT : esT.length ≤ 200) (zT : ∀ i, i < esT.length → (esT.getD i e0).n ≤ 90000) (wT : ∀ i, i < esT.length → PgsAt w (lsT.getD i []) ∧ PgsAt w (msT.getD i []) ∧ (msT.getD i []).map Prod.fst = (lsT.getD i []).map Prod.fst) (eT : fsT.length = esT.length) (xTexts : cs[2]? = some (.slice none 0 0)) (xCells : cs[4]? = some (.slice none 0 0)) (xPages : cs[6]? = some (.slice none 0 0)) (xEntries : cs[12]? = some (.slice none 0 0)) (xPairs : cs[14]? = some (.slice none 0 0)) :
    Calls Tryz.prog 19 #[ptr b] w fun e w' => e = .returned (.bool true) ∧ Below C w w' := by
  have HB := Lib.hid hb
  have HC := Lib.hid hC
  have HW := Lib.hid (Below.refl w.heap.size w)
  have AI := Lib.hid aI
  have STI := Lib.hid (fun (u : World) (h : Below w.heap.size w u) (hu : u.heap[b]? = some (.cells cs 46 (0, 0))) => stillI C b cs vI uI esI fsI lsI u hu aI bI (PI.below h) nI (fun i hi => by have := zI i hi; omega) wI (by rw [← PI.nm, PI.nl]))
  have QI := Lib.hid (PI.st nI zI)
  have AP := Lib.hid aP
  have STP := Lib.hid (fun (u : World) (h : Below w.heap.size w u) (hu : u.heap[b]? = some (.cells cs 46 (0, 0))) => stillP C b cs vP uP esP fsP lsP u hu aP bP (PP.below h) nP (fun i hi => by have := zP i hi; omega) wP (by rw [← PP.nm, PP.nl]))
  have QP := Lib.hid (PP.st nP zP)
  have AD := Lib.hid aD
  have STD := Lib.hid (fun (u : World) (h : Below w.heap.size w u) (hu : u.heap[b]? = some (.cells cs 46 (0, 0))) => stillD C b cs vD uD esD fsD lsD u hu aD bD (PD.below h) nD (fun i hi => by have := zD i hi; omega) wD (by rw [← PD.nm, PD.nl]))
  have QD := Lib.hid (PD.st nD zD)
  have AT := Lib.hid aT
  have STT := Lib.hid (fun (u : World) (h : Below w.heap.size w u) (hu : u.heap[b]? = some (.cells cs 46 (0, 0))) => stillT C b cs vT uT esT fsT lsT msT u hu aT bT (PT.below h) nT (fun i hi => by have := zT i hi; omega) (fun i hi => ⟨pgs_kept (wT i hi).1 h, pgs_kept (wT i hi).2.1 h, (wT i hi).2.2⟩) eT)
  have QT := Lib.hid (PT.st nT zT)
  have XTexts := Lib.hid (fun (u : World) (hu : u.heap[b]? = some (.cells cs 46 (0, 0))) => (cell_of_row u b 2 _ _ _ hu).trans xTexts)
  have XCells := Lib.hid (fun (u : World) (hu : u.heap[b]? = some (.cells cs 46 (0, 0))) => (cell_of_row u b 4 _ _ _ hu).trans xCells)
  have XPages := Lib.hid (fun (u : World) (hu : u.heap[b]? = some (.cells cs 46 (0, 0))) => (cell_of_row u b 6 _ _ _ hu).trans xPages)
  have XEntries := Lib.hid (fun (u : World) (hu : u.heap[b]? = some (.cells cs 46 (0, 0))) => (cell_of_row u b 12 _ _ _ hu).trans xEntries)
  have XPairs := Lib.hid (fun (u : World) (hu : u.heap[b]? = some (.cells cs 46 (0, 0))) => (cell_of_row u b 14 _ _ _ hu).trans xPairs)
  have LI := Lib.hid (fun (u : World) (hu : u.heap[b]? = some (.cells cs 46 (0, 0))) => (cell_of_row u b 0 _ _ _ hu).trans aI)
  have LP := Lib.hid (fun (u : World) (hu : u.heap[b]? = some (.cells cs 46 (0, 0))) => (cell_of_row u b 8 _ _ _ hu).trans aP)
  have LD := Lib.hid (fun (u : World) (hu : u.heap[b]? = some (.cells cs 46 (0, 0))) => (cell_of_row u b 10 _ _ _ hu).trans aD)
  have LT := Lib.hid (fun (u : World) (hu : u.heap[b]? = some (.cells cs 46 (0, 0))) => (cell_of_row u b 16 _ _ _ hu).trans aT)
  clear hb hC aI bI PI nI zI wI aP bP PP nP zP wP aD bD PD nD zD wD aT bT PT nT zT wT eT xTexts xCells xPages xEntries xPairs
  go_enter Tryz.func19, Tryz.ntmps19
  have HBX := Lib.hid HB.out
  have HWX := Lib.hid HW.out
  go_wp2_with fail
  refine (STI.out _ HWX.out HBX.out).mono ?_; rintro e Y1 ⟨rfl, hb⟩
  replace HBX := Lib.hid ((hb.block b (Array.getElem?_eq_some_iff.1 HBX.out).1).trans HBX.out)
  replace HWX := Lib.hid (HWX.out.trans (hb.mono HWX.out.size))
  clear hb
  go_wp2_with fail
  refine (stillTexts_none b _ (XTexts.out _ HBX.out)).mono ?_; rintro e X ⟨rfl, rfl⟩
  go_wp2_with fail
  refine (stillCells_none b _ (XCells.out _ HBX.out)).mono ?_; rintro e X ⟨rfl, rfl⟩
  go_wp2_with fail
  refine (stillPages_none b _ (XPages.out _ HBX.out)).mono ?_; rintro e X ⟨rfl, rfl⟩
  go_wp2_with fail
  refine (STP.out _ HWX.out HBX.out).mono ?_; rintro e Y2 ⟨rfl, hb⟩
  replace HBX := Lib.hid ((hb.block b (Array.getElem?_eq_some_iff.1 HBX.out).1).trans HBX.out)
  replace HWX := Lib.hid (HWX.out.trans (hb.mono HWX.out.size))
  clear hb
  go_wp2_with fail
  refine (STD.out _ HWX.out HBX.out).mono ?_; rintro e Y3 ⟨rfl, hb⟩
  replace HBX := Lib.hid ((hb.block b (Array.getElem?_eq_some_iff.1 HBX.out).1).trans HBX.out)
  replace HWX := Lib.hid (HWX.out.trans (hb.mono HWX.out.size))
  clear hb
  go_wp2_with fail
  refine (stillEntries_none b _ (XEntries.out _ HBX.out)).mono ?_; rintro e X ⟨rfl, rfl⟩
  go_wp2_with fail
  refine (stillPairs_none b _ (XPairs.out _ HBX.out)).mono ?_; rintro e X ⟨rfl, rfl⟩
  go_wp2_with fail
  refine (STT.out _ HWX.out HBX.out).mono ?_; rintro e Y4 ⟨rfl, hb⟩
  replace HBX := Lib.hid ((hb.block b (Array.getElem?_eq_some_iff.1 HBX.out).1).trans HBX.out)
  replace HWX := Lib.hid (HWX.out.trans (hb.mono HWX.out.size))
  clear hb
  clear STI STP STD STT
  replace QI := Lib.hid (QI.out.below HWX.out)
  replace QP := Lib.hid (QP.out.below HWX.out)
  replace QD := Lib.hid (QD.out.below HWX.out)
  replace QT := Lib.hid (QT.out.below HWX.out)
  have HCX := Lib.hid (Nat.le_trans HC.out HWX.out.size)
  have HBL := Lib.hid (HWX.out.mono HC.out)
  clear HW HWX HB
  go_wp2_with fail
  refine (putT_st C b cs vT esT _ _ HBX.out AT.out HCX.out QT.out).mono ?_; rintro e Y5 ⟨rfl, hk, hst⟩
  replace QI := Lib.hid (QI.out.kt hk (by decide) (by decide))
  replace QP := Lib.hid (QP.out.kt hk (by decide) (by decide))
  replace QD := Lib.hid (QD.out.kt hk (by decide) (by decide))
  replace QT := Lib.hid hst
  replace HBX := Lib.hid (hk.block HBX.out (by decide))
  replace HCX := Lib.hid (Nat.le_trans HCX.out hk.1.size)
  replace HBL := Lib.hid (HBL.out.trans hk.1)
  clear hk hst
  go_wp2_with fail
  refine (putI_st C b cs vI esI _ _ HBX.out AI.out HCX.out QI.out).mono ?_; rintro e Y6 ⟨rfl, hk, hst⟩
  replace QP := Lib.hid (QP.out.kt hk (by decide) (by decide))
  replace QD := Lib.hid (QD.out.kt hk (by decide) (by decide))
  replace QT := Lib.hid (QT.out.kt hk (by decide) (by decide))
  replace QI := Lib.hid hst
  replace HBX := Lib.hid (hk.block HBX.out (by decide))
  replace HCX := Lib.hid (Nat.le_trans HCX.out hk.1.size)
  replace HBL := Lib.hid (HBL.out.trans hk.1)
  clear hk hst
  go_wp2_with fail
  refine (putTexts_none b _ (XTexts.out _ HBX.out)).mono ?_; rintro e X ⟨rfl, rfl⟩
  go_wp2_with fail
  refine (putCells_none b _ (XCells.out _ HBX.out)).mono ?_; rintro e X ⟨rfl, rfl⟩
  go_wp2_with fail
  refine (putPages_none b _ (XPages.out _ HBX.out)).mono ?_; rintro e X ⟨rfl, rfl⟩
  go_wp2_with fail
  refine (putP_st C b cs vP esP _ _ HBX.out AP.out HCX.out QP.out).mono ?_; rintro e Y7 ⟨rfl, hk, hst⟩
  replace QI := Lib.hid (QI.out.kt hk (by decide) (by decide))
  replace QD := Lib.hid (QD.out.kt hk (by decide) (by decide))
  replace QT := Lib.hid (QT.out.kt hk (by decide) (by decide))
  replace QP := Lib.hid hst
  replace HBX := Lib.hid (hk.block HBX.out (by decide))
  replace HCX := Lib.hid (Nat.le_trans HCX.out hk.1.size)
  replace HBL := Lib.hid (HBL.out.trans hk.1)
  clear hk hst
  go_wp2_with fail
  refine (putD_st C b cs vD esD _ _ HBX.out AD.out HCX.out QD.out).mono ?_; rintro e Y8 ⟨rfl, hk, hst⟩
  replace QI := Lib.hid (QI.out.kt hk (by decide) (by decide))
  replace QP := Lib.hid (QP.out.kt hk (by decide) (by decide))
  replace QT := Lib.hid (QT.out.kt hk (by decide) (by decide))
  replace QD := Lib.hid hst
  replace HBX := Lib.hid (hk.block HBX.out (by decide))
  replace HCX := Lib.hid (Nat.le_trans HCX.out hk.1.size)
  replace HBL := Lib.hid (HBL.out.trans hk.1)
  clear hk hst
  go_wp2_with fail
  refine (putEntries_none b _ (XEntries.out _ HBX.out)).mono ?_; rintro e X ⟨rfl, rfl⟩
  go_wp2_with fail
  refine (putPairs_none b _ (XPairs.out _ HBX.out)).mono ?_; rintro e X ⟨rfl, rfl⟩
  go_wp2_with fail
  refine (growI_st C b cs vI esI _ HBX.out AI.out HCX.out QI.out).mono ?_; rintro e Y9 ⟨gIA, gIc, gsI, rfl, hk, hst⟩
  replace QP := Lib.hid (QP.out.kt hk (by decide) (by decide))
  replace QD := Lib.hid (QD.out.kt hk (by decide) (by decide))
  replace QT := Lib.hid (QT.out.kt hk (by decide) (by decide))
  replace QI := Lib.hid hst
  replace HBX := Lib.hid (hk.block HBX.out (by decide))
  replace HCX := Lib.hid (Nat.le_trans HCX.out hk.1.size)
  replace HBL := Lib.hid (HBL.out.trans hk.1)
  clear hk hst
  go_wp2_with fail
  refine (growTexts_none b _ (XTexts.out _ HBX.out)).mono ?_; rintro e X ⟨rfl, rfl⟩
  go_wp2_with fail
  refine (growCells_none b _ (XCells.out _ HBX.out)).mono ?_; rintro e X ⟨rfl, rfl⟩
  go_wp2_with fail
  refine (growPages_none b _ (XPages.out _ HBX.out)).mono ?_; rintro e X ⟨rfl, rfl⟩
  go_wp2_with fail
  refine (growP_st C b cs vP esP _ HBX.out AP.out HCX.out QP.out).mono ?_; rintro e Y10 ⟨gPA, gPc, gsP, rfl, hk, hst⟩
  replace QI := Lib.hid (QI.out.kt hk (by decide) (by decide))
  replace QD := Lib.hid (QD.out.kt hk (by decide) (by decide))
  replace QT := Lib.hid (QT.out.kt hk (by decide) (by decide))
  replace QP := Lib.hid hst
  replace HBX := Lib.hid (hk.block HBX.out (by decide))
  replace HCX := Lib.hid (Nat.le_trans HCX.out hk.1.size)
  replace HBL := Lib.hid (HBL.out.trans hk.1)
  clear hk hst
  go_wp2_with fail
  refine (growD_st C b cs vD esD _ HBX.out AD.out HCX.out QD.out).mono ?_; rintro e Y11 ⟨gDA, gDc, gsD, rfl, hk, hst⟩
  replace QI := Lib.hid (QI.out.kt hk (by decide) (by decide))
  replace QP := Lib.hid (QP.out.kt hk (by decide) (by decide))
  replace QT := Lib.hid (QT.out.kt hk (by decide) (by decide))
  replace QD := Lib.hid hst
  replace HBX := Lib.hid (hk.block HBX.out (by decide))
  replace HCX := Lib.hid (Nat.le_trans HCX.out hk.1.size)
  replace HBL := Lib.hid (HBL.out.trans hk.1)
  clear hk hst
  go_wp2_with fail
  refine (growEntries_none b _ (XEntries.out _ HBX.out)).mono ?_; rintro e X ⟨rfl, rfl⟩
  go_wp2_with fail
  refine (growPairs_none b _ (XPairs.out _ HBX.out)).mono ?_; rintro e X ⟨rfl, rfl⟩
  go_wp2_with fail
  refine (growT_st C b cs vT esT _ HBX.out AT.out HCX.out QT.out).mono ?_; rintro e Y12 ⟨gTA, gTc, gsT, rfl, hk, hst⟩
  replace QI := Lib.hid (QI.out.kt hk (by decide) (by decide))
  replace QP := Lib.hid (QP.out.kt hk (by decide) (by decide))
  replace QD := Lib.hid (QD.out.kt hk (by decide) (by decide))
  replace QT := Lib.hid hst
  replace HBX := Lib.hid (hk.block HBX.out (by decide))
  replace HCX := Lib.hid (Nat.le_trans HCX.out hk.1.size)
  replace HBL := Lib.hid (HBL.out.trans hk.1)
  clear hk hst
  go_wp2_with fail
  refine (markedI_new C vI esI gsI gIA gIc _ QI.out).mono ?_; rintro e Y13 ⟨rfl, hb⟩
  replace QI := Lib.hid (QI.out.below hb)
  replace QP := Lib.hid (QP.out.below hb)
  replace QD := Lib.hid (QD.out.below hb)
  replace QT := Lib.hid (QT.out.below hb)
  replace HBX := Lib.hid ((hb.block b (Array.getElem?_eq_some_iff.1 HBX.out).1).trans HBX.out)
  replace HBL := Lib.hid (HBL.out.trans (hb.mono HCX.out))
  replace HCX := Lib.hid (Nat.le_trans HCX.out hb.size)
  clear hb
  have lx := LI.out _ HBX.out
  go_wp2_with fail
  clear lx
  refine (markedI_old C vI esI gsI gIA gIc _ QI.out).mono ?_; rintro e Y14 ⟨rfl, hb⟩
  replace QI := Lib.hid (QI.out.below hb)
  replace QP := Lib.hid (QP.out.below hb)
  replace QD := Lib.hid (QD.out.below hb)
  replace QT := Lib.hid (QT.out.below hb)
  replace HBX := Lib.hid ((hb.block b (Array.getElem?_eq_some_iff.1 HBX.out).1).trans HBX.out)
  replace HBL := Lib.hid (HBL.out.trans (hb.mono HCX.out))
  replace HCX := Lib.hid (Nat.le_trans HCX.out hb.size)
  clear hb
  go_wp2_with fail
  refine (markedTexts_none _).mono ?_; rintro e X ⟨rfl, rfl⟩
  have lx := XTexts.out _ HBX.out
  go_wp2_with fail
  clear lx
  refine (markedTexts_none _).mono ?_; rintro e X ⟨rfl, rfl⟩
  go_wp2_with fail
  refine (markedCells_none _).mono ?_; rintro e X ⟨rfl, rfl⟩
  have lx := XCells.out _ HBX.out
  go_wp2_with fail
  clear lx
  refine (markedCells_none _).mono ?_; rintro e X ⟨rfl, rfl⟩
  go_wp2_with fail
  refine (markedPages_none _).mono ?_; rintro e X ⟨rfl, rfl⟩
  have lx := XPages.out _ HBX.out
  go_wp2_with fail
  clear lx
  refine (markedPages_none _).mono ?_; rintro e X ⟨rfl, rfl⟩
  go_wp2_with fail
  refine (markedP_new C vP esP gsP gPA gPc _ QP.out).mono ?_; rintro e Y15 ⟨rfl, hb⟩
  replace QI := Lib.hid (QI.out.below hb)
  replace QP := Lib.hid (QP.out.below hb)
  replace QD := Lib.hid (QD.out.below hb)
  replace QT := Lib.hid (QT.out.below hb)
  replace HBX := Lib.hid ((hb.block b (Array.getElem?_eq_some_iff.1 HBX.out).1).trans HBX.out)
  replace HBL := Lib.hid (HBL.out.trans (hb.mono HCX.out))
  replace HCX := Lib.hid (Nat.le_trans HCX.out hb.size)
  clear hb
  have lx := LP.out _ HBX.out
  go_wp2_with fail
  clear lx
  refine (markedP_old C vP esP gsP gPA gPc _ QP.out).mono ?_; rintro e Y16 ⟨rfl, hb⟩
  replace QI := Lib.hid (QI.out.below hb)
  replace QP := Lib.hid (QP.out.below hb)
  replace QD := Lib.hid (QD.out.below hb)
  replace QT := Lib.hid (QT.out.below hb)
  replace HBX := Lib.hid ((hb.block b (Array.getElem?_eq_some_iff.1 HBX.out).1).trans HBX.out)
  replace HBL := Lib.hid (HBL.out.trans (hb.mono HCX.out))
  replace HCX := Lib.hid (Nat.le_trans HCX.out hb.size)
  clear hb
  go_wp2_with fail
  refine (markedD_new C vD esD gsD gDA gDc _ QD.out).mono ?_; rintro e Y17 ⟨rfl, hb⟩
  replace QI := Lib.hid (QI.out.below hb)
  replace QP := Lib.hid (QP.out.below hb)
  replace QD := Lib.hid (QD.out.below hb)
  replace QT := Lib.hid (QT.out.below hb)
  replace HBX := Lib.hid ((hb.block b (Array.getElem?_eq_some_iff.1 HBX.out).1).trans HBX.out)
  replace HBL := Lib.hid (HBL.out.trans (hb.mono HCX.out))
  replace HCX := Lib.hid (Nat.le_trans HCX.out hb.size)
  clear hb
  have lx := LD.out _ HBX.out
  go_wp2_with fail
  clear lx
  refine (markedD_old C vD esD gsD gDA gDc _ QD.out).mono ?_; rintro e Y18 ⟨rfl, hb⟩
  replace QI := Lib.hid (QI.out.below hb)
  replace QP := Lib.hid (QP.out.below hb)
  replace QD := Lib.hid (QD.out.below hb)
  replace QT := Lib.hid (QT.out.below hb)
  replace HBX := Lib.hid ((hb.block b (Array.getElem?_eq_some_iff.1 HBX.out).1).trans HBX.out)
  replace HBL := Lib.hid (HBL.out.trans (hb.mono HCX.out))
  replace HCX := Lib.hid (Nat.le_trans HCX.out hb.size)
  clear hb
  go_wp2_with fail
  refine (markedEntries_none _).mono ?_; rintro e X ⟨rfl, rfl⟩
  have lx := XEntries.out _ HBX.out
  go_wp2_with fail
  clear lx
  refine (markedEntries_none _).mono ?_; rintro e X ⟨rfl, rfl⟩
  go_wp2_with fail
  refine (markedPairs_none _).mono ?_; rintro e X ⟨rfl, rfl⟩
  have lx := XPairs.out _ HBX.out
  go_wp2_with fail
  clear lx
  refine (markedPairs_none _).mono ?_; rintro e X ⟨rfl, rfl⟩
  go_wp2_with fail
  refine (markedT_new C vT esT gsT gTA gTc _ QT.out).mono ?_; rintro e Y19 ⟨rfl, hb⟩
  replace QI := Lib.hid (QI.out.below hb)
  replace QP := Lib.hid (QP.out.below hb)
  replace QD := Lib.hid (QD.out.below hb)
  replace QT := Lib.hid (QT.out.below hb)
  replace HBX := Lib.hid ((hb.block b (Array.getElem?_eq_some_iff.1 HBX.out).1).trans HBX.out)
  replace HBL := Lib.hid (HBL.out.trans (hb.mono HCX.out))
  replace HCX := Lib.hid (Nat.le_trans HCX.out hb.size)
  clear hb
  have lx := LT.out _ HBX.out
  go_wp2_with fail
  clear lx
  refine (markedT_old C vT esT gsT gTA gTc _ QT.out).mono ?_; rintro e Y20 ⟨rfl, hb⟩
  replace QI := Lib.hid (QI.out.below hb)
  replace QP := Lib.hid (QP.out.below hb)
  replace QD := Lib.hid (QD.out.below hb)
  replace QT := Lib.hid (QT.out.below hb)
  replace HBX := Lib.hid ((hb.block b (Array.getElem?_eq_some_iff.1 HBX.out).1).trans HBX.out)
  replace HBL := Lib.hid (HBL.out.trans (hb.mono HCX.out))
  replace HCX := Lib.hid (Nat.le_trans HCX.out hb.size)
  clear hb
  go_wp2_with fail
  go_ret
  exact ⟨rfl, HBL.out⟩
end Go.Proofs.YtbmnagfjpenemaaGreatDoor.Bk
