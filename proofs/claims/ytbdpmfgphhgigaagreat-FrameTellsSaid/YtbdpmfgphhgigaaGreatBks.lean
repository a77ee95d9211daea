/- The book of the kinds Texts as one state. -/
import Derived.Test.YtbdpmfgphhgigaaGreatBkap
namespace Go.Proofs.YtbdpmfgphhgigaaGreat.Bk
open Go.ChangeShapes Go.WideShapes Go.ChangeAt Go.RowKit
set_option linter.unusedVariables false
set_option linter.unusedSimpArgs false
set_option maxRecDepth 100000
def bookC : Array Value := #[.slice none 0 0, .slice none 0 0, .slice none 0 0, .slice none 0 0, .slice none 0 0, .slice none 0 0, .slice none 0 0, .slice none 0 0, .slice none 0 0, .slice none 0 0, .slice none 0 0, .slice none 0 0, .slice none 0 0, .slice none 0 0, .slice none 0 0, .slice none 0 0, .slice none 0 0, .slice none 0 0]
theorem set2 {cs : Array Value} {o : Nat} {v u : Value} (h : cs.size = 18) (ho : o + 1 < 18) : ((cs.setIfInBounds o v).setIfInBounds (o + 1) u).size = 18 ∧ ((cs.setIfInBounds o v).setIfInBounds (o + 1) u)[o]? = some v ∧ ((cs.setIfInBounds o v).setIfInBounds (o + 1) u)[o + 1]? = some u ∧ ∀ p, p ≠ o → p ≠ o + 1 → ((cs.setIfInBounds o v).setIfInBounds (o + 1) u)[p]? = cs[p]? := by
  refine ⟨by simp [h], ?_, ?_, fun p h1 h2 => ?_⟩
  · rw [Array.getElem?_setIfInBounds_ne (by omega), Array.getElem?_setIfInBounds_self_of_lt (by omega)]
  · rw [Array.getElem?_setIfInBounds_self_of_lt (by simp; omega)]
  · rw [Array.getElem?_setIfInBounds_ne (by omega), Array.getElem?_setIfInBounds_ne (by omega)]
structure Bks (C b : Nat) (w : World) (esW fsW : List E) (lsW msW : List (List (ByteArray))) : Prop where
  ex : ∃ cs : Array Value, cs.size = 18 ∧ w.heap[b]? = some (.cells cs 46 (0, 0)) ∧ (∃ v u, cs[2]? = some v ∧ cs[3]? = some u ∧ Part kW C w v u esW fsW lsW msW) ∧ (cs[0]? = some (.slice none 0 0) ∧ cs[4]? = some (.slice none 0 0) ∧ cs[6]? = some (.slice none 0 0) ∧ cs[8]? = some (.slice none 0 0) ∧ cs[10]? = some (.slice none 0 0) ∧ cs[12]? = some (.slice none 0 0) ∧ cs[14]? = some (.slice none 0 0) ∧ cs[16]? = some (.slice none 0 0))
  hCb : C ≤ b
theorem Bks.new (C : Nat) (w : World) (hC : C ≤ w.heap.size) : Bks C w.heap.size (w.alloc (.cells bookC 46)) [] [] [] [] :=
  ⟨⟨bookC, rfl, heap_alloc_new w _, ⟨_, _, rfl, rfl, Part.none _ _⟩, rfl, rfl, rfl, rfl, rfl, rfl, rfl, rfl⟩, hC⟩
theorem Bks.below {C b : Nat} {w w' : World} {esW fsW : List E} {lsW msW : List (List (ByteArray))} (h : Bks C b w esW fsW lsW msW) (hb : Below w.heap.size w w') : Bks C b w' esW fsW lsW msW := by
  obtain ⟨⟨cs, h1, h2, ⟨vW, uW, aW, bW, PW⟩, hn⟩, hC⟩ := h
  exact ⟨⟨cs, h1, (hb.block b (Array.getElem?_eq_some_iff.1 h2).1).trans h2, ⟨_, _, aW, bW, PW.below hb⟩, hn⟩, hC⟩
theorem Bks.lt {C b : Nat} {w : World} {esW fsW : List E} {lsW msW : List (List (ByteArray))} (h : Bks C b w esW fsW lsW msW) : b < w.heap.size := by
  obtain ⟨⟨cs, _, h2, _⟩, _⟩ := h
  exact (Array.getElem?_eq_some_iff.1 h2).1
theorem Bks.partW {C b : Nat} {w : World} {esW fsW : List E} {lsW msW : List (List (ByteArray))} (h : Bks C b w esW fsW lsW msW) : ∃ v u, Part kW C w v u esW fsW lsW msW := by
  obtain ⟨⟨cs, h1, h2, ⟨vW, uW, aW, bW, PW⟩, hn⟩, hC⟩ := h
  exact ⟨_, _, PW⟩
theorem Bks.plusW {C b : Nat} {w : World} {esW fsW : List E} {lsW msW : List (List (ByteArray))} (h : Bks C b w esW fsW lsW msW) (e : E) (l : List (ByteArray)) (hC : C ≤ w.heap.size) (hr : Row kW C w e l) (hn : e.n ≤ 1000000) (hk : esW.length ≤ 200) (hkf : fsW.length ≤ 200) (hfar : ∀ x ∈ esW ++ fsW, FarR x e) :
    Calls Tryz.prog 13 #[ptr b, .slice e.A e.n e.c] w fun q w' => q = .returned (.tuple #[]) ∧ ∃ f m, Bks C b w' (esW ++ [e]) (fsW ++ [f]) (lsW ++ [l]) (msW ++ [m]) ∧ (m = l) ∧ KT C (fun t => t ≠ kW.tL ∧ t ≠ 46) w w' ∧ (∀ g, f.own = some g → w.heap.size ≤ g) := by
  obtain ⟨⟨cs, h1, h2, ⟨vW, uW, aW, bW, PW⟩, nInts, nCells, nPages, nPatches, nDirty, nEntries, nPairs, nTxs⟩, hCb⟩ := h
  refine (addW C b cs vW uW esW fsW lsW msW e.A e.n e.c l w h2 aW bW hCb hC PW hr hn hk hkf hfar).mono ?_
  rintro q w' ⟨rfl, f, v, u, m, q1, q2, q3, q4, q5⟩
  obtain ⟨s1, s2, s3, s4⟩ := set2 (v := v) (u := u) h1 (show 2 + 1 < 18 by decide)
  refine ⟨rfl, f, m, ⟨⟨_, s1, q1, ⟨_, _, s2, s3, q2⟩, (s4 _ (by decide) (by decide)).trans nInts, (s4 _ (by decide) (by decide)).trans nCells, (s4 _ (by decide) (by decide)).trans nPages, (s4 _ (by decide) (by decide)).trans nPatches, (s4 _ (by decide) (by decide)).trans nDirty, (s4 _ (by decide) (by decide)).trans nEntries, (s4 _ (by decide) (by decide)).trans nPairs, (s4 _ (by decide) (by decide)).trans nTxs⟩, hCb⟩, q3, q4, q5⟩
theorem Bks.apart {C b : Nat} {w : World} {esW fsW : List E} {lsW msW : List (List (ByteArray))} (h : Bks C b w esW fsW lsW msW) (hC : C ≤ w.heap.size) (cW : esW.length ≤ 200) (zW : ∀ i, i < esW.length → (esW.getD i e0).n ≤ 90000) (wW : ∀ i, i < esW.length → ∀ x ∈ lsW.getD i [], x.size ≤ maxLen) (mW : lsW = msW) :
    Calls Tryz.prog 20 #[ptr b] w fun e w' => e = .returned (.bool true) ∧ Below C w w' := by
  obtain ⟨⟨cs, h1, h2, ⟨vW, uW, aW, bW, PW⟩, nInts, nCells, nPages, nPatches, nDirty, nEntries, nPairs, nTxs⟩, hCb⟩ := h
  subst mW
  exact apart_any C b cs vW uW esW fsW lsW w h2 hC aW bW PW cW zW wW nInts nCells nPages nPatches nDirty nEntries nPairs nTxs
end Go.Proofs.YtbdpmfgphhgigaaGreat.Bk
