/- What the memory of a disk is, and what a call on it leaves alone. -/
import Derived.Test.YtnjggoeahaglbaaGreatDp
import Derived.Test.YtnjggoeahaglbaaGreatRows
import Derived.WalkKit
import Derived.ProofKit
import Derived.OpenShut
import Derived.LoopTactic
import Derived.Outline
import Derived.Lib.Hide
import Derived.WalkLawsBesides
import Derived.WalkSpells
import Derived.Deep.QuietTactic
import Derived.BigQuiet
import Derived.Laws.Entries
import Derived.Laws.BytesArg
import Derived.Laws.MakeOwn
import Derived.IntWalk
import Derived.Lib.Strings
import Derived.Laws.Tables
import Derived.Laws.Cover3
import Derived.Deep.WholeRow
import Derived.Laws.IdiomStrings
import Derived.Deep.RegionHeld3
import Derived.Maps.AppendAt
import Derived.Deep.DeepCutAuto
import Derived.RangeFuncNested
import Derived.RangeFuncLeaves
import Derived.TacticsIn
import Derived.RangeFuncBound
import Derived.RangeFuncCalls
import Derived.Shelf.Abstract
import Derived.Shelf.RegionOpen
import Derived.OwnWalkIn
import Derived.TacticsInMore
import Derived.LoopNIn
import Derived.LoopIn
namespace Go.Proofs.YtnjggoeahaglbaaGreat.Dk
open Go.RowKit
set_option linter.unusedVariables false

/-- A disk: what is permanent, the pending writes, does it run, how many writes are left. -/
structure St where
  last : List BA
  pend : List PW
  runs : Bool
  left : Int

/-- The disk at p has its sectors in block s, its pending writes at pv. -/
structure Own (C p s c : Nat) (pv : Value) (A : St) (w : World) : Prop where
  hp : C ≤ p
  hs : C ≤ s
  ps : p ≠ s
  vp : pv.ownBlock ≠ some p
  vs : pv.ownBlock ≠ some s
  head : w.heap[p]? = some (.cells #[.slice (some ⟨s, 0, none⟩) A.last.length c, pv, .bool A.runs, .int .i64 A.left] 78 (0, 0))
  secs : ∃ cur, w.heap[s]? = some (.cells cur 101 (0, 0)) ∧ A.last.length * 64 ≤ cur.size ∧ ∀ k, k < A.last.length → ∀ j v, (cb ((appl A.last A.pend).getD k []))[j]? = some v → cur[k * 64 + j]? = some v
  row : w.ownsRow C 103 129 pv A.pend.length (pcells A.last A.pend)
  whole : Whole A.last
  fits : Fits A.last.length A.pend
  n1 : 1 ≤ A.last.length
  n2 : A.last.length ≤ 10000
  c1 : A.last.length ≤ c
  c2 : c ≤ maxLen
  l1 : -9223372036854775808 ≤ A.left
  l2 : A.left ≤ 9223372036854775807

/-- What a call on that disk may turn. -/
structure Turned (p s : Nat) (pv : Value) (w w' : World) : Prop where
  os : w'.os = w.os
  tape : w'.tape = w.tape
  output : w'.output = w.output
  size : w.heap.size ≤ w'.heap.size
  block : ∀ k, k < w.heap.size → k ≠ p → k ≠ s → pv.ownBlock ≠ some k → w'.heap[k]? = w.heap[k]?

section
variable {C p s c : Nat} {pv : Value} {A : St} {w w' : World}
theorem Own.lt (h : Own C p s c pv A w) : p < w.heap.size := (Array.getElem?_eq_some_iff.1 h.head).1
theorem Own.lts (h : Own C p s c pv A w) : s < w.heap.size := by obtain ⟨cur, h1, _⟩ := h.secs; exact (Array.getElem?_eq_some_iff.1 h1).1
theorem Own.ltv (h : Own C p s c pv A w) : ∀ k, pv.ownBlock = some k → C ≤ k ∧ k < w.heap.size := h.row.lt
theorem Own.cell0 (h : Own C p s c pv A w) : w.cell? ⟨p, 0, none⟩ = some (.slice (some ⟨s, 0, none⟩) A.last.length c) := cell_of_row w p 0 _ _ _ h.head
theorem Own.cell1 (h : Own C p s c pv A w) : w.cell? ⟨p, 1, none⟩ = some pv := cell_of_row w p 1 _ _ _ h.head
theorem Own.cell2 (h : Own C p s c pv A w) : w.cell? ⟨p, 2, none⟩ = some (.bool A.runs) := cell_of_row w p 2 _ _ _ h.head
theorem Own.cell3 (h : Own C p s c pv A w) : w.cell? ⟨p, 3, none⟩ = some (.int .i64 A.left) := cell_of_row w p 3 _ _ _ h.head
theorem Own.free (h : Own C p s c pv A w) (o : Nat) : w.frozen? ⟨p, o, none⟩ = false := frozen_of_row w p o _ _ h.head
theorem Own.sector (h : Own C p s c pv A w) {k : Nat} (hk : k < A.last.length) : w.rangeAt s (k * 64) (cb ((appl A.last A.pend).getD k [])) := fun j v hv => by
  obtain ⟨cur, h1, _, h3⟩ := h.secs
  rw [cell_of_row w s _ _ _ _ h1]
  exact h3 k hk j v hv
theorem Own.there (h : Own C p s c pv A w) {k : Nat} (hk : k < A.last.length) : w.there s (k * 64) 64 := fun j hj => by
  obtain ⟨cur, h1, h2, _⟩ := h.secs
  refine ⟨?_, frozen_of_row w s _ _ _ h1⟩
  rw [cell_of_row w s _ _ _ _ h1, Array.getElem?_eq_getElem (by omega)]
  rfl
theorem Own.wholeNow (h : Own C p s c pv A w) : Whole (appl A.last A.pend) := h.fits.whole h.whole
theorem Own.lenNow (h : Own C p s c pv A w) {k : Nat} (hk : k < A.last.length) : ((appl A.last A.pend).getD k []).length = 64 := h.wholeNow.getD (by rw [appl_length]; exact hk)
theorem Own.len (h : Own C p s c pv A w) : ∃ a cp, pv = .slice a A.pend.length cp := by
  rcases h.row.2 with ⟨h1, h2⟩ | ⟨g, cap, cur, h1, _⟩
  · exact ⟨_, _, by rw [h1, h2]⟩
  · exact ⟨_, _, h1⟩
theorem Own.pendLe (h : Own C p s c pv A w) : A.pend.length ≤ maxLen := by
  rcases h.row.2 with ⟨_, h2⟩ | ⟨g, cap, cur, h1, _, _, h2, h3, _⟩
  · rw [h2]; exact Nat.zero_le _
  · omega
/-- What leaves the disk's blocks alone leaves the disk alone. -/
theorem Own.same (h : Own C p s c pv A w) (hb : ∀ k, (k = p ∨ k = s ∨ pv.ownBlock = some k) → w'.heap[k]? = w.heap[k]?) : Own C p s c pv A w' := by
  refine ⟨h.hp, h.hs, h.ps, h.vp, h.vs, (hb p (.inl rfl)).trans h.head, ?_, ?_, h.whole, h.fits, h.n1, h.n2, h.c1, h.c2, h.l1, h.l2⟩
  · obtain ⟨cur, h1, h2⟩ := h.secs
    exact ⟨cur, (hb s (.inr (.inl rfl))).trans h1, h2⟩
  · refine ⟨h.row.1, ?_⟩
    rcases h.row.2 with h1 | ⟨g, cap, cur, h1, h2, h3, h4⟩
    · exact .inl h1
    · exact .inr ⟨g, cap, cur, h1, h2, (hb g (.inr (.inr (by rw [h1]; rfl)))).trans h3, h4⟩
theorem Own.below {D : Nat} (h : Own C p s c pv A w) (hb : Below D w w') (hD : w.heap.size ≤ D) : Own C p s c pv A w' := h.same fun k hk => hb.block k (by
  rcases hk with rfl | rfl | hk
  · have := h.lt; omega
  · have := h.lts; omega
  · have := (h.ltv k hk).2; omega)
theorem Turned.refl (p s : Nat) (pv : Value) (w : World) : Turned p s pv w w := ⟨rfl, rfl, rfl, Nat.le_refl _, fun _ _ _ _ _ => rfl⟩
theorem Turned.below {D : Nat} (h : Turned p s pv w w') (hp : D ≤ p) (hs : D ≤ s) (hv : ∀ k, pv.ownBlock = some k → D ≤ k) (hD : D ≤ w.heap.size) : Below D w w' :=
  ⟨h.os, h.tape, h.output, h.size, fun k hk => h.block k (by omega) (by omega) (by omega) (fun e => by have := hv k e; omega)⟩
/-- A pending list's block: as it was, or new. -/
def Moved (pv pv' : Value) (w : World) : Prop := ∀ k, pv'.ownBlock = some k → pv.ownBlock = some k ∨ w.heap.size ≤ k
theorem Turned.trans {pv' : Value} {w1 w2 : World} (h : Turned p s pv w w1) (k : Turned p s pv' w1 w2) (hm : Moved pv pv' w) : Turned p s pv w w2 :=
  ⟨k.os.trans h.os, k.tape.trans h.tape, k.output.trans h.output, Nat.le_trans h.size k.size, fun i hi h1 h2 h3 => (k.block i (by have := h.size; omega) h1 h2 (fun e => by
    rcases hm i e with h4 | h4
    · exact h3 h4
    · omega)).trans (h.block i hi h1 h2 h3)⟩
theorem Moved.refl (pv : Value) (w : World) : Moved pv pv w := fun k h => .inl h
theorem Moved.trans {pv' pv2 : Value} {w1 : World} (h : Moved pv pv' w) (k : Moved pv' pv2 w1) (hw : w.heap.size ≤ w1.heap.size) : Moved pv pv2 w := fun i hi => by
  rcases k i hi with h1 | h1
  · exact h i h1
  · exact .inr (by omega)
/-- What a call that writes leaves. -/
def Did (C p s c : Nat) (pv : Value) (A : St) (w w' : World) : Prop := ∃ pv', Own C p s c pv' A w' ∧ Turned p s pv w w' ∧ Moved pv pv' w
end
end Go.Proofs.YtnjggoeahaglbaaGreat.Dk

/- The contracts of the disk's calls that read, and of those that write its head alone. -/
namespace Go.Proofs.YtnjggoeahaglbaaGreat.Dk
open Go.ChangeShapes Go.WideShapes Go.ChangeAt Go.RowKit
set_option linter.unusedVariables false

abbrev ptr (p : Nat) : Value := .pointer (some ⟨p, 0, none⟩)
variable {C p s c : Nat} {pv : Value} {A : St} {w : World}

/-! Dead. -/
set_option maxHeartbeats 400000 in
theorem dead_cell (p : Nat) (b : Bool) (w : World) (hc : w.cell? ⟨p, 2, none⟩ = some (.bool b)) : Calls Tryz.prog 55 #[ptr p] w fun e w' => e = .returned (.bool (!b)) ∧ w = w' := by
  go_enter Tryz.func55, Tryz.ntmps55
  go_wp2_with fail
  go_ret
  exact ⟨rfl, rfl⟩
theorem dead_o (h : Own C p s c pv A w) : Calls Tryz.prog 55 #[ptr p] w fun e w' => e = .returned (.bool (!A.runs)) ∧ w = w' := dead_cell p _ w h.cell2
theorem dead_yes (h : Own C p s c pv A w) (hr : A.runs = false) : Calls Tryz.prog 55 #[ptr p] w fun e w' => e = .returned (.bool true) ∧ w = w' := by have := dead_o h; rw [hr] at this; exact this
theorem dead_no (h : Own C p s c pv A w) (hr : A.runs = true) : Calls Tryz.prog 55 #[ptr p] w fun e w' => e = .returned (.bool false) ∧ w = w' := by have := dead_o h; rw [hr] at this; exact this
set_option maxHeartbeats 400000 in
theorem dead_nil (w : World) : Calls Tryz.prog 55 #[.pointer none] w fun e w' => e = .returned (.bool true) ∧ w = w' := by
  go_enter Tryz.func55, Tryz.ntmps55
  go_wp2_with fail
  go_ret
  exact ⟨rfl, rfl⟩

/-! Sectors, Pending. -/
set_option maxHeartbeats 400000 in
theorem sectors_cell (p s n c : Nat) (w : World) (hc : w.cell? ⟨p, 0, none⟩ = some (.slice (some ⟨s, 0, none⟩) n c)) : Calls Tryz.prog 38 #[ptr p] w fun e w' => e = .returned (.int .i64 n) ∧ w = w' := by
  go_enter Tryz.func38, Tryz.ntmps38
  go_wp2_with fail
  go_ret
  exact ⟨rfl, rfl⟩
theorem sectors_o (h : Own C p s c pv A w) : Calls Tryz.prog 38 #[ptr p] w fun e w' => e = .returned (.int .i64 A.last.length) ∧ w = w' := sectors_cell p s _ c w h.cell0
set_option maxHeartbeats 400000 in
theorem sectors_nil (w : World) : Calls Tryz.prog 38 #[.pointer none] w fun e w' => e = .returned (.int .i64 0) ∧ w = w' := by
  go_enter Tryz.func38, Tryz.ntmps38
  go_wp2_with fail
  go_ret
  exact ⟨rfl, rfl⟩
set_option maxHeartbeats 400000 in
theorem pending_cell (p n c : Nat) (a : Option Addr) (w : World) (hc : w.cell? ⟨p, 1, none⟩ = some (.slice a n c)) : Calls Tryz.prog 35 #[ptr p] w fun e w' => e = .returned (.int .i64 n) ∧ w = w' := by
  go_enter Tryz.func35, Tryz.ntmps35
  go_wp2_with fail
  go_ret
  exact ⟨rfl, rfl⟩
theorem pending_o (h : Own C p s c pv A w) : Calls Tryz.prog 35 #[ptr p] w fun e w' => e = .returned (.int .i64 A.pend.length) ∧ w = w' := by
  obtain ⟨a, cp, e⟩ := h.len
  exact pending_cell p _ cp a w (by rw [h.cell1, e])
set_option maxHeartbeats 400000 in
theorem pending_nil (w : World) : Calls Tryz.prog 35 #[.pointer none] w fun e w' => e = .returned (.int .i64 0) ∧ w = w' := by
  go_enter Tryz.func35, Tryz.ntmps35
  go_wp2_with fail
  go_ret
  exact ⟨rfl, rfl⟩

/-! refuse. -/
set_option maxHeartbeats 400000 in
theorem refuse_ok (h : Own C p s c pv A w) (k : Nat) (hr : A.runs = true) (hk : k < A.last.length) : Calls Tryz.prog 72 #[ptr p, .int .i64 k] w fun e w' => e = .returned (.int .i64 0) ∧ w = w' := by
  have hc0 := h.cell0
  have h2 := h.n2
  have HO := Lib.hid h
  clear h
  generalize A.last.length = n at *
  have k0 : (0 : Int) ≤ (k : Int) := by omega
  have k1 : (k : Int) < (n : Int) := by omega
  have k2 : ¬ (k : Int) < 0 := by omega
  go_enter Tryz.func72, Tryz.ntmps72
  go_wp2_with fail
  refine (dead_no HO.out hr).mono ?_; rintro e w' ⟨rfl, rfl⟩
  go_wp2_with fail
  go_ret
  exact ⟨rfl, rfl⟩
set_option maxHeartbeats 400000 in
theorem refuse_dead (h : Own C p s c pv A w) (k : Int) (hr : A.runs = false) : Calls Tryz.prog 72 #[ptr p, .int .i64 k] w fun e w' => e = .returned (.int .i64 10) ∧ w = w' := by
  have HO := Lib.hid h
  clear h
  go_enter Tryz.func72, Tryz.ntmps72
  go_wp2_with fail
  refine (dead_yes HO.out hr).mono ?_; rintro e w' ⟨rfl, rfl⟩
  go_wp2_with fail
  go_ret
  exact ⟨rfl, rfl⟩
set_option maxHeartbeats 400000 in
theorem refuse_nil (k : Int) (w : World) : Calls Tryz.prog 72 #[.pointer none, .int .i64 k] w fun e w' => e = .returned (.int .i64 10) ∧ w = w' := by
  go_enter Tryz.func72, Tryz.ntmps72
  go_wp2_with fail
  refine (dead_nil _).mono ?_; rintro e w' ⟨rfl, rfl⟩
  go_wp2_with fail
  go_ret
  exact ⟨rfl, rfl⟩
set_option maxHeartbeats 400000 in
theorem refuse_range (h : Own C p s c pv A w) (k : Int) (hr : A.runs = true) (hk : k < 0 ∨ (A.last.length : Int) ≤ k) : Calls Tryz.prog 72 #[ptr p, .int .i64 k] w fun e w' => e = .returned (.int .i64 12) ∧ w = w' := by
  have hc0 := h.cell0
  have h2 := h.n2
  have HO := Lib.hid h
  clear h
  generalize A.last.length = n at *
  by_cases k0 : k < 0
  · clear hk
    go_enter Tryz.func72, Tryz.ntmps72
    go_wp2_with fail
    refine (dead_no HO.out hr).mono ?_; rintro e w' ⟨rfl, rfl⟩
    go_wp2_with fail
    go_ret
    exact ⟨rfl, rfl⟩
  · have k1 : (n : Int) ≤ k := by omega
    have k2 : 0 ≤ k := by omega
    clear hk
    go_enter Tryz.func72, Tryz.ntmps72
    go_wp2_with fail
    refine (dead_no HO.out hr).mono ?_; rintro e w' ⟨rfl, rfl⟩
    go_wp2_with fail
    go_ret
    exact ⟨rfl, rfl⟩

/-! Stop, Sync. -/
theorem Own.setHead (h : Own C p s c pv A w) (pv' : Value) (A' : St) (o : Nat) (u : Value) (hl : A'.last.length = A.last.length)
    (hc : (#[.slice (some ⟨s, 0, none⟩) A.last.length c, pv, .bool A.runs, .int .i64 A.left] : Array Value).setIfInBounds o u = #[.slice (some ⟨s, 0, none⟩) A'.last.length c, pv', .bool A'.runs, .int .i64 A'.left])
    (hv : pv' = pv ∨ pv' = .slice none 0 0) (hsec : appl A'.last A'.pend = appl A.last A.pend) (hrow : w.ownsRow C 103 129 pv' A'.pend.length (pcells A'.last A'.pend))
    (hw : Whole A'.last) (hf : Fits A'.last.length A'.pend) (l1 : -9223372036854775808 ≤ A'.left) (l2 : A'.left ≤ 9223372036854775807) :
    Own C p s c pv' A' (w.setCell ⟨p, o, none⟩ u) := by
  have hps := h.ps
  refine ⟨h.hp, h.hs, h.ps, ?_, ?_, ?_, ?_, ?_, hw, hf, by rw [hl]; exact h.n1, by rw [hl]; exact h.n2, by rw [hl]; exact h.c1, h.c2, l1, l2⟩
  · rcases hv with rfl | rfl
    · exact h.vp
    · simp [Value.ownBlock]
  · rcases hv with rfl | rfl
    · exact h.vs
    · simp [Value.ownBlock]
  · rw [heap_setCell_same _ _ _ _ _ _ h.head, hc]
  · obtain ⟨cur, h1, h2, h3⟩ := h.secs
    exact ⟨cur, by rw [heap_setCell_other _ _ _ _ (by show s ≠ p; omega)]; exact h1, by rw [hl]; exact h2, by rw [hl, hsec]; exact h3⟩
  · refine ⟨hrow.1, ?_⟩
    rcases hrow.2 with h1 | ⟨g, cap, cur, h1, h2, h3, h4⟩
    · exact .inl h1
    · refine .inr ⟨g, cap, cur, h1, h2, ?_, h4⟩
      rw [heap_setCell_other _ _ _ _ (by
        show g ≠ p
        rintro rfl
        rcases hv with rfl | rfl
        · exact h.vp (by rw [h1]; rfl)
        · simp at h1)]
      exact h3
theorem Turned.setCell (p s : Nat) (pv : Value) (w : World) (o : Nat) (u : Value) : Turned p s pv w (w.setCell ⟨p, o, none⟩ u) :=
  ⟨rfl, rfl, rfl, by simp [World.setCell], fun k _ h1 _ _ => heap_setCell_other _ _ _ _ h1⟩
set_option maxHeartbeats 400000 in
theorem stop_o (h : Own C p s c pv A w) (n : Int) (n1 : -9223372036854775808 ≤ n) (n2 : n ≤ 9223372036854775807) (hr : A.runs = true) :
    Calls Tryz.prog 21 #[ptr p, .int .i64 n] w fun e w' => e = .returned (.tuple #[]) ∧ Own C p s c pv { A with left := n } w' ∧ Turned p s pv w w' := by
  have hc3 := h.cell3
  have hf := h.free 3
  have HO := Lib.hid h
  clear h
  go_enter Tryz.func21, Tryz.ntmps21
  go_wp2_with fail
  refine (dead_no HO.out hr).mono ?_; rintro e w' ⟨rfl, rfl⟩
  go_wp2_with fail
  go_end0
  have h := HO.out
  exact ⟨rfl, h.setHead pv { A with left := n } 3 _ rfl rfl (.inl rfl) rfl h.row h.whole h.fits n1 n2, Turned.setCell _ _ _ _ _ _⟩
set_option maxHeartbeats 400000 in
theorem stop_dead (h : Own C p s c pv A w) (n : Int) (hr : A.runs = false) :
    Calls Tryz.prog 21 #[ptr p, .int .i64 n] w fun e w' => e = .returned (.tuple #[]) ∧ w = w' := by
  have HO := Lib.hid h
  clear h
  go_enter Tryz.func21, Tryz.ntmps21
  go_wp2_with fail
  refine (dead_yes HO.out hr).mono ?_; rintro e w' ⟨rfl, rfl⟩
  go_wp2_with fail
  go_end0
  exact ⟨rfl, rfl⟩
set_option maxHeartbeats 400000 in
theorem stop_nil (n : Int) (w : World) : Calls Tryz.prog 21 #[.pointer none, .int .i64 n] w fun e w' => e = .returned (.tuple #[]) ∧ w = w' := by
  go_enter Tryz.func21, Tryz.ntmps21
  go_wp2_with fail
  refine (dead_nil _).mono ?_; rintro e w' ⟨rfl, rfl⟩
  go_wp2_with fail
  go_end0
  exact ⟨rfl, rfl⟩
def synced (A : St) : St := { A with last := appl A.last A.pend, pend := [] }
set_option maxHeartbeats 400000 in
theorem sync_o (h : Own C p s c pv A w) (hr : A.runs = true) :
    Calls Tryz.prog 44 #[ptr p] w fun e w' => e = .returned (.int .i64 0) ∧ Own C p s c (.slice none 0 0) (synced A) w' ∧ Turned p s pv w w' := by
  have hc1 := h.cell1
  have hf := h.free 1
  have HO := Lib.hid h
  obtain ⟨a, cp, hpv⟩ := h.len
  have HV := Lib.hid hpv
  rw [hpv] at hc1
  clear h hpv
  go_enter Tryz.func44, Tryz.ntmps44
  go_wp2_with fail
  refine (dead_no HO.out hr).mono ?_; rintro e w' ⟨rfl, rfl⟩
  go_wp2_with fail
  go_ret
  have h := HO.out
  exact ⟨rfl, h.setHead _ (synced A) 1 _ (appl_length _ _) (by simp [synced, appl_length]) (.inr rfl) rfl (World.ownsRow_nil _ _ _ _) h.wholeNow (Fits.nil _) h.l1 h.l2, Turned.setCell _ _ _ _ _ _⟩
set_option maxHeartbeats 400000 in
theorem sync_dead (h : Own C p s c pv A w) (hr : A.runs = false) :
    Calls Tryz.prog 44 #[ptr p] w fun e w' => e = .returned (.int .i64 10) ∧ w = w' := by
  have HO := Lib.hid h
  clear h
  go_enter Tryz.func44, Tryz.ntmps44
  go_wp2_with fail
  refine (dead_yes HO.out hr).mono ?_; rintro e w' ⟨rfl, rfl⟩
  go_wp2_with fail
  go_ret
  exact ⟨rfl, rfl⟩
set_option maxHeartbeats 400000 in
theorem sync_nil (w : World) : Calls Tryz.prog 44 #[.pointer none] w fun e w' => e = .returned (.int .i64 10) ∧ w = w' := by
  go_enter Tryz.func44, Tryz.ntmps44
  go_wp2_with fail
  refine (dead_nil _).mono ?_; rintro e w' ⟨rfl, rfl⟩
  go_wp2_with fail
  go_ret
  exact ⟨rfl, rfl⟩
end Go.Proofs.YtnjggoeahaglbaaGreat.Dk

/- The contracts of New and of Read. -/
namespace Go.Proofs.YtnjggoeahaglbaaGreat.Dk
open Go.ChangeShapes Go.WideShapes Go.ChangeAt Go.RowKit
set_option linter.unusedVariables false

def str (b : BA) : ByteArray := ⟨b.toArray⟩
theorem str_size (b : BA) : (str b).size = b.length := by simp [str, ByteArray.size]
theorem str_toList (b : BA) : (str b).data.toList = b := by simp [str]
theorem str_inj {a b : BA} (h : str a = str b) : a = b := by rw [← str_toList a, h, str_toList]
theorem strOfNums_bytes (b : BA) : strOfNums (b.map fun c => (c.toNat : Int)) = str b := by
  unfold strOfNums str
  congr 1
  apply Array.ext'
  simp only [List.map_map]
  refine (List.map_congr_left (fun c _ => ?_)).trans (List.map_id _)
  simp
theorem getD_bytes (b : BA) (i : Nat) : (b.map fun c => (c.toNat : Int)).getD i 0 = ((b.getD i 0).toNat : Int) := by
  simp only [List.getD_eq_getElem?_getD, List.getElem?_map]
  cases b[i]? <;> rfl
/-- A sector's bytes as a string. -/
theorem convert_sector (w : World) (s o : Nat) (b : BA) (hb : b.length = 64) (h : w.rangeAt s o (cb b)) :
    (convert 70 9 (.slice (some ⟨s, o, none⟩) 64 64)).run Tryz.prog w = .ok (.string (str b)) w := by
  rw [← strOfNums_bytes]
  refine run_convert_bytes_arg w 70 5 Tryz.underlying70 Tryz.underlying5 s o 64 64 _ (by simp [hb]) (fun i hi => ?_) 9 Tryz.underlying9
  refine h i _ ?_
  rw [cb_get, getD_bytes, List.getD_eq_getElem?_getD, List.getElem?_eq_getElem (by omega)]
  rfl

variable {C p s c : Nat} {pv : Value} {A : St} {w : World}
set_option maxHeartbeats 400000 in
theorem read_ok (h : Own C p s c pv A w) (k : Nat) (hr : A.runs = true) (hk : k < A.last.length) :
    Calls Tryz.prog 40 #[ptr p, .int .i64 k] w fun e w' => e = .returned (.tuple #[.string (str ((appl A.last A.pend).getD k [])), .int .i64 0]) ∧ w = w' := by
  have hc0 := h.cell0
  have h2 := h.n2
  have hcv := convert_sector w s (k * 64) _ (h.lenNow hk) (h.sector hk)
  have HR := Lib.hid (refuse_ok h k hr hk)
  clear h
  generalize (appl A.last A.pend).getD k [] = b at *
  generalize A.last.length = n at *
  have k0 : (0 : Int) ≤ (k : Int) := by omega
  have k1 : (k : Int) < (n : Int) := by omega
  go_enter Tryz.func40, Tryz.ntmps40
  go_wp2_with fail
  refine HR.out.mono ?_; rintro e w' ⟨rfl, rfl⟩
  go_wp2_with fail
  go_ret2
  exact ⟨rfl, rfl⟩
set_option maxHeartbeats 400000 in
theorem read_err (q : Value) (k : Int) (e0 : Int) (w : World) (he : (e0 != 0) = true) (hR : Calls Tryz.prog 72 #[q, .int .i64 k] w fun e w' => e = .returned (.int .i64 e0) ∧ w = w') :
    Calls Tryz.prog 40 #[q, .int .i64 k] w fun e w' => e = .returned (.tuple #[.string (str []), .int .i64 e0]) ∧ w = w' := by
  have HR := Lib.hid hR
  clear hR
  go_enter Tryz.func40, Tryz.ntmps40
  go_wp2_with fail
  refine HR.out.mono ?_; rintro e w' ⟨rfl, rfl⟩
  go_wp2_with fail
  go_ret2
  exact ⟨rfl, rfl⟩
theorem read_dead (h : Own C p s c pv A w) (k : Int) (hr : A.runs = false) :
    Calls Tryz.prog 40 #[ptr p, .int .i64 k] w fun e w' => e = .returned (.tuple #[.string (str []), .int .i64 10]) ∧ w = w' := read_err _ _ _ _ rfl (refuse_dead h k hr)
theorem read_nil (k : Int) (w : World) :
    Calls Tryz.prog 40 #[.pointer none, .int .i64 k] w fun e w' => e = .returned (.tuple #[.string (str []), .int .i64 10]) ∧ w = w' := read_err _ _ _ _ rfl (refuse_nil k w)
theorem read_range (h : Own C p s c pv A w) (k : Int) (hr : A.runs = true) (hk : k < 0 ∨ (A.last.length : Int) ≤ k) :
    Calls Tryz.prog 40 #[ptr p, .int .i64 k] w fun e w' => e = .returned (.tuple #[.string (str []), .int .i64 12]) ∧ w = w' := read_err _ _ _ _ rfl (refuse_range h k hr hk)

/-! New. -/
def zeroS : BA := List.replicate 64 0
def blank (n : Nat) : St := ⟨List.replicate n zeroS, [], true, -1⟩
theorem infoSec : (Tryz.prog.info? 101).map (fun i => (i.zero, i.size, i.bytes)) = some (some (.agg (Array.replicate 64 (.int .u8 0))), 64, 64) := by kernel_rfl
abbrev secRow (n : Nat) : Obj := .cells (madeCells (Array.replicate 64 (.int .u8 0)) (n * 64)) 101
abbrev headRow (s n : Nat) : Obj := .cells #[.slice (some ⟨s, 0, none⟩) n n, .slice none 0 0, .bool true, .int .i64 (-1)] 78
theorem made_get (n j : Nat) (h : j < n * 64) : (madeCells (Array.replicate 64 (.int .u8 0)) (n * 64))[j]? = some (.int .u8 0) := by
  simp only [madeCells, Array.getElem?_map, Array.size_replicate]
  rw [Array.getElem?_eq_getElem (by simpa using h)]
  have : j % 64 < 64 := Nat.mod_lt _ (by omega)
  simp [getElem!_def, this]
theorem Own.fresh (w : World) (n : Nat) (h1 : 1 ≤ n) (h2 : n ≤ 10000) :
    Own w.heap.size (w.heap.size + 1) w.heap.size n (.slice none 0 0) (blank n) ((w.alloc (secRow n)).alloc (headRow w.heap.size n)) := by
  have e1 := heap_alloc_new (w.alloc (secRow n)) (headRow w.heap.size n)
  rw [World.size_alloc] at e1
  have e2 := Below.heap_alloc (w.alloc (secRow n)) (headRow w.heap.size n) w.heap.size (by simp)
  rw [heap_alloc_new] at e2
  refine ⟨by omega, Nat.le_refl _, by omega, by simp [Value.ownBlock], by simp [Value.ownBlock], ?_, ⟨_, e2, ?_, ?_⟩, World.ownsRow_nil _ _ _ _, ?_, Fits.nil _, ?_, ?_, ?_, ?_, by simp [blank], by simp [blank]⟩
  · rw [e1]; simp [blank]
  · simp [blank, madeCells]
  · intro k hk j v hv
    simp only [blank, List.length_replicate, appl_nil] at hk hv
    have hj := (List.getElem?_eq_some_iff.1 hv).1
    rw [cb_length, List.getD_eq_getElem?_getD, List.getElem?_replicate, if_pos hk] at hj
    rw [cb_get, List.getD_eq_getElem?_getD, List.getElem?_replicate, if_pos hk] at hv
    simp only [Option.getD_some, zeroS, List.length_replicate, List.getElem?_replicate] at hj hv
    rw [if_pos hj] at hv
    rw [made_get n _ (by have : k * 64 + 64 ≤ n * 64 := by omega
                         omega)]
    exact hv
  · intro b hb; simp [blank] at hb; rw [hb.2]; simp [zeroS]
  · simp [blank]; exact h1
  · simp [blank]; exact h2
  · simp [blank]
  · simp [maxLen]; omega
set_option maxHeartbeats 400000 in
theorem new_ok (n : Nat) (h1 : 1 ≤ n) (h2 : n ≤ 10000) (w : World) :
    Calls Tryz.prog 12 #[.int .i64 n] w fun e w' => e = .returned (ptr (w.heap.size + 1)) ∧ w' = (w.alloc (secRow n)).alloc (headRow w.heap.size n) := by
  obtain ⟨i0, hi, hz0, hz1, hz2⟩ := info_parts infoSec
  have hmk := fun w : World => run_make (P := Tryz.prog) w 75 101 i0 _ Tryz.underlying75 hi hz0 .i64 .i64 (n : Int) (n : Int) (by omega) (Int.le_refl _) (by rw [hz2]; omega) (by omega)
  rw [hz1] at hmk
  simp only [Int.toNat_natCast, Value.cells] at hmk
  clear hi hz0 hz1 hz2
  obtain ⟨row, hrow⟩ : ∃ row, row = madeCells (Array.replicate 64 (.int .u8 0)) (n * 64) := ⟨_, rfl⟩
  rw [← hrow] at hmk
  have HR := Lib.hid hrow
  clear hrow
  have k0 : ¬ (n : Int) < 1 := by omega
  have k1 : ¬ (10000 : Int) < (n : Int) := by omega
  go_enter Tryz.func12, Tryz.ntmps12
  go_wp2_with fail
  go_ret
  exact ⟨rfl, by rw [HR.out]⟩
set_option maxHeartbeats 400000 in
theorem new_no (n : Int) (h : n < 1 ∨ 10000 < n) (w : World) :
    Calls Tryz.prog 12 #[.int .i64 n] w fun e w' => e = .returned (.pointer none) ∧ w = w' := by
  by_cases k0 : n < 1
  · clear h
    go_enter Tryz.func12, Tryz.ntmps12
    go_wp2_with fail
    go_ret
    exact ⟨rfl, rfl⟩
  · have k1 : 10000 < n := by omega
    clear h
    go_enter Tryz.func12, Tryz.ntmps12
    go_wp2_with fail
    go_ret
    exact ⟨rfl, rfl⟩
end Go.Proofs.YtnjggoeahaglbaaGreat.Dk

/- A pending write is built of its three parts; its parts read out of it. -/
namespace Go.Proofs.YtnjggoeahaglbaaGreat.Dk
open Go.ChangeShapes Go.WideShapes Go.ChangeAt Go.RowKit
set_option linter.unusedVariables false

def zeroW : Array Value := (.int .i64 0 :: List.replicate 128 (.int .u8 0)).toArray
theorem built_wr (parts : List (Nat × Value)) : Tryz.prog.built 103 parts = Instr.fill ((#[(0, 1), (1, 64), (65, 64)] : Array (Nat × Nat))[·]?) zeroW parts := by kernel_rfl
/-- Values stored one behind the other. -/
theorem laid_get (off : Nat) : ∀ (cs : List Value) (k : Nat) (a : Array Value), off + k + cs.length ≤ a.size → ∀ i,
    ((cs.zipIdx k).foldl (fun a x => a.setIfInBounds (off + x.2) x.1) a)[i]? = if off + k ≤ i ∧ i < off + k + cs.length then cs[i - (off + k)]? else a[i]?
  | [], k, a, _, i => by simp; intro h1 h2; omega
  | c :: cs, k, a, h, i => by
    simp only [List.length_cons] at h
    rw [List.zipIdx_cons, List.foldl_cons, laid_get off cs (k + 1) _ (by simp; omega) i]
    by_cases h1 : off + (k + 1) ≤ i ∧ i < off + (k + 1) + cs.length
    · rw [if_pos h1, if_pos (by simp only [List.length_cons]; omega), show i - (off + k) = i - (off + (k + 1)) + 1 by omega, List.getElem?_cons_succ]
    · rw [if_neg h1, Array.getElem?_setIfInBounds]
      by_cases h2 : off + k = i
      · rw [if_pos h2, if_pos (by omega), if_pos (by simp only [List.length_cons]; omega), show i - (off + k) = 0 by omega]; rfl
      · rw [if_neg h2, if_neg (by simp only [List.length_cons]; omega)]
theorem laid_size (off : Nat) : ∀ (cs : List Value) (k : Nat) (a : Array Value), ((cs.zipIdx k).foldl (fun a x => a.setIfInBounds (off + x.2) x.1) a).size = a.size
  | [], _, _ => rfl
  | c :: cs, k, a => by rw [List.zipIdx_cons, List.foldl_cons, laid_size off cs]; simp
theorem fill_one (place : Nat → Option (Nat × Nat)) (a : Array Value) (i : Nat) (v : Value) (rest : List (Nat × Value)) (off size : Nat) (hp : place i = some (off, size)) (hs : v.cells.size = size) (hf : off + size ≤ a.size) :
    Instr.fill place a ((i, v) :: rest) = Instr.fill place ((v.cells.toList.zipIdx 0).foldl (fun a x => a.setIfInBounds (off + x.2) x.1) a) rest := by
  rw [Instr.fill, hp]
  simp only
  rw [if_neg (by simp [hs]; omega)]
  congr 1
  rw [← Array.foldl_toList, Array.toList_zipIdx]
theorem run_build_wr (w : World) (k : Int) (o n : List Value) (ho : o.length = 64) (hn : n.length = 64) :
    (Instr.build 103 #[(0, .int .i64 k), (1, .agg o.toArray), (2, .agg n.toArray)]).run Tryz.prog w = .ok (.agg (.int .i64 k :: (o ++ n)).toArray) w := by
  refine run_build w 103 _ _ ?_
  rw [built_wr]
  have hz : zeroW.size = 129 := by simp [zeroW]
  rw [fill_one _ _ _ _ _ 0 1 rfl rfl (by rw [hz]; omega), fill_one _ _ _ _ _ 1 64 rfl (by simp [Value.cells, ho]) (by rw [laid_size, hz]; omega), fill_one _ _ _ _ _ 65 64 rfl (by simp [Value.cells, hn]) (by rw [laid_size, laid_size, hz]; omega)]
  rw [Instr.fill]
  congr 1
  apply Array.ext_getElem?
  intro i
  simp only [Value.cells, List.toList_toArray]
  rw [laid_get _ _ _ _ (by rw [laid_size, laid_size, hz, hn]; omega), laid_get _ _ _ _ (by rw [laid_size, hz, ho]; omega), laid_get _ _ _ _ (by rw [hz]; simp)]
  simp only [ho, hn, Nat.add_zero, List.length_singleton, Nat.zero_add, Nat.sub_zero, List.getElem?_toArray]
  by_cases h1 : i = 0
  · subst h1; simp
  · obtain ⟨j, rfl⟩ : ∃ j, i = j + 1 := ⟨i - 1, by omega⟩
    rw [show (Value.int .i64 k :: (o ++ n))[j + 1]? = (o ++ n)[j]? from List.getElem?_cons_succ]
    by_cases h2 : j < 64
    · rw [if_neg (by omega), if_pos (by omega), List.getElem?_append_left (by omega)]; rfl
    · rw [List.getElem?_append_right (by omega), ho]
      by_cases h3 : j < 128
      · rw [if_pos (by omega), show j + 1 - 65 = j - 64 by omega]
      · rw [if_neg (by omega), if_neg (by omega), if_neg (by omega), List.getElem?_eq_none (by omega)]
        simp [zeroW]; omega
theorem size_sec : (Tryz.prog.info? 101).map (·.size) = some 64 := by kernel_rfl
theorem size_wr : (Tryz.prog.info? 103).map (·.size) = some 129 := by kernel_rfl
theorem info_wr : (Tryz.prog.info? 103).map (fun i => (i.zero, i.size, i.bytes)) = some (some (.agg zeroW), 129, 136) := by kernel_rfl
theorem zero_wr (w : World) : (zeroValue 103).run Tryz.prog w = .ok (.agg zeroW) w := (zero_of_info (P := Tryz.prog) (t := 103) (v := .agg zeroW) (n := 129) (by kernel_rfl)).1 w
/-- What []byte(b) lays. -/
def cObj (w : World) (b : BA) : Obj := .cells (bytesRow (str b) (grownCap w 64 0 5)) 5 ((bytesRow (str b) (grownCap w 64 0 5)).size, (bytesRow (str b) (grownCap w 64 0 5)).size + 1)
def cCap (w : World) : Nat := grownCap w 64 0 5
theorem convert_bytes (w : World) (b : BA) (hb : b.length = 64) : (convert 9 70 (.string (str b))).run Tryz.prog w = .ok (.slice (some ⟨w.heap.size, 0, none⟩) 64 (cCap w)) (w.drew.alloc (cObj w b)) := by
  have := run_bytes_of_string (P := Tryz.prog) w 9 70 5 (str b) Tryz.underlying9 Tryz.underlying70 Tryz.underlying5
  rw [str_size, hb] at this
  exact this
theorem bytesRow_get (b : BA) (cap j : Nat) (v : Value) (h : (cb b)[j]? = some v) : (bytesRow (str b) cap)[j]? = some v := by
  have hj : j < b.length := by have := (List.getElem?_eq_some_iff.1 h).1; rwa [cb_length] at this
  unfold bytesRow
  rw [Array.getElem?_append_left (by simp [str, hj])]
  rw [cb_get] at h
  simp only [Array.getElem?_map, str, List.getElem?_toArray]
  exact h
theorem converted_in {W : World} {g : Nat} {b : BA} {w : World} (h : W.heap[g]? = some (cObj w b)) : W.rangeAt g 0 (cb b) := fun j v hv => by
  rw [cell_of_row W g _ _ _ _ h, Nat.zero_add]
  exact bytesRow_get b _ j v hv
end Go.Proofs.YtnjggoeahaglbaaGreat.Dk

/- What Write leaves, out of the memory's steps: its box, the sector, the pending row, the head. -/
namespace Go.Proofs.YtnjggoeahaglbaaGreat.Dk
open Go.RowKit
set_option linter.unusedVariables false
variable {C p s c : Nat} {pv : Value} {A : St} {w : World}
def wrote (A : St) (k : Nat) (b : BA) : St := { A with pend := A.pend ++ [(k, b)], left := if 0 < A.left then A.left - 1 else A.left }

theorem setCells_block (g : Nat) : ∀ (vs : List Value) (o : Nat) (w : World) (k : Nat), k ≠ g → (w.setCells g o vs).heap[k]? = w.heap[k]?
  | [], _, _, _, _ => rfl
  | v :: vs, o, w, k, h => by rw [World.setCells, setCells_block g vs (o + 1) _ k h, heap_setCell_other _ _ _ _ h]
theorem setCells_size (g : Nat) : ∀ (vs : List Value) (o : Nat) (w : World), (w.setCells g o vs).heap.size = w.heap.size
  | [], _, _ => rfl
  | v :: vs, o, w => by rw [World.setCells, setCells_size g vs]; simp [World.setCell]
theorem setCells_os (g : Nat) : ∀ (vs : List Value) (o : Nat) (w : World), (w.setCells g o vs).os = w.os ∧ (w.setCells g o vs).tape = w.tape ∧ (w.setCells g o vs).output = w.output
  | [], _, _ => ⟨rfl, rfl, rfl⟩
  | v :: vs, o, w => by rw [World.setCells]; exact setCells_os g vs (o + 1) _
theorem Below.setCells {B : Nat} {a w : World} (h : Below B a w) {g : Nat} (hg : B ≤ g) (o : Nat) (vs : List Value) : Below B a (w.setCells g o vs) :=
  h.trans ⟨(setCells_os g vs o w).1, (setCells_os g vs o w).2.1, (setCells_os g vs o w).2.2, by rw [setCells_size]; exact Nat.le_refl _, fun k hk => setCells_block g vs o w k (by omega)⟩
/-- Cells stored into a block: what it holds then. -/
theorem setCells_heap (g : Nat) (t : TypeId) : ∀ (vs : List Value) (o : Nat) (w : World) (cur : Array Value), w.heap[g]? = some (.cells cur t (0, 0)) → o + vs.length ≤ cur.size →
    ∃ cur', (w.setCells g o vs).heap[g]? = some (.cells cur' t (0, 0)) ∧ cur'.size = cur.size ∧ ∀ i, cur'[i]? = if o ≤ i ∧ i < o + vs.length then vs[i - o]? else cur[i]?
  | [], o, w, cur, h, hs => ⟨cur, h, rfl, fun i => by rw [if_neg]; simp⟩
  | v :: vs, o, w, cur, h, hs => by
    simp only [List.length_cons] at hs
    obtain ⟨cur', h1, h2, h3⟩ := setCells_heap g t vs (o + 1) _ _ (heap_setCell_same w g o cur t v h) (by simp; omega)
    refine ⟨cur', h1, by rw [h2]; simp, fun i => ?_⟩
    rw [h3 i]
    by_cases e1 : o + 1 ≤ i ∧ i < o + 1 + vs.length
    · rw [if_pos e1, if_pos (by simp only [List.length_cons]; omega), show i - o = i - (o + 1) + 1 by omega, List.getElem?_cons_succ]
    · rw [if_neg e1, Array.getElem?_setIfInBounds]
      by_cases e2 : o = i
      · rw [if_pos e2, if_pos (by omega), if_pos (by simp only [List.length_cons]; omega), show i - o = 0 by omega]; rfl
      · rw [if_neg e2, if_neg (by simp only [List.length_cons]; omega)]
/-- A sector is stored. -/
theorem secs_stored {n : Nat} {L : List BA} {w W : World} {k : Nat} {b : BA} (hL : L.length = n) (hW : Whole L) (hk : k < n) (hb : b.length = 64)
    (h : ∃ cur, w.heap[s]? = some (.cells cur 101 (0, 0)) ∧ n * 64 ≤ cur.size ∧ ∀ i, i < n → ∀ j v, (cb (L.getD i []))[j]? = some v → cur[i * 64 + j]? = some v)
    (hw : W.heap[s]? = (w.setCells s (k * 64) (cb b)).heap[s]?) :
    ∃ cur, W.heap[s]? = some (.cells cur 101 (0, 0)) ∧ n * 64 ≤ cur.size ∧ ∀ i, i < n → ∀ j v, (cb ((L.set k b).getD i []))[j]? = some v → cur[i * 64 + j]? = some v := by
  obtain ⟨cur, h1, h2, h3⟩ := h
  obtain ⟨cur', g1, g2, g3⟩ := setCells_heap s 101 (cb b) (k * 64) w cur h1 (by rw [cb_length, hb]; omega)
  refine ⟨cur', hw.trans g1, by omega, fun i hi j v hv => ?_⟩
  have hj := (List.getElem?_eq_some_iff.1 hv).1
  rw [g3, cb_length, hb]
  by_cases e : k = i
  · subst e
    rw [List.getD_eq_getElem?_getD, List.getElem?_set_self (by omega)] at hv hj
    simp only [Option.getD_some, cb_length, hb] at hv hj
    rw [if_pos (by omega), show k * 64 + j - k * 64 = j by omega]
    exact hv
  · rw [List.getD_eq_getElem?_getD, List.getElem?_set_ne e, ← List.getD_eq_getElem?_getD] at hv hj
    rw [cb_length, hW.getD (by omega)] at hj
    rw [if_neg (by
      rcases Nat.lt_or_gt_of_ne e with h' | h'
      · have : k * 64 + 64 ≤ i * 64 := by omega
        omega
      · have : i * 64 + 64 ≤ k * 64 := by omega
        omega)]
    exact h3 i hi j v hv
theorem Own.wroteRow (h : Own C p s c pv A w) {k : Nat} {b : BA} (hk : k < A.last.length) (hb : b.length = 64) {wx W W' : World} {pv' : Value} {o : Obj} (hx : Below w.heap.size w wx)
    (hg : ((wx.drew.setCells s (k * 64) (cb b)).drew.alloc o).grownBy W pv.ownBlock) (hC : ∀ q, pv'.ownBlock = some q → pv.ownBlock = some q ∨ w.heap.size ≤ q)
    (hrow : W.ownsRow C 103 129 pv' (A.pend.length + 1) (pcells A.last A.pend ++ wcs k ((appl A.last A.pend).getD k []) b)) (hW : W' = W.setCell ⟨p, 1, none⟩ pv') :
    Own C p s c pv' { A with pend := A.pend ++ [(k, b)] } W' ∧ Turned p s pv w W' := by
  subst hW
  have hps := h.ps
  have hp := h.lt
  have hs := h.lts
  have hsx := hx.size
  have hb1 : ∀ q, q < w.heap.size → q ≠ s → pv.ownBlock ≠ some q → W.heap[q]? = w.heap[q]? := fun q h1 h2 h3 => by
    rw [hg.block q (by simp [setCells_size]; omega) (fun e => h3 e.symm), Below.heap_alloc _ _ _ (by simp [setCells_size]; omega)]
    rw [show (wx.drew.setCells s (k * 64) (cb b)).drew.heap = (wx.drew.setCells s (k * 64) (cb b)).heap from rfl, setCells_block _ _ _ _ _ h2]
    exact hx.block q h1
  have hbs : W.heap[s]? = (wx.drew.setCells s (k * 64) (cb b)).heap[s]? := by
    rw [hg.block s (by simp [setCells_size]; omega) (fun e => h.vs e.symm), Below.heap_alloc _ _ _ (by simp [setCells_size]; omega)]
    rfl
  have hvp : pv'.ownBlock ≠ some p := fun e => by
    rcases hC p e with h1 | h1
    · exact h.vp h1
    · omega
  have hvs : pv'.ownBlock ≠ some s := fun e => by
    rcases hC s e with h1 | h1
    · exact h.vs h1
    · omega
  have hhead : W.heap[p]? = _ := (hb1 p hp hps h.vp).trans h.head
  refine ⟨⟨h.hp, h.hs, h.ps, hvp, hvs, ?_, ?_, ?_, h.whole, h.fits.snoc hk hb, h.n1, h.n2, h.c1, h.c2, h.l1, h.l2⟩, ?_⟩
  · rw [heap_setCell_same _ _ _ _ _ _ hhead]; rfl
  · rw [heap_setCell_other _ _ _ _ (by show s ≠ p; omega)]
    simp only [appl_snoc]
    refine secs_stored (w := wx.drew) (appl_length _ _) h.wholeNow hk hb ?_ hbs
    obtain ⟨cur, h1, h2⟩ := h.secs
    exact ⟨cur, (hx.block s hs).trans h1, h2⟩
  · refine ⟨by rw [pcells_snoc]; have := hrow.1; simp only [List.length_append, List.length_singleton] at this ⊢; exact this, ?_⟩
    rcases hrow.2 with ⟨h1, h2⟩ | ⟨g, cap, cur, h1, h2, h3, h4⟩
    · omega
    · refine .inr ⟨g, cap, cur, by simpa using h1, h2, ?_, by simpa [pcells_snoc] using h4⟩
      rw [heap_setCell_other _ _ _ _ (by show g ≠ p; rintro rfl; exact hvp (by rw [h1]; rfl))]
      exact h3
  · refine ⟨?_, ?_, ?_, ?_, fun q h1 h2 h3 h4 => ?_⟩
    · exact hg.os.trans (((setCells_os s (cb b) (k * 64) wx.drew).1).trans hx.os)
    · exact hg.tape.trans (((setCells_os s (cb b) (k * 64) wx.drew).2.1).trans hx.tape)
    · exact hg.output.trans (((setCells_os s (cb b) (k * 64) wx.drew).2.2).trans hx.output)
    · have := hg.size
      simp [setCells_size] at this
      simp [World.setCell]; omega
    · rw [heap_setCell_other _ _ _ _ h2]
      exact hb1 q h1 h3 h4
end Go.Proofs.YtnjggoeahaglbaaGreat.Dk

/- The contract of Write. -/
namespace Go.Proofs.YtnjggoeahaglbaaGreat.Dk
open Go.ChangeShapes Go.WideShapes Go.ChangeAt Go.RowKit
set_option linter.unusedVariables false
set_option linter.unusedSimpArgs false
variable {C p s c : Nat} {pv : Value} {A : St} {w : World}
theorem cell_alloc_keep {w : World} {a : Addr} {v : Value} (h : w.cell? a = some v) (ob : Obj) : (w.alloc ob).cell? a = some v := by
  rw [World.cell?_alloc_lt _ _ _ (World.block_lt_of_cell? w _ h)]; exact h
theorem cell_setCells_keep {w : World} {a : Addr} {v : Value} (h : w.cell? a = some v) (g o : Nat) (vs : List Value) (hg : a.block ≠ g) : (w.setCells g o vs).cell? a = some v := by
  rw [World.cell?_setCells_out g vs o w a (fun e _ => absurd e hg)]; exact h
abbrev boxW : Obj := .cells zeroW 103
/-- What is kept may be named anew, and more of it. -/
theorem wpAnyH_mono {P : Program} {md : Region.Mode} {ops : Array Oper} {Q : Exit → Act → World → Prop} {S S' : World → Prop} (hS : ∀ w, S' w → S w) : ∀ {fuel : Nat} {listed : Array Bool} {a : Act} {w : World}, wpAnyH P md ops Q S' fuel listed a w → wpAnyH P md ops Q S fuel listed a w
  | 0, _, _, _, h => h
  | fuel + 1, _, _, _, h => ⟨h.1, fun i hi => wpOp_mono (fun a' w' h' => ⟨hS _ h'.1, wpAnyH_mono hS h'.2⟩) (h.2 i hi)⟩
/-- A whole block is stored over. -/
theorem setCells_whole (g : Nat) (t : TypeId) : ∀ (vs pre : List Value) (old : List Value) (w : World), old.length = vs.length → w.heap[g]? = some (.cells (pre ++ old).toArray t (0, 0)) →
    (w.setCells g pre.length vs).heap[g]? = some (.cells (pre ++ vs).toArray t (0, 0))
  | [], pre, old, w, hl, h => by
    obtain rfl : old = [] := List.eq_nil_of_length_eq_zero (by simpa using hl)
    exact h
  | v :: vs, pre, [], w, hl, h => by simp at hl
  | v :: vs, pre, u :: old, w, hl, h => by
    rw [World.setCells]
    have h1 := heap_setCell_same w g pre.length _ t v h
    have e : ((pre ++ u :: old).toArray.setIfInBounds pre.length v) = ((pre ++ [v]) ++ old).toArray := by simp
    rw [e] at h1
    have := setCells_whole g t vs (pre ++ [v]) old _ (by simpa using hl) h1
    simpa using this
theorem box_out {w : World} {g : Nat} {vs : List Value} (h : w.heap[g]? = some boxW) (hl : vs.length = 129) (hz : zeroW.size = 129) : (w.setCells g 0 vs).heap[g]? = some (.cells vs.toArray 103 (0, 0)) := by
  have := setCells_whole g 103 vs [] zeroW.toList w (by simp [hz, hl]) (by simpa using h)
  simpa using this
theorem below_out1 (w : World) (b : BA) (vs : List Value) : Below w.heap.size w (((w.alloc (cObj w.drew b)).alloc boxW).drew.drew.setCells (w.heap.size + 1) 0 vs) :=
  Below.setCells (((((Below.refl _ w).alloc (Nat.le_refl _) _).alloc (by simp) _).drew).drew) (by omega) _ _
theorem below_out2 (w : World) (b : BA) (vs : List Value) : Below w.heap.size w (((w.alloc boxW).alloc (cObj (w.alloc boxW).drew b)).drew.drew.setCells w.heap.size 0 vs) :=
  Below.setCells (((((Below.refl _ w).alloc (Nat.le_refl _) _).alloc (by simp) _).drew).drew) (Nat.le_refl _) _ _
theorem run_next {P : Program} {m : Sem Value} {v : Value} {w w' : World} (h : m.run P w = .ok v w') : (do pure (Next.value (← m)) : Sem Next).run P w = .ok (.value v) w' := by rw [Sem.run_bind, h]; rfl
theorem conv_in1 (w : World) (b : BA) : (w.alloc (cObj w.drew b)).drew.drew.rangeAt w.heap.size 0 (cb b) := by
  rw [World.rangeAt_drew, World.rangeAt_drew]
  exact converted_in (heap_alloc_new w _)
theorem conv_in2 (w : World) (b : BA) : ((w.alloc (cObj w.drew b)).alloc boxW).drew.drew.rangeAt w.heap.size 0 (cb b) := by
  rw [World.rangeAt_drew, World.rangeAt_drew]
  exact World.rangeAt_alloc (converted_in (heap_alloc_new w _)) _
theorem conv_in3 (w : World) (b : BA) : ((w.alloc boxW).alloc (cObj (w.alloc boxW).drew b)).drew.drew.rangeAt (w.heap.size + 1) 0 (cb b) := by
  rw [World.rangeAt_drew, World.rangeAt_drew]
  have := heap_alloc_new (w.alloc boxW) (cObj (w.alloc boxW).drew b)
  rw [World.size_alloc] at this
  exact converted_in this
theorem box_at1 (w : World) (b : BA) : ((w.alloc (cObj w.drew b)).alloc boxW).drew.drew.heap[w.heap.size + 1]? = some boxW := by
  have := heap_alloc_new (w.alloc (cObj w.drew b)) boxW
  rw [World.size_alloc] at this
  exact this
theorem box_at2 (w : World) (b : BA) : ((w.alloc boxW).alloc (cObj (w.alloc boxW).drew b)).drew.drew.heap[w.heap.size]? = some boxW :=
  (Below.heap_alloc _ _ _ (by simp)).trans (heap_alloc_new w boxW)
theorem there_row {w : World} {g : Nat} {cs : Array Value} {t : TypeId} (h : w.heap[g]? = some (.cells cs t (0, 0))) : w.there g 0 cs.size := fun j hj =>
  ⟨by rw [cell_of_row w g _ _ _ _ h, Nat.zero_add, Array.getElem?_eq_getElem hj]; rfl, frozen_of_row w g _ _ _ h⟩
theorem zeroW_size : zeroW.size = 129 := by simp [zeroW]
theorem box_in1 (w : World) (b : BA) : ((w.alloc (cObj w.drew b)).alloc boxW).drew.drew.there (w.heap.size + 1) 0 129 := by
  rw [World.there_drew, World.there_drew, ← zeroW_size]
  have := heap_alloc_new (w.alloc (cObj w.drew b)) boxW
  rw [World.size_alloc] at this
  exact there_row this
theorem box_in2 (w : World) (b : BA) : ((w.alloc boxW).alloc (cObj (w.alloc boxW).drew b)).drew.drew.there w.heap.size 0 129 := by
  rw [World.there_drew, World.there_drew, ← zeroW_size]
  exact World.there_alloc (there_row (heap_alloc_new w boxW)) _
theorem run_bs (w : World) (cs : List Value) (hl : cs.length = 129) : (Instr.buildSlice 76 1 #[(0, .agg cs.toArray)]).run Tryz.prog w = .ok (.slice (some ⟨w.heap.size, 0, none⟩) 1 1) (w.alloc (.cells cs.toArray 103)) := by
  have hf : ∀ (Z : Array Value) (m : Nat), Instr.fill (fun i => some (i * 129, 129)) ((Array.range 129).map (Z[· % m]!)) [(0, .agg cs.toArray)] = some cs.toArray := fun Z m => by
    rw [fill_one _ _ _ _ _ 0 129 rfl (by simp [Value.cells, hl]) (by simp), Instr.fill]
    congr 1
    apply Array.ext_getElem?
    intro i
    simp only [Value.cells, List.toList_toArray]
    rw [laid_get _ _ _ _ (by simp [hl])]
    simp only [hl, Nat.add_zero, Nat.zero_add, Nat.sub_zero, List.getElem?_toArray]
    by_cases h1 : i < 129
    · rw [if_pos ⟨Nat.zero_le _, h1⟩]
    · rw [if_neg (by omega), List.getElem?_eq_none (by omega)]
      simp; omega
  have hs : (sizeOf 103).run Tryz.prog w = .ok 129 w := by
    have := size_wr
    cases hq : Tryz.prog.info? 103 with
    | none => simp [hq] at this
    | some i => simp [hq] at this; simp [sizeOf, typeInfo, hq, this]
  have h1 : (129 : Nat) ≤ 2 ^ 24 := by decide
  have e : (Instr.buildSlice 76 1 #[(0, .agg cs.toArray)]).run Tryz.prog w = (do
      let .slice elem ← underlying 76 | stuck "buildSlice: slice type expected"
      let size ← sizeOf elem
      if 1 * size > 2 ^ 24 then unsupported (.resourceLimit "buildSlice: more than 2^24 cells")
      let zero ← if 1 * size = 0 then pure #[] else do pure (← zeroValue elem).cells
      let some cells := Instr.fill (fun i => some (i * size, size)) ((Array.range (1 * size)).map (zero[· % zero.size]!)) [(0, .agg cs.toArray)]
        | stuck "buildSlice: a part of the wrong size"
      pure (.slice (some (← newRow elem cells)) 1 1) : Sem Value).run Tryz.prog w := rfl
  rw [e]
  simp [Sem.run_bind, run_underlying Tryz.underlying76, hs, zero_wr, hf, Value.cells, newRow]
theorem wp_val {P : Program} {o : Oper} {a : Act} {w w' : World} {v : Value} {K : Act → World → Prop} {Q : Exit → Act → World → Prop} (h : (execOp a.eval o).run P w = .ok (.value v) w') (hk : K (a.put o.dst v) w') : o.wp P a w K Q := by
  unfold Oper.wp; rw [h]; exact hk
theorem own_slice {w : World} {C e sz n : Nat} {v : Value} {xs : List Value} (h : w.ownsRow C e sz v n xs) : ∃ a cp, v = .slice a n cp := by
  rcases h.2 with ⟨h1, h2⟩ | ⟨g, cap, cur, h1, _⟩
  · exact ⟨_, _, by rw [h1, h2]⟩
  · exact ⟨_, _, h1⟩
theorem range_mid {w : World} {g : Nat} {k : Int} {co cn : List Value} {t : TypeId} (h : w.heap[g]? = some (.cells (.int .i64 k :: (co ++ cn)).toArray t (0, 0))) (hl : co.length = 64) : w.rangeAt g 65 cn := fun j v hv => by
  rw [cell_of_row w g _ _ _ _ h, List.getElem?_toArray, show 65 + j = (64 + j) + 1 by omega, List.getElem?_cons_succ, List.getElem?_append_right (by omega), hl, show 64 + j - 64 = j by omega]
  exact hv
theorem range_all {w : World} {g : Nat} {cs : List Value} {t : TypeId} (h : w.heap[g]? = some (.cells cs.toArray t (0, 0))) : w.rangeAt g 0 cs := fun j v hv => by
  rw [cell_of_row w g _ _ _ _ h, List.getElem?_toArray, Nat.zero_add]; exact hv
theorem new_cells (w : World) (cs : List Value) {t : TypeId} {h : Nat} (e : h = w.heap.size := by rfl) : ∀ j u, cs[j]? = some u → (w.alloc (.cells cs.toArray t)).cell? ((⟨h, 0, none⟩ : Addr).add j) = some u := fun j u hu => by
  subst e
  rw [Addr.add_mid, Nat.zero_add, cell_of_row _ _ _ _ _ _ (heap_alloc_new w _), List.getElem?_toArray]; exact hu
theorem range_grown {w w' : World} {row : Option Nat} {g o : Nat} {cs : List Value} (hg : w.grownBy w' row) (h : w.rangeAt g o cs) (hn : row ≠ some g) : w'.rangeAt g o cs := fun j v hv => hg.cell (h j v hv) (fun e => hn e.symm)
theorem cell_grown {w w' : World} {row : Option Nat} {a : Addr} {v : Value} (hg : w.grownBy w' row) (h : w.cell? a = some v) (hn : row ≠ some a.block) : w'.cell? a = some v := hg.cell h (fun e => hn e.symm)
theorem free_grown {w0 w w' : World} {row : Option Nat} {p o : Nat} {ob : Obj} (hg : (w.drew.alloc ob).grownBy w' row) (h : w.heap[p]? = w0.heap[p]?) (hp : p < w0.heap.size) (hs : w0.heap.size ≤ w.heap.size) (hf : w0.frozen? ⟨p, o, none⟩ = false) (hn : row ≠ some p) : w'.frozen? ⟨p, o, none⟩ = false := by
  rw [World.frozen?_of_block (w := w0) (a := ⟨p, o, none⟩) ?_]
  · exact hf
  · show w'.heap[p]? = _
    rw [hg.block p (by simp; omega) (fun e => hn e.symm), Below.heap_alloc _ _ _ (by show p < w.heap.size; omega)]
    exact h
theorem range_setCell {w : World} {g o : Nat} {cs : List Value} (h : w.rangeAt g o cs) {a : Addr} {u : Value} (hn : a.block ≠ g) : (w.setCell a u).rangeAt g o cs := fun j v hv => by
  rw [World.cell?_of_block (w := w) (a := ⟨g, o + j, none⟩) (Below.heap_setCell _ _ _ _ (fun e => hn e.symm))]
  exact h j v hv
theorem wp_append_at {P : Program} (w : World) {o : Oper} {a : Act} {K : Act → World → Prop} {Q : Exit → Act → World → Prop} (s x : Operand) (t : TypeId) (ho : o.op = .call { callee := .builtin .append, args := #[s, x], argTypes := #[t, t] })
    (base : Nat) (e : TypeId) (i : TypeInfo) (z : Value) (size bytes : Nat) (ht : P.underlying t = some (.slice e)) (hi : P.info? e = some i) (hz : i.zero = some z)
    (hsize : i.size = size) (hby : i.bytes = bytes) (hzs : z.cells.size = size) (hsz : 0 < size)
    (v : Value) (n : Nat) (xs : List Value) (hs : a.eval s = v) (hown : w.ownsRow base e size v n xs)
    (ad : Addr) (m c : Nat) (news : List Value) (hx : a.eval x = .slice (some ad) m c) (hl : news.length = m * size) (hnews : ∀ j u, news[j]? = some u → w.cell? (ad.add j) = some u) (h1 : ∀ u ∈ news, u.oneCell' = true)
    (h63 : n + m ≤ maxLen) (hbytes : (n + m) * bytes ≤ 140737488355328) (hbase : base ≤ w.heap.size)
    (h : ∀ v' w', w'.ownsRow base e size v' (n + m) (xs ++ news) → w.grownBy w' v.ownBlock → (v'.ownBlock = v.ownBlock ∨ v'.ownBlock = some w.heap.size) → K (a.put o.dst v') w') : o.wp P a w K Q := by
  obtain ⟨v', w', r1, r2, r3, _, r5⟩ := run_append_own_at (P := P) w base t o.type e i z size bytes ht hi hz hsize hby hzs hsz v n xs hown ad m c news hl hnews h1 h63 hbytes hbase
  unfold Oper.wp execOp
  simp only [ho, resolve, invoke, builtin, Sem.run_bind, Sem.run_pure, Result.andThen_ok, List.map_toArray, List.map_cons, List.map_nil, hs, hx, r1]
  exact h v' w' r2 r3 r5
/-- One write more is pending. -/
def Adds (C p s c : Nat) (pv : Value) (A : St) (k : Nat) (b : BA) (w w' : World) : Prop := Did C p s c pv { A with pend := A.pend ++ [(k, b)] } w w'
theorem did_wrote (h : Own C p s c pv A w) {k : Nat} {b : BA} (hk : k < A.last.length) (hb : b.length = 64) {wx W W4 W' : World} {pv' : Value} {o : Obj} {co cn : List Value} (hx : Below w.heap.size w wx)
    (hW : W = wx.drew.setCells s (k * 64) cn) (hco : co = cb ((appl A.last A.pend).getD k [])) (hcn : cn = cb b) (hg : (W.drew.alloc o).grownBy W4 pv.ownBlock) (ha : pv'.ownBlock = pv.ownBlock ∨ pv'.ownBlock = some (W.drew.alloc o).heap.size)
    (hrow : W4.ownsRow C 103 129 pv' (A.pend.length + 1) (pcells A.last A.pend ++ (.int .i64 (k : Int) :: (co ++ cn)))) (hW' : W' = W4.setCell ⟨p, 1, none⟩ pv') :
    Adds C p s c pv A k b w W' := by
  subst hW hco hcn
  have hm : ∀ q, pv'.ownBlock = some q → pv.ownBlock = some q ∨ w.heap.size ≤ q := fun q hq => by
    rcases ha with e | e
    · exact .inl (e ▸ hq)
    · have e2 : (wx.drew.setCells s (k * 64) (cb b)).heap.size = wx.heap.size := setCells_size _ _ _ _
      have := hx.size
      rw [e] at hq
      simp only [World.size_alloc, World.size_drew, Option.some.injEq] at hq
      rw [e2] at hq
      exact .inr (by omega)
  obtain ⟨h1, h2⟩ := h.wroteRow hk hb hx hg hm hrow hW'
  exact ⟨pv', h1, h2, hm⟩
def AddsP (C p s c : Nat) (pv : Value) (A0 : St) (k : Nat) (b : BA) (v w' : World) : Prop := Adds C p s c pv { A0 with left := A0.left - 1 } k b (v.setCell ⟨p, 3, none⟩ (.int .i64 (A0.left - 1))) w'
theorem addsP_of {A A0 : St} {v w w' : World} {k : Nat} {b : BA} (hA : A = { A0 with left := A0.left - 1 }) (hw : w = v.setCell ⟨p, 3, none⟩ (.int .i64 (A0.left - 1))) (h : Adds C p s c pv A k b w w') : AddsP C p s c pv A0 k b v w' := by
  subst hA hw; exact h
theorem there_below {w w' : World} {s o n D : Nat} (h : w.there s o n) (hb : Below D w w') (hs : s < D) : w'.there s o n := fun j hj =>
  ⟨by rw [hb.cell (p := ⟨s, o + j, none⟩) hs]; exact (h j hj).1, by rw [hb.frozen (p := ⟨s, o + j, none⟩) hs]; exact (h j hj).2⟩
set_option maxRecDepth 100000 in
set_option maxHeartbeats 2000000 in
theorem write_neg (h : Own C p s c pv A w) (k : Nat) (b : BA) (hr : A.runs = true) (hk : k < A.last.length) (hb : b.length = 64) (hl : A.left < 0) (hm : A.pend.length ≤ 1000000) :
    Calls Tryz.prog 43 #[ptr p, .int .i64 k, .string (str b)] w fun e w' => e = .returned (.int .i64 0) ∧ Adds C p s c pv A k b w w' := by
  have hR := Lib.hid (refuse_ok h k hr hk)
  have hc3 := h.cell3
  have hc0 := h.cell0
  have h2 := h.n2
  have hlt := h.lt
  have hlts := h.lts
  have hps := h.ps
  have hsec := h.sector hk
  have hthere := Lib.hid (h.there hk)
  have hol : (cb ((appl A.last A.pend).getD k [])).length = 64 := by rw [cb_length, h.lenNow hk]
  have ho1 := cb_one ((appl A.last A.pend).getD k [])
  have hb1 := cb_one b
  have hbl : (cb b).length = 64 := by rw [cb_length, hb]
  have hcv := fun W : World => convert_bytes W b hb
  have hat := fun (g cap : Nat) (W : World) => run_arrayAt (P := Tryz.prog) W 101 5 64 (some ⟨g, 0, none⟩) 64 cap Tryz.underlying101 (Nat.le_refl _)
  have hsz : (str b).size = 64 := by rw [str_size, hb]
  have HO := Lib.hid h
  have HK := Lib.hid hk
  have HBL := Lib.hid hb
  have hzw := zero_wr
  have hu := Tryz.underlying101
  have huw := Tryz.underlying103
  have hi : (Tryz.prog.info? 101).map (·.size) = some (cb ((appl A.last A.pend).getD k [])).length := by rw [hol]; exact size_sec
  have hi2 : (Tryz.prog.info? 101).map (·.size) = some (cb b).length := by rw [hbl]; exact size_sec
  clear h
  obtain ⟨n, hn⟩ : ∃ n, n = A.last.length := ⟨_, rfl⟩
  have k1 : (k : Int) < (n : Int) := by omega
  have h3 : n ≤ 10000 := by omega
  rw [← hn] at hc0
  have HN := Lib.hid hn
  clear hn h2 hk hb
  obtain ⟨co, hco⟩ : ∃ co, co = cb ((appl A.last A.pend).getD k []) := ⟨_, rfl⟩
  obtain ⟨cn, hcn⟩ : ∃ cn, cn = cb b := ⟨_, rfl⟩
  rw [← hco] at hsec hol ho1 hi
  rw [← hcn] at hbl hb1 hi2
  have hbd' := fun W : World => run_build_wr W k co cn hol hbl
  have x1 : (w.alloc (cObj w.drew b)).drew.drew.rangeAt w.heap.size 0 cn := by rw [hcn]; exact conv_in1 w b
  have x3 : ((w.alloc boxW).alloc (cObj (w.alloc boxW).drew b)).drew.drew.rangeAt (w.heap.size + 1) 0 cn := by rw [hcn]; exact conv_in3 w b
  have HCO := Lib.hid hco
  have HCN := Lib.hid hcn
  clear hco hcn
  have y1 : ((w.alloc (cObj w.drew b)).alloc boxW).drew.drew.there (w.heap.size + 1) 0 129 := box_in1 w b
  have y1' := Lib.hid (box_at1 w b)
  have y2' := Lib.hid (box_at2 w b)
  have y2 : ((w.alloc boxW).alloc (cObj (w.alloc boxW).drew b)).drew.drew.there w.heap.size 0 129 := box_in2 w b
  have hw1 : ∀ v ∈ (.int .i64 (k : Int) :: (co ++ cn)), v.oneCell' = true := fun v hv => by
    rcases List.mem_cons.1 hv with rfl | hv
    · rfl
    · rcases List.mem_append.1 hv with hv | hv
      · exact ho1 v hv
      · exact hb1 v hv
  have hwl : (.int .i64 (k : Int) :: (co ++ cn)).length = 129 := by simp [hol, hbl]
  have hws : ((.int .i64 (k : Int) :: (co ++ cn)).toArray : Array Value).size = 129 := by rw [List.size_toArray, hwl]
  have k0 : (0 : Int) ≤ (k : Int) := by omega
  have l0 : (A.left == 0) = false := by simp; omega
  have l1 : ¬ 0 < A.left := by omega
  obtain ⟨lf, hlf⟩ : ∃ lf, lf = A.left := ⟨_, rfl⟩
  rw [← hlf] at hc3 l0 l1
  clear hl hlf hr
  go_enter Tryz.func43, Tryz.ntmps43
  go_upto_region 11 with (go_at_call 72; refine hR.out.mono ?_; rintro e w' ⟨rfl, rfl⟩)
  go_cut [8] (fun s8 wx => ∃ g : Nat, s8 = .pointer (some ⟨g, 0, none⟩) ∧ w.heap.size ≤ g ∧ wx.heap[g]? = some (.cells (.int .i64 k :: (co ++ cn)).toArray 103 (0, 0)) ∧ Below w.heap.size w wx)
  case first =>
    refine wp_region_noPanic ?_
    refine wp_region_held_drew (S := (fun w' => w'.cell? ⟨p, 0, none⟩ = some (.slice (some ⟨s, 0, none⟩) n c) ∧ w'.rangeAt s (k * 64) co)) (by kernel_rfl) ?_ (fun hHeld => ?_)
    · ((try dsimp only); (try simp only [World.rangeAt_drew, World.cell?_drew]); constructor <;> (repeat' first | assumption | (refine cell_alloc_keep ?_ _) | (refine cell_setCells_keep ?_ _ _ _ (by simp; omega)) | (refine World.rangeAt_alloc ?_ _) | (refine World.rangeAt_setCells_apart ?_ _ _ _ (by omega))))
    refine wpAnyH_take (i := 0) (oi := { dst := some 38, op := Op.move (Operand.tmp 1), type := 3, pos := "disk.go:62", after := #[], guard := none }) (v := .int .i64 k) rfl (by kernel_rfl) (by kernel_rfl) (by kernel_rfl) (fun _ _ _ h => h) (Or.inl ⟨by rfl, fun w' hSw => by ((try dsimp only at hSw); go_split_ands; go_simp)⟩) (by assumption) ?_
    (try simp only [Act.put, List.setIfInBounds_toArray, List.set_cons_zero, List.set_cons_succ])
    refine wpAnyH_take (i := 1) (oi := { dst := some 39, op := Op.move (Operand.tmp 0), type := 25, pos := "disk.go:62", after := #[], guard := none }) (v := ptr p) rfl (by kernel_rfl) (by kernel_rfl) (by kernel_rfl) (fun _ _ _ h => h) (Or.inl ⟨by rfl, fun w' hSw => by ((try dsimp only at hSw); go_split_ands; go_simp)⟩) (by assumption) ?_
    (try simp only [Act.put, List.setIfInBounds_toArray, List.set_cons_zero, List.set_cons_succ])
    refine wpAnyH_take (i := 2) (oi := { dst := some 40, op := Op.nilCheck (Operand.tmp 39), type := 0, pos := "disk.go:62", after := #[{ on := 1, ground := Ground.data }], guard := none }) (v := ptr p) rfl (by kernel_rfl) (by kernel_rfl) (by kernel_rfl) (fun _ _ _ h => h) (Or.inl ⟨by rfl, fun w' hSw => by ((try dsimp only at hSw); go_split_ands; go_simp)⟩) (by assumption) ?_
    (try simp only [Act.put, List.setIfInBounds_toArray, List.set_cons_zero, List.set_cons_succ])
    refine wpAnyH_take (i := 3) (oi := { dst := some 41, op := Op.fieldAddr 78 (Operand.tmp 40) 0, type := 0, pos := "disk.go:62", after := #[{ on := 2, ground := Ground.data }], guard := none }) (v := .pointer (some ⟨p, 0, none⟩)) rfl (by kernel_rfl) (by kernel_rfl) (by kernel_rfl) (fun _ _ _ h => h) (Or.inl ⟨by rfl, fun w' hSw => by ((try dsimp only at hSw); go_split_ands; go_simp)⟩) (by assumption) ?_
    (try simp only [Act.put, List.setIfInBounds_toArray, List.set_cons_zero, List.set_cons_succ])
    refine wpAnyH_take (i := 4) (oi := { dst := some 42, op := Op.load 75 (Operand.tmp 41), type := 75, pos := "disk.go:62", after := #[{ on := 3, ground := Ground.data }], guard := none }) (v := .slice (some ⟨s, 0, none⟩) n c) rfl (by kernel_rfl) (by kernel_rfl) (by kernel_rfl) (fun _ _ _ h => h) (Or.inl ⟨by rfl, fun w' hSw => by ((try dsimp only at hSw); go_split_ands; go_simp)⟩) (by assumption) ?_
    (try simp only [Act.put, List.setIfInBounds_toArray, List.set_cons_zero, List.set_cons_succ])
    refine wpAnyH_take (i := 5) (oi := { dst := some 43, op := Op.move (Operand.tmp 1), type := 3, pos := "disk.go:62", after := #[], guard := none }) (v := .int .i64 k) rfl (by kernel_rfl) (by kernel_rfl) (by kernel_rfl) (fun _ _ _ h => h) (Or.inl ⟨by rfl, fun w' hSw => by ((try dsimp only at hSw); go_split_ands; go_simp)⟩) (by assumption) ?_
    (try simp only [Act.put, List.setIfInBounds_toArray, List.set_cons_zero, List.set_cons_succ])
    refine wpAnyH_take (i := 6) (oi := { dst := some 44, op := Op.indexAddr 75 (Operand.tmp 42) (Operand.tmp 43), type := 0, pos := "disk.go:62", after := #[{ on := 4, ground := Ground.data }, { on := 5, ground := Ground.data }], guard := none }) (v := .pointer (some ⟨s, k * 64, none⟩)) rfl (by kernel_rfl) (by kernel_rfl) (by kernel_rfl) (fun _ _ _ h => h) (Or.inl ⟨by rfl, fun w' hSw => by ((try dsimp only at hSw); go_split_ands; go_simp)⟩) (by assumption) ?_
    (try simp only [Act.put, List.setIfInBounds_toArray, List.set_cons_zero, List.set_cons_succ])
    refine wpAnyH_take (i := 7) (oi := { dst := some 45, op := Op.load 101 (Operand.tmp 44), type := 101, pos := "disk.go:62", after := #[{ on := 6, ground := Ground.data }], guard := none }) (v := .agg (co).toArray) rfl (by kernel_rfl) (by kernel_rfl) (by kernel_rfl) (fun _ _ _ h => h) (yieldsIf_load_mid (by rfl) _ _ rfl _ _ rfl _ _ (fun w' hSw => by ((try dsimp only at hSw); go_split_ands; assumption)) hu rfl hi) (by assumption) ?_
    (try simp only [Act.put, List.setIfInBounds_toArray, List.set_cons_zero, List.set_cons_succ])
    refine wpAnyH_take (i := 8) (oi := { dst := some 46, op := Op.move (Operand.tmp 2), type := 9, pos := "disk.go:62", after := #[], guard := none }) (v := .string (str b)) rfl (by kernel_rfl) (by kernel_rfl) (by kernel_rfl) (fun _ _ _ h => h) (Or.inl ⟨by rfl, fun w' hSw => by ((try dsimp only at hSw); go_split_ands; go_simp)⟩) (by assumption) ?_
    (try simp only [Act.put, List.setIfInBounds_toArray, List.set_cons_zero, List.set_cons_succ])
    refine wpAnyH_ready (rs := [9, 13]) (by kernel_rfl) (by simp) ?_
    refine AllReadyH.cons (o := { dst := some 47, op := Op.convert 9 70 (Operand.tmp 46), type := 70, pos := "disk.go:62", after := #[{ on := 8, ground := Ground.data }], guard := none }) rfl (fun K hK => ?_) ?_
    · go_simp
      refine hK.out _ _ ?_ (fun hHeld => ?_)
      · ((try dsimp only); (try simp only [World.rangeAt_drew, World.cell?_drew]); constructor <;> (repeat' first | assumption | (refine cell_alloc_keep ?_ _) | (refine cell_setCells_keep ?_ _ _ _ (by simp; omega)) | (refine World.rangeAt_alloc ?_ _) | (refine World.rangeAt_setCells_apart ?_ _ _ _ (by omega))))
      clear hK K
      (try simp only [Act.put, List.setIfInBounds_toArray, List.set_cons_zero, List.set_cons_succ])
      refine wpAnyH_mono (S' := (fun w' => (w'.cell? ⟨p, 0, none⟩ = some (.slice (some ⟨s, 0, none⟩) n c) ∧ w'.rangeAt s (k * 64) co) ∧ w'.rangeAt w.heap.size 0 cn)) (fun _ h => h.1) ?_
      replace hHeld := And.intro hHeld x1
      refine wpAnyH_take (i := 10) (oi := { dst := some 48, op := Op.sliceToArrayPointer 101 (Operand.tmp 47), type := 0, pos := "disk.go:62", after := #[{ on := 9, ground := Ground.data }], guard := none }) (v := .pointer (some ⟨w.heap.size, 0, none⟩)) rfl (by kernel_rfl) (by kernel_rfl) (by kernel_rfl) (fun _ _ _ h => h) (Or.inl ⟨by rfl, fun w' hSw => by ((try dsimp only at hSw); go_split_ands; exact run_next (hat _ _ _))⟩) (by assumption) ?_
      (try simp only [Act.put, List.setIfInBounds_toArray, List.set_cons_zero, List.set_cons_succ])
      refine wpAnyH_take (i := 11) (oi := { dst := some 49, op := Op.load 101 (Operand.tmp 48), type := 101, pos := "disk.go:62", after := #[{ on := 10, ground := Ground.data }], guard := none }) (v := .agg (cn).toArray) rfl (by kernel_rfl) (by kernel_rfl) (by kernel_rfl) (fun _ _ _ h => h) (yieldsIf_load_mid (by rfl) _ _ rfl _ _ rfl _ _ (fun w' hSw => by ((try dsimp only at hSw); go_split_ands; assumption)) hu rfl hi2) (by assumption) ?_
      (try simp only [Act.put, List.setIfInBounds_toArray, List.set_cons_zero, List.set_cons_succ])
      refine wpAnyH_take (i := 12) (oi := { dst := some 50, op := Op.build 103 #[(0, Operand.tmp 38), (1, Operand.tmp 45), (2, Operand.tmp 49)], type := 103, pos := "disk.go:62", after := #[{ on := 0, ground := Ground.data }, { on := 7, ground := Ground.data }, { on := 11, ground := Ground.data }], guard := none }) (v := .agg (.int .i64 (k : Int) :: (co ++ cn)).toArray) rfl (by kernel_rfl) (by kernel_rfl) (by kernel_rfl) (fun _ _ _ h => h) (Or.inl ⟨by rfl, fun w' hSw => by ((try dsimp only at hSw); go_split_ands; exact run_next ((congrArg (fun x => (Instr.build 103 x).run Tryz.prog w') (by (simp only [List.map_toArray, List.map_cons, List.map_nil]; rfl))).trans (hbd' _)))⟩) (by assumption) ?_
      (try simp only [Act.put, List.setIfInBounds_toArray, List.set_cons_zero, List.set_cons_succ])
      refine wpAnyH_ready (rs := [13]) (by kernel_rfl) (by simp) ?_
      refine AllReadyH.cons (o := { dst := some 8, op := Op.alloc 103, type := 0, pos := "disk.go:62", after := #[], guard := none }) rfl (fun K hK => ?_) ?_
      · go_simp
        refine hK.out _ _ ?_ (fun hHeld => ?_)
        · ((try dsimp only); (try simp only [World.rangeAt_drew, World.cell?_drew]); refine ⟨⟨?_, ?_⟩, ?_⟩ <;> (repeat' first | assumption | (refine cell_alloc_keep ?_ _) | (refine cell_setCells_keep ?_ _ _ _ (by simp; omega)) | (refine World.rangeAt_alloc ?_ _) | (refine World.rangeAt_setCells_apart ?_ _ _ _ (by omega))))
        clear hK K
        (try simp only [Act.put, List.setIfInBounds_toArray, List.set_cons_zero, List.set_cons_succ])
        refine wpAnyH_ready (rs := [14]) (by kernel_rfl) (by simp) ?_
        refine AllReadyH.cons (o := { dst := none, op := Op.store 103 (Operand.tmp 8) (Operand.tmp 50), type := 0, pos := "disk.go:62", after := #[{ on := 13, ground := Ground.data }, { on := 12, ground := Ground.data }, { on := 0, ground := Ground.phase }, { on := 1, ground := Ground.phase }, { on := 2, ground := Ground.phase }, { on := 3, ground := Ground.phase }, { on := 4, ground := Ground.phase }, { on := 5, ground := Ground.phase }, { on := 6, ground := Ground.phase }, { on := 7, ground := Ground.phase }, { on := 8, ground := Ground.phase }, { on := 9, ground := Ground.phase }, { on := 10, ground := Ground.phase }, { on := 11, ground := Ground.phase }, { on := 12, ground := Ground.phase }, { on := 13, ground := Ground.phase }], guard := none }) rfl (fun K hK => ?_) ?_
        · rw [if_pos (by rfl)]
          refine wp_store_mid _ _ _ rfl (w.heap.size + 1) 0 (List.toArray (.int .i64 (k : Int) :: (co ++ cn))) rfl rfl (by rw [hws]; exact y1) (by rw [hws]; exact size_wr) (all_oneCell_toArray hw1) ?_
          simp only [Act.put, List.toList_toArray]
          refine hK.out _ _ ?_ (fun hHeld => ?_)
          · ((try dsimp only); (try simp only [World.rangeAt_drew, World.cell?_drew]); refine ⟨⟨?_, ?_⟩, ?_⟩ <;> (repeat' first | assumption | (refine cell_alloc_keep ?_ _) | (refine cell_setCells_keep ?_ _ _ _ (by simp; omega)) | (refine World.rangeAt_alloc ?_ _) | (refine World.rangeAt_setCells_apart ?_ _ _ _ (by omega))))
          clear hK K
          (try simp only [Act.put, List.setIfInBounds_toArray, List.set_cons_zero, List.set_cons_succ])
          refine wpAnyH_done (by kernel_rfl) ?_ _
          refine NoPanic.normal ?_
          go_wp2_with fail
          go_meet
          exact ⟨w.heap.size + 1, rfl, by omega, box_out y1'.out hwl zeroW_size, below_out1 w _ _⟩
        exact AllReadyH.nil
      exact AllReadyH.nil
    refine AllReadyH.cons (o := { dst := some 8, op := Op.alloc 103, type := 0, pos := "disk.go:62", after := #[], guard := none }) rfl (fun K hK => ?_) ?_
    · go_simp
      refine hK.out _ _ ?_ (fun hHeld => ?_)
      · ((try dsimp only); (try simp only [World.rangeAt_drew, World.cell?_drew]); constructor <;> (repeat' first | assumption | (refine cell_alloc_keep ?_ _) | (refine cell_setCells_keep ?_ _ _ _ (by simp; omega)) | (refine World.rangeAt_alloc ?_ _) | (refine World.rangeAt_setCells_apart ?_ _ _ _ (by omega))))
      clear hK K
      (try simp only [Act.put, List.setIfInBounds_toArray, List.set_cons_zero, List.set_cons_succ])
      refine wpAnyH_ready (rs := [9]) (by kernel_rfl) (by simp) ?_
      refine AllReadyH.cons (o := { dst := some 47, op := Op.convert 9 70 (Operand.tmp 46), type := 70, pos := "disk.go:62", after := #[{ on := 8, ground := Ground.data }], guard := none }) rfl (fun K hK => ?_) ?_
      · go_simp
        refine hK.out _ _ ?_ (fun hHeld => ?_)
        · ((try dsimp only); (try simp only [World.rangeAt_drew, World.cell?_drew]); constructor <;> (repeat' first | assumption | (refine cell_alloc_keep ?_ _) | (refine cell_setCells_keep ?_ _ _ _ (by simp; omega)) | (refine World.rangeAt_alloc ?_ _) | (refine World.rangeAt_setCells_apart ?_ _ _ _ (by omega))))
        clear hK K
        (try simp only [Act.put, List.setIfInBounds_toArray, List.set_cons_zero, List.set_cons_succ])
        refine wpAnyH_mono (S' := (fun w' => (w'.cell? ⟨p, 0, none⟩ = some (.slice (some ⟨s, 0, none⟩) n c) ∧ w'.rangeAt s (k * 64) co) ∧ w'.rangeAt (w.heap.size + 1) 0 cn)) (fun _ h => h.1) ?_
        replace hHeld := And.intro hHeld x3
        refine wpAnyH_take (i := 10) (oi := { dst := some 48, op := Op.sliceToArrayPointer 101 (Operand.tmp 47), type := 0, pos := "disk.go:62", after := #[{ on := 9, ground := Ground.data }], guard := none }) (v := .pointer (some ⟨(w.heap.size + 1), 0, none⟩)) rfl (by kernel_rfl) (by kernel_rfl) (by kernel_rfl) (fun _ _ _ h => h) (Or.inl ⟨by rfl, fun w' hSw => by ((try dsimp only at hSw); go_split_ands; exact run_next (hat _ _ _))⟩) (by assumption) ?_
        (try simp only [Act.put, List.setIfInBounds_toArray, List.set_cons_zero, List.set_cons_succ])
        refine wpAnyH_take (i := 11) (oi := { dst := some 49, op := Op.load 101 (Operand.tmp 48), type := 101, pos := "disk.go:62", after := #[{ on := 10, ground := Ground.data }], guard := none }) (v := .agg (cn).toArray) rfl (by kernel_rfl) (by kernel_rfl) (by kernel_rfl) (fun _ _ _ h => h) (yieldsIf_load_mid (by rfl) _ _ rfl _ _ rfl _ _ (fun w' hSw => by ((try dsimp only at hSw); go_split_ands; assumption)) hu rfl hi2) (by assumption) ?_
        (try simp only [Act.put, List.setIfInBounds_toArray, List.set_cons_zero, List.set_cons_succ])
        refine wpAnyH_take (i := 12) (oi := { dst := some 50, op := Op.build 103 #[(0, Operand.tmp 38), (1, Operand.tmp 45), (2, Operand.tmp 49)], type := 103, pos := "disk.go:62", after := #[{ on := 0, ground := Ground.data }, { on := 7, ground := Ground.data }, { on := 11, ground := Ground.data }], guard := none }) (v := .agg (.int .i64 (k : Int) :: (co ++ cn)).toArray) rfl (by kernel_rfl) (by kernel_rfl) (by kernel_rfl) (fun _ _ _ h => h) (Or.inl ⟨by rfl, fun w' hSw => by ((try dsimp only at hSw); go_split_ands; exact run_next ((congrArg (fun x => (Instr.build 103 x).run Tryz.prog w') (by (simp only [List.map_toArray, List.map_cons, List.map_nil]; rfl))).trans (hbd' _)))⟩) (by assumption) ?_
        (try simp only [Act.put, List.setIfInBounds_toArray, List.set_cons_zero, List.set_cons_succ])
        refine wpAnyH_ready (rs := [14]) (by kernel_rfl) (by simp) ?_
        refine AllReadyH.cons (o := { dst := none, op := Op.store 103 (Operand.tmp 8) (Operand.tmp 50), type := 0, pos := "disk.go:62", after := #[{ on := 13, ground := Ground.data }, { on := 12, ground := Ground.data }, { on := 0, ground := Ground.phase }, { on := 1, ground := Ground.phase }, { on := 2, ground := Ground.phase }, { on := 3, ground := Ground.phase }, { on := 4, ground := Ground.phase }, { on := 5, ground := Ground.phase }, { on := 6, ground := Ground.phase }, { on := 7, ground := Ground.phase }, { on := 8, ground := Ground.phase }, { on := 9, ground := Ground.phase }, { on := 10, ground := Ground.phase }, { on := 11, ground := Ground.phase }, { on := 12, ground := Ground.phase }, { on := 13, ground := Ground.phase }], guard := none }) rfl (fun K hK => ?_) ?_
        · rw [if_pos (by rfl)]
          refine wp_store_mid _ _ _ rfl w.heap.size 0 (List.toArray (.int .i64 (k : Int) :: (co ++ cn))) rfl rfl (by rw [hws]; exact y2) (by rw [hws]; exact size_wr) (all_oneCell_toArray hw1) ?_
          simp only [Act.put, List.toList_toArray]
          refine hK.out _ _ ?_ (fun hHeld => ?_)
          · ((try dsimp only); (try simp only [World.rangeAt_drew, World.cell?_drew]); refine ⟨⟨?_, ?_⟩, ?_⟩ <;> (repeat' first | assumption | (refine cell_alloc_keep ?_ _) | (refine cell_setCells_keep ?_ _ _ _ (by simp; omega)) | (refine World.rangeAt_alloc ?_ _) | (refine World.rangeAt_setCells_apart ?_ _ _ _ (by omega))))
          clear hK K
          (try simp only [Act.put, List.setIfInBounds_toArray, List.set_cons_zero, List.set_cons_succ])
          refine wpAnyH_done (by kernel_rfl) ?_ _
          refine NoPanic.normal ?_
          go_wp2_with fail
          go_meet
          exact ⟨w.heap.size, rfl, Nat.le_refl _, box_out y2'.out hwl zeroW_size, below_out2 w _ _⟩
        exact AllReadyH.nil
      exact AllReadyH.nil
    exact AllReadyH.nil
  case rest =>
    clear x1 x3 y1 y1' y2' y2 hcv hat hzw hbd' hi hsec hc0 hsz
    obtain ⟨g, rfl, hg, hbox, hbelow⟩ := hcut
    have HBX := Lib.hid hbox
    have HBW := Lib.hid hbelow
    have z0 : wc.cell? ⟨p, 0, none⟩ = some (.slice (some ⟨s, 0, none⟩) n c) := by rw [hbelow.cell (p := ⟨p, 0, none⟩) hlt, HN.out]; exact HO.out.cell0
    have z1 : wc.rangeAt g 65 cn := range_mid hbox hol
    have z2 : wc.there s (k * 64) 64 := there_below hthere.out hbelow hlts
    clear hbox hbelow
    go_wp2_with fail
    go_region_held3 (fun w' => w'.cell? ⟨p, 0, none⟩ = some (.slice (some ⟨s, 0, none⟩) n c) ∧ w'.rangeAt g 65 cn ∧ w'.there s (k * 64) 64) (((try dsimp only); (try simp only [World.rangeAt_drew, World.there_drew, World.cell?_drew]); refine ⟨?_, ?_, ?_⟩ <;> (repeat' first | assumption | (refine cell_setCells_keep ?_ _ _ _ (by simp; omega)) | (refine World.there_setCells ?_ _ _ _) | (refine World.rangeAt_setCells_apart ?_ _ _ _ (by omega))))) (fail)
    clear z0 z1 z2 hi2
    go_wp2_with fail
    obtain ⟨W, hW⟩ : ∃ W, W = wc.drew.setCells s (k * 64) cn := ⟨_, rfl⟩
    rw [← hW]
    have hv1 : W.heap[p]? = w.heap[p]? := by
      rw [hW, setCells_block _ _ _ _ _ (by omega)]
      exact HBW.out.block p hlt
    have v1 : W.cell? ⟨p, 1, none⟩ = some pv := by rw [World.cell?_of_block (w := w) hv1]; exact HO.out.cell1
    have v2 : W.rangeAt g 0 (.int .i64 (k : Int) :: (co ++ cn)) := by
      refine range_all (t := 103) ?_
      rw [hW, setCells_block _ _ _ _ _ (by omega)]
      exact HBX.out
    have hgW : g < W.heap.size := by rw [hW, setCells_size]; exact (Array.getElem?_eq_some_iff.1 HBX.out).1
    have hwW : w.heap.size ≤ W.heap.size := by rw [hW, setCells_size]; exact HBW.out.size
    have hrow : (W.drew.alloc (.cells (.int .i64 (k : Int) :: (co ++ cn)).toArray 103)).ownsRow C 103 129 pv A.pend.length (pcells A.last A.pend) := by
      refine World.ownsRow.alloc ?_ _
      refine ⟨HO.out.row.1, ?_⟩
      rcases HO.out.row.2 with h1 | ⟨q, cap, cur, h1, h4, h5, h6⟩
      · exact .inl h1
      · refine .inr ⟨q, cap, cur, h1, h4, ?_, h6⟩
        have hqs : q ≠ s := fun e => HO.out.vs (by rw [h1, ← e]; rfl)
        have hqw := (Array.getElem?_eq_some_iff.1 h5).1
        show W.heap[q]? = _
        rw [hW, setCells_block _ _ _ _ _ hqs]
        exact (HBW.out.block q hqw).trans h5
    have HR := Lib.hid hrow
    have v3 : (W.alloc (.cells (.int .i64 (k : Int) :: (co ++ cn)).toArray 103)).cell? ⟨p, 1, none⟩ = some pv := cell_alloc_keep v1 _
    have HW := Lib.hid hW
    have HV1 := Lib.hid hv1
    obtain ⟨av, cv, hpv⟩ := HO.out.len
    have HPV := Lib.hid hpv
    have hbsw := fun W : World => run_bs W _ hwl
    obtain ⟨i0, hi0, hz0, hz1, hz2⟩ := info_parts info_wr
    have hCW : C ≤ W.heap.size := by have := HO.out.hp; omega
    clear hW hrow hv1 hpv
    have hiw : (Tryz.prog.info? 103).map (·.size) = some (.int .i64 (k : Int) :: (co ++ cn)).length := by rw [hwl]; exact size_wr
    refine wp_region_noPanic ?_
    refine wp_region_held_drew (S := (fun w' => w'.rangeAt g 0 (.int .i64 (k : Int) :: (co ++ cn)))) (by kernel_rfl) ?_ (fun hHeld => ?_)
    · ((try dsimp only); (try simp only [World.rangeAt_drew, World.cell?_drew]); (repeat' first | assumption | (refine World.rangeAt_alloc ?_ _)))
    refine wpAnyH_take (i := 0) (oi := { dst := some 59, op := Op.move (Operand.tmp 0), type := 25, pos := "disk.go:64", after := #[], guard := none }) (v := ptr p) rfl (by kernel_rfl) (by kernel_rfl) (by kernel_rfl) (fun _ _ _ h => h) (Or.inl ⟨by rfl, fun w' hSw => by ((try dsimp only at hSw); go_split_ands; go_simp)⟩) (by assumption) ?_
    (try simp only [Act.put, List.setIfInBounds_toArray, List.set_cons_zero, List.set_cons_succ])
    refine wpAnyH_take (i := 1) (oi := { dst := some 60, op := Op.move (Operand.tmp 0), type := 25, pos := "disk.go:64", after := #[], guard := none }) (v := ptr p) rfl (by kernel_rfl) (by kernel_rfl) (by kernel_rfl) (fun _ _ _ h => h) (Or.inl ⟨by rfl, fun w' hSw => by ((try dsimp only at hSw); go_split_ands; go_simp)⟩) (by assumption) ?_
    (try simp only [Act.put, List.setIfInBounds_toArray, List.set_cons_zero, List.set_cons_succ])
    refine wpAnyH_take (i := 2) (oi := { dst := some 61, op := Op.nilCheck (Operand.tmp 60), type := 0, pos := "disk.go:64", after := #[{ on := 1, ground := Ground.data }], guard := none }) (v := ptr p) rfl (by kernel_rfl) (by kernel_rfl) (by kernel_rfl) (fun _ _ _ h => h) (Or.inl ⟨by rfl, fun w' hSw => by ((try dsimp only at hSw); go_split_ands; go_simp)⟩) (by assumption) ?_
    (try simp only [Act.put, List.setIfInBounds_toArray, List.set_cons_zero, List.set_cons_succ])
    refine wpAnyH_take (i := 3) (oi := { dst := some 62, op := Op.fieldAddr 78 (Operand.tmp 61) 1, type := 0, pos := "disk.go:64", after := #[{ on := 2, ground := Ground.data }], guard := none }) (v := .pointer (some ⟨p, 1, none⟩)) rfl (by kernel_rfl) (by kernel_rfl) (by kernel_rfl) (fun _ _ _ h => h) (Or.inl ⟨by rfl, fun w' hSw => by ((try dsimp only at hSw); go_split_ands; go_simp)⟩) (by assumption) ?_
    (try simp only [Act.put, List.setIfInBounds_toArray, List.set_cons_zero, List.set_cons_succ])
    refine wpAnyH_take (i := 5) (oi := { dst := some 64, op := Op.load 103 (Operand.tmp 8), type := 103, pos := "disk.go:64", after := #[], guard := none }) (v := .agg (.int .i64 (k : Int) :: (co ++ cn)).toArray) rfl (by kernel_rfl) (by kernel_rfl) (by kernel_rfl) (fun _ _ _ h => h) (yieldsIf_load_mid (by rfl) _ _ rfl _ _ rfl _ _ (fun w' hSw => hSw) huw rfl hiw) (by assumption) ?_
    (try simp only [Act.put, List.setIfInBounds_toArray, List.set_cons_zero, List.set_cons_succ])
    refine wpAnyH_ready (rs := [4, 6]) (by kernel_rfl) (by simp) ?_
    refine AllReadyH.cons (o := { dst := some 63, op := Op.load 76 (Operand.tmp 62), type := 76, pos := "disk.go:64", after := #[{ on := 3, ground := Ground.data }], guard := none }) rfl (fun K hK => ?_) ?_
    · go_simp
      refine hK.out _ _ ?_ (fun hHeld => ?_)
      · ((try dsimp only); (try simp only [World.rangeAt_drew, World.cell?_drew]); (repeat' first | assumption | (refine World.rangeAt_alloc ?_ _)))
      clear hK K
      (try simp only [Act.put, List.setIfInBounds_toArray, List.set_cons_zero, List.set_cons_succ])
      refine wpAnyH_ready (rs := [6]) (by kernel_rfl) (by simp) ?_
      refine AllReadyH.cons (o := { dst := some 65, op := Op.buildSlice 76 1 #[(0, Operand.tmp 64)], type := 76, pos := "disk.go:64", after := #[{ on := 5, ground := Ground.data }], guard := none }) rfl (fun K hK => ?_) ?_
      · rw [if_pos (by rfl)]
        refine wp_val (run_next ((congrArg (fun x => (Instr.buildSlice 76 1 x).run Tryz.prog _) (show _ = (#[(0, .agg (.int .i64 (k : Int) :: (co ++ cn)).toArray)] : Array (Nat × Value)) by (simp only [List.map_toArray, List.map_cons, List.map_nil]; rfl))).trans (hbsw _))) ?_
        refine hK.out _ _ ?_ (fun hHeld => ?_)
        · ((try dsimp only); (try simp only [World.rangeAt_drew, World.cell?_drew]); (repeat' first | assumption | (refine World.rangeAt_alloc ?_ _)))
        clear hK K
        (try simp only [Act.put, List.setIfInBounds_toArray, List.set_cons_zero, List.set_cons_succ])
        refine wpAnyH_ready (rs := [7]) (by kernel_rfl) (by simp) ?_
        refine AllReadyH.cons (o := { dst := some 66, op := Op.call { callee := Callee.builtin Builtin.append, args := #[Operand.tmp 63, Operand.tmp 65], argTypes := #[76, 76] }, type := 76, pos := "disk.go:64", after := #[{ on := 4, ground := Ground.data }, { on := 6, ground := Ground.data }], guard := none }) rfl (fun K hK => ?_) ?_
        · rw [if_pos (by rfl)]
          refine wp_append_at _ _ _ 76 rfl C 103 i0 (.agg zeroW) 129 136 Tryz.underlying76 hi0 hz0 hz1 hz2 zeroW_size (by decide) pv A.pend.length (pcells A.last A.pend) rfl HR.out ⟨W.heap.size, 0, none⟩ 1 1 (.int .i64 (k : Int) :: (co ++ cn)) rfl (by rw [hwl]) (new_cells _ _) hw1 (by simp only [maxLen]; omega) (by omega) (by simp; omega) ?_
          intro pv' W4 hrow4 hgr4 hat4
          refine hK.out _ _ ?_ (fun hHeld => ?_)
          · exact range_grown hgr4 (World.rangeAt_alloc v2 _) (fun e => by have := (HO.out.ltv g e).2; omega)
          clear hK K
          (try simp only [Act.put, List.setIfInBounds_toArray, List.set_cons_zero, List.set_cons_succ])
          obtain ⟨av', cv', hpv'⟩ := own_slice hrow4
          have HPV' := Lib.hid hpv'
          have HR4 := Lib.hid hrow4
          have HG4 := Lib.hid hgr4
          have HA4 := Lib.hid hat4
          have q1 : W4.cell? ⟨p, 1, none⟩ = some pv := cell_grown hgr4 (cell_alloc_keep v1 _) HO.out.vp
          have q2 : W4.frozen? ⟨p, 1, none⟩ = false := free_grown hgr4 HV1.out HO.out.lt hwW (HO.out.free 1) HO.out.vp
          clear hrow4 hgr4 hat4
          subst hpv'
          refine wpAnyH_take (i := 8) (oi := { dst := some 67, op := Op.nilCheck (Operand.tmp 59), type := 0, pos := "disk.go:64", after := #[{ on := 0, ground := Ground.data }, { on := 0, ground := Ground.phase }, { on := 1, ground := Ground.phase }, { on := 2, ground := Ground.phase }, { on := 3, ground := Ground.phase }, { on := 4, ground := Ground.phase }, { on := 5, ground := Ground.phase }, { on := 6, ground := Ground.phase }, { on := 7, ground := Ground.phase }], guard := none }) (v := ptr p) rfl (by kernel_rfl) (by kernel_rfl) (by kernel_rfl) (fun _ _ _ h => h) (Or.inl ⟨by rfl, fun w' hSw => by ((try dsimp only at hSw); go_split_ands; go_simp)⟩) (by assumption) ?_
          (try simp only [Act.put, List.setIfInBounds_toArray, List.set_cons_zero, List.set_cons_succ])
          refine wpAnyH_take (i := 9) (oi := { dst := some 68, op := Op.fieldAddr 78 (Operand.tmp 67) 1, type := 0, pos := "disk.go:64", after := #[{ on := 8, ground := Ground.data }, { on := 0, ground := Ground.phase }, { on := 1, ground := Ground.phase }, { on := 2, ground := Ground.phase }, { on := 3, ground := Ground.phase }, { on := 4, ground := Ground.phase }, { on := 5, ground := Ground.phase }, { on := 6, ground := Ground.phase }, { on := 7, ground := Ground.phase }], guard := none }) (v := .pointer (some ⟨p, 1, none⟩)) rfl (by kernel_rfl) (by kernel_rfl) (by kernel_rfl) (fun _ _ _ h => h) (Or.inl ⟨by rfl, fun w' hSw => by ((try dsimp only at hSw); go_split_ands; go_simp)⟩) (by assumption) ?_
          (try simp only [Act.put, List.setIfInBounds_toArray, List.set_cons_zero, List.set_cons_succ])
          refine wpAnyH_ready (rs := [10]) (by kernel_rfl) (by simp) ?_
          refine AllReadyH.cons (o := { dst := none, op := Op.store 76 (Operand.tmp 68) (Operand.tmp 66), type := 0, pos := "disk.go:64", after := #[{ on := 9, ground := Ground.data }, { on := 7, ground := Ground.data }, { on := 7, ground := Ground.chain }, { on := 0, ground := Ground.phase }, { on := 1, ground := Ground.phase }, { on := 2, ground := Ground.phase }, { on := 3, ground := Ground.phase }, { on := 4, ground := Ground.phase }, { on := 5, ground := Ground.phase }, { on := 6, ground := Ground.phase }, { on := 7, ground := Ground.phase }], guard := none }) rfl (fun K hK => ?_) ?_
          · go_simp
            refine hK.out _ _ ?_ (fun hHeld => ?_)
            · exact range_setCell hHeld (by show p ≠ g; omega)
            clear hK K
            (try simp only [Act.put, List.setIfInBounds_toArray, List.set_cons_zero, List.set_cons_succ])
            refine wpAnyH_done (by kernel_rfl) ?_ _
            refine NoPanic.normal ?_
            go_wp2_with fail
            go_ret
            exact ⟨rfl, did_wrote HO.out HK.out HBL.out HBW.out HW.out HCO.out HCN.out HG4.out HA4.out HR4.out rfl⟩
          exact AllReadyH.nil
        exact AllReadyH.nil
      exact AllReadyH.nil
    refine AllReadyH.cons (o := { dst := some 65, op := Op.buildSlice 76 1 #[(0, Operand.tmp 64)], type := 76, pos := "disk.go:64", after := #[{ on := 5, ground := Ground.data }], guard := none }) rfl (fun K hK => ?_) ?_
    · rw [if_pos (by rfl)]
      refine wp_val (run_next ((congrArg (fun x => (Instr.buildSlice 76 1 x).run Tryz.prog _) (show _ = (#[(0, .agg (.int .i64 (k : Int) :: (co ++ cn)).toArray)] : Array (Nat × Value)) by (simp only [List.map_toArray, List.map_cons, List.map_nil]; rfl))).trans (hbsw _))) ?_
      refine hK.out _ _ ?_ (fun hHeld => ?_)
      · ((try dsimp only); (try simp only [World.rangeAt_drew, World.cell?_drew]); (repeat' first | assumption | (refine World.rangeAt_alloc ?_ _)))
      clear hK K
      (try simp only [Act.put, List.setIfInBounds_toArray, List.set_cons_zero, List.set_cons_succ])
      refine wpAnyH_ready (rs := [4]) (by kernel_rfl) (by simp) ?_
      refine AllReadyH.cons (o := { dst := some 63, op := Op.load 76 (Operand.tmp 62), type := 76, pos := "disk.go:64", after := #[{ on := 3, ground := Ground.data }], guard := none }) rfl (fun K hK => ?_) ?_
      · go_simp
        refine hK.out _ _ ?_ (fun hHeld => ?_)
        · ((try dsimp only); (try simp only [World.rangeAt_drew, World.cell?_drew]); (repeat' first | assumption | (refine World.rangeAt_alloc ?_ _)))
        clear hK K
        (try simp only [Act.put, List.setIfInBounds_toArray, List.set_cons_zero, List.set_cons_succ])
        refine wpAnyH_ready (rs := [7]) (by kernel_rfl) (by simp) ?_
        refine AllReadyH.cons (o := { dst := some 66, op := Op.call { callee := Callee.builtin Builtin.append, args := #[Operand.tmp 63, Operand.tmp 65], argTypes := #[76, 76] }, type := 76, pos := "disk.go:64", after := #[{ on := 4, ground := Ground.data }, { on := 6, ground := Ground.data }], guard := none }) rfl (fun K hK => ?_) ?_
        · rw [if_pos (by rfl)]
          refine wp_append_at _ _ _ 76 rfl C 103 i0 (.agg zeroW) 129 136 Tryz.underlying76 hi0 hz0 hz1 hz2 zeroW_size (by decide) pv A.pend.length (pcells A.last A.pend) rfl HR.out ⟨W.heap.size, 0, none⟩ 1 1 (.int .i64 (k : Int) :: (co ++ cn)) rfl (by rw [hwl]) (new_cells _ _) hw1 (by simp only [maxLen]; omega) (by omega) (by simp; omega) ?_
          intro pv' W4 hrow4 hgr4 hat4
          refine hK.out _ _ ?_ (fun hHeld => ?_)
          · exact range_grown hgr4 (World.rangeAt_alloc v2 _) (fun e => by have := (HO.out.ltv g e).2; omega)
          clear hK K
          (try simp only [Act.put, List.setIfInBounds_toArray, List.set_cons_zero, List.set_cons_succ])
          obtain ⟨av', cv', hpv'⟩ := own_slice hrow4
          have HPV' := Lib.hid hpv'
          have HR4 := Lib.hid hrow4
          have HG4 := Lib.hid hgr4
          have HA4 := Lib.hid hat4
          have q1 : W4.cell? ⟨p, 1, none⟩ = some pv := cell_grown hgr4 (cell_alloc_keep v1 _) HO.out.vp
          have q2 : W4.frozen? ⟨p, 1, none⟩ = false := free_grown hgr4 HV1.out HO.out.lt hwW (HO.out.free 1) HO.out.vp
          clear hrow4 hgr4 hat4
          subst hpv'
          refine wpAnyH_take (i := 8) (oi := { dst := some 67, op := Op.nilCheck (Operand.tmp 59), type := 0, pos := "disk.go:64", after := #[{ on := 0, ground := Ground.data }, { on := 0, ground := Ground.phase }, { on := 1, ground := Ground.phase }, { on := 2, ground := Ground.phase }, { on := 3, ground := Ground.phase }, { on := 4, ground := Ground.phase }, { on := 5, ground := Ground.phase }, { on := 6, ground := Ground.phase }, { on := 7, ground := Ground.phase }], guard := none }) (v := ptr p) rfl (by kernel_rfl) (by kernel_rfl) (by kernel_rfl) (fun _ _ _ h => h) (Or.inl ⟨by rfl, fun w' hSw => by ((try dsimp only at hSw); go_split_ands; go_simp)⟩) (by assumption) ?_
          (try simp only [Act.put, List.setIfInBounds_toArray, List.set_cons_zero, List.set_cons_succ])
          refine wpAnyH_take (i := 9) (oi := { dst := some 68, op := Op.fieldAddr 78 (Operand.tmp 67) 1, type := 0, pos := "disk.go:64", after := #[{ on := 8, ground := Ground.data }, { on := 0, ground := Ground.phase }, { on := 1, ground := Ground.phase }, { on := 2, ground := Ground.phase }, { on := 3, ground := Ground.phase }, { on := 4, ground := Ground.phase }, { on := 5, ground := Ground.phase }, { on := 6, ground := Ground.phase }, { on := 7, ground := Ground.phase }], guard := none }) (v := .pointer (some ⟨p, 1, none⟩)) rfl (by kernel_rfl) (by kernel_rfl) (by kernel_rfl) (fun _ _ _ h => h) (Or.inl ⟨by rfl, fun w' hSw => by ((try dsimp only at hSw); go_split_ands; go_simp)⟩) (by assumption) ?_
          (try simp only [Act.put, List.setIfInBounds_toArray, List.set_cons_zero, List.set_cons_succ])
          refine wpAnyH_ready (rs := [10]) (by kernel_rfl) (by simp) ?_
          refine AllReadyH.cons (o := { dst := none, op := Op.store 76 (Operand.tmp 68) (Operand.tmp 66), type := 0, pos := "disk.go:64", after := #[{ on := 9, ground := Ground.data }, { on := 7, ground := Ground.data }, { on := 7, ground := Ground.chain }, { on := 0, ground := Ground.phase }, { on := 1, ground := Ground.phase }, { on := 2, ground := Ground.phase }, { on := 3, ground := Ground.phase }, { on := 4, ground := Ground.phase }, { on := 5, ground := Ground.phase }, { on := 6, ground := Ground.phase }, { on := 7, ground := Ground.phase }], guard := none }) rfl (fun K hK => ?_) ?_
          · go_simp
            refine hK.out _ _ ?_ (fun hHeld => ?_)
            · exact range_setCell hHeld (by show p ≠ g; omega)
            clear hK K
            (try simp only [Act.put, List.setIfInBounds_toArray, List.set_cons_zero, List.set_cons_succ])
            refine wpAnyH_done (by kernel_rfl) ?_ _
            refine NoPanic.normal ?_
            go_wp2_with fail
            go_ret
            exact ⟨rfl, did_wrote HO.out HK.out HBL.out HBW.out HW.out HCO.out HCN.out HG4.out HA4.out HR4.out rfl⟩
          exact AllReadyH.nil
        exact AllReadyH.nil
      exact AllReadyH.nil
    exact AllReadyH.nil
set_option maxRecDepth 100000 in
set_option maxHeartbeats 2000000 in
theorem write_pos {v : World} {A0 : St} (hv : Own C p s c pv A0 v) (k : Nat) (b : BA) (hr0 : A0.runs = true) (hk0 : k < A0.last.length) (hb : b.length = 64) (hl : 0 < A0.left) (hm0 : A0.pend.length ≤ 1000000) :
    Calls Tryz.prog 43 #[ptr p, .int .i64 k, .string (str b)] v fun e w' => e = .returned (.int .i64 0) ∧ AddsP C p s c pv A0 k b v w' := by
  have hR := Lib.hid (refuse_ok hv k hr0 hk0)
  have hc3 := hv.cell3
  have hf3 := hv.free 3
  have hl2 := hv.l2
  obtain ⟨A, hA⟩ : ∃ A : St, A = { A0 with left := A0.left - 1 } := ⟨_, rfl⟩
  obtain ⟨w, hw⟩ : ∃ w, w = v.setCell ⟨p, 3, none⟩ (.int .i64 (A0.left - 1)) := ⟨_, rfl⟩
  have h : Own C p s c pv A w := by
    rw [hA, hw]
    exact hv.setHead pv _ 3 _ rfl rfl (.inl rfl) rfl hv.row hv.whole hv.fits (by show _ ≤ A0.left - 1; omega) (by show A0.left - 1 ≤ _; omega)
  have hk : k < A.last.length := by rw [hA]; exact hk0
  have hm : A.pend.length ≤ 1000000 := by rw [hA]; exact hm0
  have HA0 := Lib.hid hA
  have HW0 := Lib.hid hw
  clear hA hk0 hm0 hv hr0
  have hc0 := h.cell0
  have h2 := h.n2
  have hlt := h.lt
  have hlts := h.lts
  have hps := h.ps
  have hsec := h.sector hk
  have hthere := Lib.hid (h.there hk)
  have hol : (cb ((appl A.last A.pend).getD k [])).length = 64 := by rw [cb_length, h.lenNow hk]
  have ho1 := cb_one ((appl A.last A.pend).getD k [])
  have hb1 := cb_one b
  have hbl : (cb b).length = 64 := by rw [cb_length, hb]
  have hcv := fun W : World => convert_bytes W b hb
  have hat := fun (g cap : Nat) (W : World) => run_arrayAt (P := Tryz.prog) W 101 5 64 (some ⟨g, 0, none⟩) 64 cap Tryz.underlying101 (Nat.le_refl _)
  have hsz : (str b).size = 64 := by rw [str_size, hb]
  have HO := Lib.hid h
  have HK := Lib.hid hk
  have HBL := Lib.hid hb
  have hzw := zero_wr
  have hu := Tryz.underlying101
  have huw := Tryz.underlying103
  have hi : (Tryz.prog.info? 101).map (·.size) = some (cb ((appl A.last A.pend).getD k [])).length := by rw [hol]; exact size_sec
  have hi2 : (Tryz.prog.info? 101).map (·.size) = some (cb b).length := by rw [hbl]; exact size_sec
  clear h
  obtain ⟨n, hn⟩ : ∃ n, n = A.last.length := ⟨_, rfl⟩
  have k1 : (k : Int) < (n : Int) := by omega
  have h3 : n ≤ 10000 := by omega
  rw [← hn] at hc0
  have HN := Lib.hid hn
  clear hn h2 hk hb
  obtain ⟨co, hco⟩ : ∃ co, co = cb ((appl A.last A.pend).getD k []) := ⟨_, rfl⟩
  obtain ⟨cn, hcn⟩ : ∃ cn, cn = cb b := ⟨_, rfl⟩
  rw [← hco] at hsec hol ho1 hi
  rw [← hcn] at hbl hb1 hi2
  have hbd' := fun W : World => run_build_wr W k co cn hol hbl
  have x1 : (w.alloc (cObj w.drew b)).drew.drew.rangeAt w.heap.size 0 cn := by rw [hcn]; exact conv_in1 w b
  have x3 : ((w.alloc boxW).alloc (cObj (w.alloc boxW).drew b)).drew.drew.rangeAt (w.heap.size + 1) 0 cn := by rw [hcn]; exact conv_in3 w b
  have HCO := Lib.hid hco
  have HCN := Lib.hid hcn
  clear hco hcn
  have y1 : ((w.alloc (cObj w.drew b)).alloc boxW).drew.drew.there (w.heap.size + 1) 0 129 := box_in1 w b
  have y1' := Lib.hid (box_at1 w b)
  have y2' := Lib.hid (box_at2 w b)
  have y2 : ((w.alloc boxW).alloc (cObj (w.alloc boxW).drew b)).drew.drew.there w.heap.size 0 129 := box_in2 w b
  have hw1 : ∀ v ∈ (.int .i64 (k : Int) :: (co ++ cn)), v.oneCell' = true := fun v hv => by
    rcases List.mem_cons.1 hv with rfl | hv
    · rfl
    · rcases List.mem_append.1 hv with hv | hv
      · exact ho1 v hv
      · exact hb1 v hv
  have hwl : (.int .i64 (k : Int) :: (co ++ cn)).length = 129 := by simp [hol, hbl]
  have hws : ((.int .i64 (k : Int) :: (co ++ cn)).toArray : Array Value).size = 129 := by rw [List.size_toArray, hwl]
  have k0 : (0 : Int) ≤ (k : Int) := by omega
  have l0 : (A0.left == 0) = false := by simp; omega
  have l1 : 0 < A0.left := hl
  obtain ⟨lf, hlf⟩ : ∃ lf, lf = A0.left := ⟨_, rfl⟩
  rw [← hlf] at hc3 l0 l1 hl2 hw
  have HWW := Lib.hid hw
  clear hl hlf hw
  go_enter Tryz.func43, Tryz.ntmps43
  go_upto_region 11 with (go_at_call 72; refine hR.out.mono ?_; rintro e w' ⟨rfl, rfl⟩)
  rw [← HWW.out]
  go_cut [8] (fun s8 wx => ∃ g : Nat, s8 = .pointer (some ⟨g, 0, none⟩) ∧ w.heap.size ≤ g ∧ wx.heap[g]? = some (.cells (.int .i64 k :: (co ++ cn)).toArray 103 (0, 0)) ∧ Below w.heap.size w wx)
  case first =>
    refine wp_region_noPanic ?_
    refine wp_region_held_drew (S := (fun w' => w'.cell? ⟨p, 0, none⟩ = some (.slice (some ⟨s, 0, none⟩) n c) ∧ w'.rangeAt s (k * 64) co)) (by kernel_rfl) ?_ (fun hHeld => ?_)
    · ((try dsimp only); (try simp only [World.rangeAt_drew, World.cell?_drew]); constructor <;> (repeat' first | assumption | (refine cell_alloc_keep ?_ _) | (refine cell_setCells_keep ?_ _ _ _ (by simp; omega)) | (refine World.rangeAt_alloc ?_ _) | (refine World.rangeAt_setCells_apart ?_ _ _ _ (by omega))))
    refine wpAnyH_take (i := 0) (oi := { dst := some 38, op := Op.move (Operand.tmp 1), type := 3, pos := "disk.go:62", after := #[], guard := none }) (v := .int .i64 k) rfl (by kernel_rfl) (by kernel_rfl) (by kernel_rfl) (fun _ _ _ h => h) (Or.inl ⟨by rfl, fun w' hSw => by ((try dsimp only at hSw); go_split_ands; go_simp)⟩) (by assumption) ?_
    (try simp only [Act.put, List.setIfInBounds_toArray, List.set_cons_zero, List.set_cons_succ])
    refine wpAnyH_take (i := 1) (oi := { dst := some 39, op := Op.move (Operand.tmp 0), type := 25, pos := "disk.go:62", after := #[], guard := none }) (v := ptr p) rfl (by kernel_rfl) (by kernel_rfl) (by kernel_rfl) (fun _ _ _ h => h) (Or.inl ⟨by rfl, fun w' hSw => by ((try dsimp only at hSw); go_split_ands; go_simp)⟩) (by assumption) ?_
    (try simp only [Act.put, List.setIfInBounds_toArray, List.set_cons_zero, List.set_cons_succ])
    refine wpAnyH_take (i := 2) (oi := { dst := some 40, op := Op.nilCheck (Operand.tmp 39), type := 0, pos := "disk.go:62", after := #[{ on := 1, ground := Ground.data }], guard := none }) (v := ptr p) rfl (by kernel_rfl) (by kernel_rfl) (by kernel_rfl) (fun _ _ _ h => h) (Or.inl ⟨by rfl, fun w' hSw => by ((try dsimp only at hSw); go_split_ands; go_simp)⟩) (by assumption) ?_
    (try simp only [Act.put, List.setIfInBounds_toArray, List.set_cons_zero, List.set_cons_succ])
    refine wpAnyH_take (i := 3) (oi := { dst := some 41, op := Op.fieldAddr 78 (Operand.tmp 40) 0, type := 0, pos := "disk.go:62", after := #[{ on := 2, ground := Ground.data }], guard := none }) (v := .pointer (some ⟨p, 0, none⟩)) rfl (by kernel_rfl) (by kernel_rfl) (by kernel_rfl) (fun _ _ _ h => h) (Or.inl ⟨by rfl, fun w' hSw => by ((try dsimp only at hSw); go_split_ands; go_simp)⟩) (by assumption) ?_
    (try simp only [Act.put, List.setIfInBounds_toArray, List.set_cons_zero, List.set_cons_succ])
    refine wpAnyH_take (i := 4) (oi := { dst := some 42, op := Op.load 75 (Operand.tmp 41), type := 75, pos := "disk.go:62", after := #[{ on := 3, ground := Ground.data }], guard := none }) (v := .slice (some ⟨s, 0, none⟩) n c) rfl (by kernel_rfl) (by kernel_rfl) (by kernel_rfl) (fun _ _ _ h => h) (Or.inl ⟨by rfl, fun w' hSw => by ((try dsimp only at hSw); go_split_ands; go_simp)⟩) (by assumption) ?_
    (try simp only [Act.put, List.setIfInBounds_toArray, List.set_cons_zero, List.set_cons_succ])
    refine wpAnyH_take (i := 5) (oi := { dst := some 43, op := Op.move (Operand.tmp 1), type := 3, pos := "disk.go:62", after := #[], guard := none }) (v := .int .i64 k) rfl (by kernel_rfl) (by kernel_rfl) (by kernel_rfl) (fun _ _ _ h => h) (Or.inl ⟨by rfl, fun w' hSw => by ((try dsimp only at hSw); go_split_ands; go_simp)⟩) (by assumption) ?_
    (try simp only [Act.put, List.setIfInBounds_toArray, List.set_cons_zero, List.set_cons_succ])
    refine wpAnyH_take (i := 6) (oi := { dst := some 44, op := Op.indexAddr 75 (Operand.tmp 42) (Operand.tmp 43), type := 0, pos := "disk.go:62", after := #[{ on := 4, ground := Ground.data }, { on := 5, ground := Ground.data }], guard := none }) (v := .pointer (some ⟨s, k * 64, none⟩)) rfl (by kernel_rfl) (by kernel_rfl) (by kernel_rfl) (fun _ _ _ h => h) (Or.inl ⟨by rfl, fun w' hSw => by ((try dsimp only at hSw); go_split_ands; go_simp)⟩) (by assumption) ?_
    (try simp only [Act.put, List.setIfInBounds_toArray, List.set_cons_zero, List.set_cons_succ])
    refine wpAnyH_take (i := 7) (oi := { dst := some 45, op := Op.load 101 (Operand.tmp 44), type := 101, pos := "disk.go:62", after := #[{ on := 6, ground := Ground.data }], guard := none }) (v := .agg (co).toArray) rfl (by kernel_rfl) (by kernel_rfl) (by kernel_rfl) (fun _ _ _ h => h) (yieldsIf_load_mid (by rfl) _ _ rfl _ _ rfl _ _ (fun w' hSw => by ((try dsimp only at hSw); go_split_ands; assumption)) hu rfl hi) (by assumption) ?_
    (try simp only [Act.put, List.setIfInBounds_toArray, List.set_cons_zero, List.set_cons_succ])
    refine wpAnyH_take (i := 8) (oi := { dst := some 46, op := Op.move (Operand.tmp 2), type := 9, pos := "disk.go:62", after := #[], guard := none }) (v := .string (str b)) rfl (by kernel_rfl) (by kernel_rfl) (by kernel_rfl) (fun _ _ _ h => h) (Or.inl ⟨by rfl, fun w' hSw => by ((try dsimp only at hSw); go_split_ands; go_simp)⟩) (by assumption) ?_
    (try simp only [Act.put, List.setIfInBounds_toArray, List.set_cons_zero, List.set_cons_succ])
    refine wpAnyH_ready (rs := [9, 13]) (by kernel_rfl) (by simp) ?_
    refine AllReadyH.cons (o := { dst := some 47, op := Op.convert 9 70 (Operand.tmp 46), type := 70, pos := "disk.go:62", after := #[{ on := 8, ground := Ground.data }], guard := none }) rfl (fun K hK => ?_) ?_
    · go_simp
      refine hK.out _ _ ?_ (fun hHeld => ?_)
      · ((try dsimp only); (try simp only [World.rangeAt_drew, World.cell?_drew]); constructor <;> (repeat' first | assumption | (refine cell_alloc_keep ?_ _) | (refine cell_setCells_keep ?_ _ _ _ (by simp; omega)) | (refine World.rangeAt_alloc ?_ _) | (refine World.rangeAt_setCells_apart ?_ _ _ _ (by omega))))
      clear hK K
      (try simp only [Act.put, List.setIfInBounds_toArray, List.set_cons_zero, List.set_cons_succ])
      refine wpAnyH_mono (S' := (fun w' => (w'.cell? ⟨p, 0, none⟩ = some (.slice (some ⟨s, 0, none⟩) n c) ∧ w'.rangeAt s (k * 64) co) ∧ w'.rangeAt w.heap.size 0 cn)) (fun _ h => h.1) ?_
      replace hHeld := And.intro hHeld x1
      refine wpAnyH_take (i := 10) (oi := { dst := some 48, op := Op.sliceToArrayPointer 101 (Operand.tmp 47), type := 0, pos := "disk.go:62", after := #[{ on := 9, ground := Ground.data }], guard := none }) (v := .pointer (some ⟨w.heap.size, 0, none⟩)) rfl (by kernel_rfl) (by kernel_rfl) (by kernel_rfl) (fun _ _ _ h => h) (Or.inl ⟨by rfl, fun w' hSw => by ((try dsimp only at hSw); go_split_ands; exact run_next (hat _ _ _))⟩) (by assumption) ?_
      (try simp only [Act.put, List.setIfInBounds_toArray, List.set_cons_zero, List.set_cons_succ])
      refine wpAnyH_take (i := 11) (oi := { dst := some 49, op := Op.load 101 (Operand.tmp 48), type := 101, pos := "disk.go:62", after := #[{ on := 10, ground := Ground.data }], guard := none }) (v := .agg (cn).toArray) rfl (by kernel_rfl) (by kernel_rfl) (by kernel_rfl) (fun _ _ _ h => h) (yieldsIf_load_mid (by rfl) _ _ rfl _ _ rfl _ _ (fun w' hSw => by ((try dsimp only at hSw); go_split_ands; assumption)) hu rfl hi2) (by assumption) ?_
      (try simp only [Act.put, List.setIfInBounds_toArray, List.set_cons_zero, List.set_cons_succ])
      refine wpAnyH_take (i := 12) (oi := { dst := some 50, op := Op.build 103 #[(0, Operand.tmp 38), (1, Operand.tmp 45), (2, Operand.tmp 49)], type := 103, pos := "disk.go:62", after := #[{ on := 0, ground := Ground.data }, { on := 7, ground := Ground.data }, { on := 11, ground := Ground.data }], guard := none }) (v := .agg (.int .i64 (k : Int) :: (co ++ cn)).toArray) rfl (by kernel_rfl) (by kernel_rfl) (by kernel_rfl) (fun _ _ _ h => h) (Or.inl ⟨by rfl, fun w' hSw => by ((try dsimp only at hSw); go_split_ands; exact run_next ((congrArg (fun x => (Instr.build 103 x).run Tryz.prog w') (by (simp only [List.map_toArray, List.map_cons, List.map_nil]; rfl))).trans (hbd' _)))⟩) (by assumption) ?_
      (try simp only [Act.put, List.setIfInBounds_toArray, List.set_cons_zero, List.set_cons_succ])
      refine wpAnyH_ready (rs := [13]) (by kernel_rfl) (by simp) ?_
      refine AllReadyH.cons (o := { dst := some 8, op := Op.alloc 103, type := 0, pos := "disk.go:62", after := #[], guard := none }) rfl (fun K hK => ?_) ?_
      · go_simp
        refine hK.out _ _ ?_ (fun hHeld => ?_)
        · ((try dsimp only); (try simp only [World.rangeAt_drew, World.cell?_drew]); refine ⟨⟨?_, ?_⟩, ?_⟩ <;> (repeat' first | assumption | (refine cell_alloc_keep ?_ _) | (refine cell_setCells_keep ?_ _ _ _ (by simp; omega)) | (refine World.rangeAt_alloc ?_ _) | (refine World.rangeAt_setCells_apart ?_ _ _ _ (by omega))))
        clear hK K
        (try simp only [Act.put, List.setIfInBounds_toArray, List.set_cons_zero, List.set_cons_succ])
        refine wpAnyH_ready (rs := [14]) (by kernel_rfl) (by simp) ?_
        refine AllReadyH.cons (o := { dst := none, op := Op.store 103 (Operand.tmp 8) (Operand.tmp 50), type := 0, pos := "disk.go:62", after := #[{ on := 13, ground := Ground.data }, { on := 12, ground := Ground.data }, { on := 0, ground := Ground.phase }, { on := 1, ground := Ground.phase }, { on := 2, ground := Ground.phase }, { on := 3, ground := Ground.phase }, { on := 4, ground := Ground.phase }, { on := 5, ground := Ground.phase }, { on := 6, ground := Ground.phase }, { on := 7, ground := Ground.phase }, { on := 8, ground := Ground.phase }, { on := 9, ground := Ground.phase }, { on := 10, ground := Ground.phase }, { on := 11, ground := Ground.phase }, { on := 12, ground := Ground.phase }, { on := 13, ground := Ground.phase }], guard := none }) rfl (fun K hK => ?_) ?_
        · rw [if_pos (by rfl)]
          refine wp_store_mid _ _ _ rfl (w.heap.size + 1) 0 (List.toArray (.int .i64 (k : Int) :: (co ++ cn))) rfl rfl (by rw [hws]; exact y1) (by rw [hws]; exact size_wr) (all_oneCell_toArray hw1) ?_
          simp only [Act.put, List.toList_toArray]
          refine hK.out _ _ ?_ (fun hHeld => ?_)
          · ((try dsimp only); (try simp only [World.rangeAt_drew, World.cell?_drew]); refine ⟨⟨?_, ?_⟩, ?_⟩ <;> (repeat' first | assumption | (refine cell_alloc_keep ?_ _) | (refine cell_setCells_keep ?_ _ _ _ (by simp; omega)) | (refine World.rangeAt_alloc ?_ _) | (refine World.rangeAt_setCells_apart ?_ _ _ _ (by omega))))
          clear hK K
          (try simp only [Act.put, List.setIfInBounds_toArray, List.set_cons_zero, List.set_cons_succ])
          refine wpAnyH_done (by kernel_rfl) ?_ _
          refine NoPanic.normal ?_
          go_wp2_with fail
          go_meet
          exact ⟨w.heap.size + 1, rfl, by omega, box_out y1'.out hwl zeroW_size, below_out1 w _ _⟩
        exact AllReadyH.nil
      exact AllReadyH.nil
    refine AllReadyH.cons (o := { dst := some 8, op := Op.alloc 103, type := 0, pos := "disk.go:62", after := #[], guard := none }) rfl (fun K hK => ?_) ?_
    · go_simp
      refine hK.out _ _ ?_ (fun hHeld => ?_)
      · ((try dsimp only); (try simp only [World.rangeAt_drew, World.cell?_drew]); constructor <;> (repeat' first | assumption | (refine cell_alloc_keep ?_ _) | (refine cell_setCells_keep ?_ _ _ _ (by simp; omega)) | (refine World.rangeAt_alloc ?_ _) | (refine World.rangeAt_setCells_apart ?_ _ _ _ (by omega))))
      clear hK K
      (try simp only [Act.put, List.setIfInBounds_toArray, List.set_cons_zero, List.set_cons_succ])
      refine wpAnyH_ready (rs := [9]) (by kernel_rfl) (by simp) ?_
      refine AllReadyH.cons (o := { dst := some 47, op := Op.convert 9 70 (Operand.tmp 46), type := 70, pos := "disk.go:62", after := #[{ on := 8, ground := Ground.data }], guard := none }) rfl (fun K hK => ?_) ?_
      · go_simp
        refine hK.out _ _ ?_ (fun hHeld => ?_)
        · ((try dsimp only); (try simp only [World.rangeAt_drew, World.cell?_drew]); constructor <;> (repeat' first | assumption | (refine cell_alloc_keep ?_ _) | (refine cell_setCells_keep ?_ _ _ _ (by simp; omega)) | (refine World.rangeAt_alloc ?_ _) | (refine World.rangeAt_setCells_apart ?_ _ _ _ (by omega))))
        clear hK K
        (try simp only [Act.put, List.setIfInBounds_toArray, List.set_cons_zero, List.set_cons_succ])
        refine wpAnyH_mono (S' := (fun w' => (w'.cell? ⟨p, 0, none⟩ = some (.slice (some ⟨s, 0, none⟩) n c) ∧ w'.rangeAt s (k * 64) co) ∧ w'.rangeAt (w.heap.size + 1) 0 cn)) (fun _ h => h.1) ?_
        replace hHeld := And.intro hHeld x3
        refine wpAnyH_take (i := 10) (oi := { dst := some 48, op := Op.sliceToArrayPointer 101 (Operand.tmp 47), type := 0, pos := "disk.go:62", after := #[{ on := 9, ground := Ground.data }], guard := none }) (v := .pointer (some ⟨(w.heap.size + 1), 0, none⟩)) rfl (by kernel_rfl) (by kernel_rfl) (by kernel_rfl) (fun _ _ _ h => h) (Or.inl ⟨by rfl, fun w' hSw => by ((try dsimp only at hSw); go_split_ands; exact run_next (hat _ _ _))⟩) (by assumption) ?_
        (try simp only [Act.put, List.setIfInBounds_toArray, List.set_cons_zero, List.set_cons_succ])
        refine wpAnyH_take (i := 11) (oi := { dst := some 49, op := Op.load 101 (Operand.tmp 48), type := 101, pos := "disk.go:62", after := #[{ on := 10, ground := Ground.data }], guard := none }) (v := .agg (cn).toArray) rfl (by kernel_rfl) (by kernel_rfl) (by kernel_rfl) (fun _ _ _ h => h) (yieldsIf_load_mid (by rfl) _ _ rfl _ _ rfl _ _ (fun w' hSw => by ((try dsimp only at hSw); go_split_ands; assumption)) hu rfl hi2) (by assumption) ?_
        (try simp only [Act.put, List.setIfInBounds_toArray, List.set_cons_zero, List.set_cons_succ])
        refine wpAnyH_take (i := 12) (oi := { dst := some 50, op := Op.build 103 #[(0, Operand.tmp 38), (1, Operand.tmp 45), (2, Operand.tmp 49)], type := 103, pos := "disk.go:62", after := #[{ on := 0, ground := Ground.data }, { on := 7, ground := Ground.data }, { on := 11, ground := Ground.data }], guard := none }) (v := .agg (.int .i64 (k : Int) :: (co ++ cn)).toArray) rfl (by kernel_rfl) (by kernel_rfl) (by kernel_rfl) (fun _ _ _ h => h) (Or.inl ⟨by rfl, fun w' hSw => by ((try dsimp only at hSw); go_split_ands; exact run_next ((congrArg (fun x => (Instr.build 103 x).run Tryz.prog w') (by (simp only [List.map_toArray, List.map_cons, List.map_nil]; rfl))).trans (hbd' _)))⟩) (by assumption) ?_
        (try simp only [Act.put, List.setIfInBounds_toArray, List.set_cons_zero, List.set_cons_succ])
        refine wpAnyH_ready (rs := [14]) (by kernel_rfl) (by simp) ?_
        refine AllReadyH.cons (o := { dst := none, op := Op.store 103 (Operand.tmp 8) (Operand.tmp 50), type := 0, pos := "disk.go:62", after := #[{ on := 13, ground := Ground.data }, { on := 12, ground := Ground.data }, { on := 0, ground := Ground.phase }, { on := 1, ground := Ground.phase }, { on := 2, ground := Ground.phase }, { on := 3, ground := Ground.phase }, { on := 4, ground := Ground.phase }, { on := 5, ground := Ground.phase }, { on := 6, ground := Ground.phase }, { on := 7, ground := Ground.phase }, { on := 8, ground := Ground.phase }, { on := 9, ground := Ground.phase }, { on := 10, ground := Ground.phase }, { on := 11, ground := Ground.phase }, { on := 12, ground := Ground.phase }, { on := 13, ground := Ground.phase }], guard := none }) rfl (fun K hK => ?_) ?_
        · rw [if_pos (by rfl)]
          refine wp_store_mid _ _ _ rfl w.heap.size 0 (List.toArray (.int .i64 (k : Int) :: (co ++ cn))) rfl rfl (by rw [hws]; exact y2) (by rw [hws]; exact size_wr) (all_oneCell_toArray hw1) ?_
          simp only [Act.put, List.toList_toArray]
          refine hK.out _ _ ?_ (fun hHeld => ?_)
          · ((try dsimp only); (try simp only [World.rangeAt_drew, World.cell?_drew]); refine ⟨⟨?_, ?_⟩, ?_⟩ <;> (repeat' first | assumption | (refine cell_alloc_keep ?_ _) | (refine cell_setCells_keep ?_ _ _ _ (by simp; omega)) | (refine World.rangeAt_alloc ?_ _) | (refine World.rangeAt_setCells_apart ?_ _ _ _ (by omega))))
          clear hK K
          (try simp only [Act.put, List.setIfInBounds_toArray, List.set_cons_zero, List.set_cons_succ])
          refine wpAnyH_done (by kernel_rfl) ?_ _
          refine NoPanic.normal ?_
          go_wp2_with fail
          go_meet
          exact ⟨w.heap.size, rfl, Nat.le_refl _, box_out y2'.out hwl zeroW_size, below_out2 w _ _⟩
        exact AllReadyH.nil
      exact AllReadyH.nil
    exact AllReadyH.nil
  case rest =>
    clear x1 x3 y1 y1' y2' y2 hcv hat hzw hbd' hi hsec hc0 hsz
    obtain ⟨g, rfl, hg, hbox, hbelow⟩ := hcut
    have HBX := Lib.hid hbox
    have HBW := Lib.hid hbelow
    have z0 : wc.cell? ⟨p, 0, none⟩ = some (.slice (some ⟨s, 0, none⟩) n c) := by rw [hbelow.cell (p := ⟨p, 0, none⟩) hlt, HN.out]; exact HO.out.cell0
    have z1 : wc.rangeAt g 65 cn := range_mid hbox hol
    have z2 : wc.there s (k * 64) 64 := there_below hthere.out hbelow hlts
    clear hbox hbelow
    go_wp2_with fail
    go_region_held3 (fun w' => w'.cell? ⟨p, 0, none⟩ = some (.slice (some ⟨s, 0, none⟩) n c) ∧ w'.rangeAt g 65 cn ∧ w'.there s (k * 64) 64) (((try dsimp only); (try simp only [World.rangeAt_drew, World.there_drew, World.cell?_drew]); refine ⟨?_, ?_, ?_⟩ <;> (repeat' first | assumption | (refine cell_setCells_keep ?_ _ _ _ (by simp; omega)) | (refine World.there_setCells ?_ _ _ _) | (refine World.rangeAt_setCells_apart ?_ _ _ _ (by omega))))) (fail)
    clear z0 z1 z2 hi2
    go_wp2_with fail
    obtain ⟨W, hW⟩ : ∃ W, W = wc.drew.setCells s (k * 64) cn := ⟨_, rfl⟩
    rw [← hW]
    have hv1 : W.heap[p]? = w.heap[p]? := by
      rw [hW, setCells_block _ _ _ _ _ (by omega)]
      exact HBW.out.block p hlt
    have v1 : W.cell? ⟨p, 1, none⟩ = some pv := by rw [World.cell?_of_block (w := w) hv1]; exact HO.out.cell1
    have v2 : W.rangeAt g 0 (.int .i64 (k : Int) :: (co ++ cn)) := by
      refine range_all (t := 103) ?_
      rw [hW, setCells_block _ _ _ _ _ (by omega)]
      exact HBX.out
    have hgW : g < W.heap.size := by rw [hW, setCells_size]; exact (Array.getElem?_eq_some_iff.1 HBX.out).1
    have hwW : w.heap.size ≤ W.heap.size := by rw [hW, setCells_size]; exact HBW.out.size
    have hrow : (W.drew.alloc (.cells (.int .i64 (k : Int) :: (co ++ cn)).toArray 103)).ownsRow C 103 129 pv A.pend.length (pcells A.last A.pend) := by
      refine World.ownsRow.alloc ?_ _
      refine ⟨HO.out.row.1, ?_⟩
      rcases HO.out.row.2 with h1 | ⟨q, cap, cur, h1, h4, h5, h6⟩
      · exact .inl h1
      · refine .inr ⟨q, cap, cur, h1, h4, ?_, h6⟩
        have hqs : q ≠ s := fun e => HO.out.vs (by rw [h1, ← e]; rfl)
        have hqw := (Array.getElem?_eq_some_iff.1 h5).1
        show W.heap[q]? = _
        rw [hW, setCells_block _ _ _ _ _ hqs]
        exact (HBW.out.block q hqw).trans h5
    have HR := Lib.hid hrow
    have v3 : (W.alloc (.cells (.int .i64 (k : Int) :: (co ++ cn)).toArray 103)).cell? ⟨p, 1, none⟩ = some pv := cell_alloc_keep v1 _
    have HW := Lib.hid hW
    have HV1 := Lib.hid hv1
    obtain ⟨av, cv, hpv⟩ := HO.out.len
    have HPV := Lib.hid hpv
    have hbsw := fun W : World => run_bs W _ hwl
    obtain ⟨i0, hi0, hz0, hz1, hz2⟩ := info_parts info_wr
    have hCW : C ≤ W.heap.size := by have := HO.out.hp; omega
    clear hW hrow hv1 hpv
    have hiw : (Tryz.prog.info? 103).map (·.size) = some (.int .i64 (k : Int) :: (co ++ cn)).length := by rw [hwl]; exact size_wr
    refine wp_region_noPanic ?_
    refine wp_region_held_drew (S := (fun w' => w'.rangeAt g 0 (.int .i64 (k : Int) :: (co ++ cn)))) (by kernel_rfl) ?_ (fun hHeld => ?_)
    · ((try dsimp only); (try simp only [World.rangeAt_drew, World.cell?_drew]); (repeat' first | assumption | (refine World.rangeAt_alloc ?_ _)))
    refine wpAnyH_take (i := 0) (oi := { dst := some 59, op := Op.move (Operand.tmp 0), type := 25, pos := "disk.go:64", after := #[], guard := none }) (v := ptr p) rfl (by kernel_rfl) (by kernel_rfl) (by kernel_rfl) (fun _ _ _ h => h) (Or.inl ⟨by rfl, fun w' hSw => by ((try dsimp only at hSw); go_split_ands; go_simp)⟩) (by assumption) ?_
    (try simp only [Act.put, List.setIfInBounds_toArray, List.set_cons_zero, List.set_cons_succ])
    refine wpAnyH_take (i := 1) (oi := { dst := some 60, op := Op.move (Operand.tmp 0), type := 25, pos := "disk.go:64", after := #[], guard := none }) (v := ptr p) rfl (by kernel_rfl) (by kernel_rfl) (by kernel_rfl) (fun _ _ _ h => h) (Or.inl ⟨by rfl, fun w' hSw => by ((try dsimp only at hSw); go_split_ands; go_simp)⟩) (by assumption) ?_
    (try simp only [Act.put, List.setIfInBounds_toArray, List.set_cons_zero, List.set_cons_succ])
    refine wpAnyH_take (i := 2) (oi := { dst := some 61, op := Op.nilCheck (Operand.tmp 60), type := 0, pos := "disk.go:64", after := #[{ on := 1, ground := Ground.data }], guard := none }) (v := ptr p) rfl (by kernel_rfl) (by kernel_rfl) (by kernel_rfl) (fun _ _ _ h => h) (Or.inl ⟨by rfl, fun w' hSw => by ((try dsimp only at hSw); go_split_ands; go_simp)⟩) (by assumption) ?_
    (try simp only [Act.put, List.setIfInBounds_toArray, List.set_cons_zero, List.set_cons_succ])
    refine wpAnyH_take (i := 3) (oi := { dst := some 62, op := Op.fieldAddr 78 (Operand.tmp 61) 1, type := 0, pos := "disk.go:64", after := #[{ on := 2, ground := Ground.data }], guard := none }) (v := .pointer (some ⟨p, 1, none⟩)) rfl (by kernel_rfl) (by kernel_rfl) (by kernel_rfl) (fun _ _ _ h => h) (Or.inl ⟨by rfl, fun w' hSw => by ((try dsimp only at hSw); go_split_ands; go_simp)⟩) (by assumption) ?_
    (try simp only [Act.put, List.setIfInBounds_toArray, List.set_cons_zero, List.set_cons_succ])
    refine wpAnyH_take (i := 5) (oi := { dst := some 64, op := Op.load 103 (Operand.tmp 8), type := 103, pos := "disk.go:64", after := #[], guard := none }) (v := .agg (.int .i64 (k : Int) :: (co ++ cn)).toArray) rfl (by kernel_rfl) (by kernel_rfl) (by kernel_rfl) (fun _ _ _ h => h) (yieldsIf_load_mid (by rfl) _ _ rfl _ _ rfl _ _ (fun w' hSw => hSw) huw rfl hiw) (by assumption) ?_
    (try simp only [Act.put, List.setIfInBounds_toArray, List.set_cons_zero, List.set_cons_succ])
    refine wpAnyH_ready (rs := [4, 6]) (by kernel_rfl) (by simp) ?_
    refine AllReadyH.cons (o := { dst := some 63, op := Op.load 76 (Operand.tmp 62), type := 76, pos := "disk.go:64", after := #[{ on := 3, ground := Ground.data }], guard := none }) rfl (fun K hK => ?_) ?_
    · go_simp
      refine hK.out _ _ ?_ (fun hHeld => ?_)
      · ((try dsimp only); (try simp only [World.rangeAt_drew, World.cell?_drew]); (repeat' first | assumption | (refine World.rangeAt_alloc ?_ _)))
      clear hK K
      (try simp only [Act.put, List.setIfInBounds_toArray, List.set_cons_zero, List.set_cons_succ])
      refine wpAnyH_ready (rs := [6]) (by kernel_rfl) (by simp) ?_
      refine AllReadyH.cons (o := { dst := some 65, op := Op.buildSlice 76 1 #[(0, Operand.tmp 64)], type := 76, pos := "disk.go:64", after := #[{ on := 5, ground := Ground.data }], guard := none }) rfl (fun K hK => ?_) ?_
      · rw [if_pos (by rfl)]
        refine wp_val (run_next ((congrArg (fun x => (Instr.buildSlice 76 1 x).run Tryz.prog _) (show _ = (#[(0, .agg (.int .i64 (k : Int) :: (co ++ cn)).toArray)] : Array (Nat × Value)) by (simp only [List.map_toArray, List.map_cons, List.map_nil]; rfl))).trans (hbsw _))) ?_
        refine hK.out _ _ ?_ (fun hHeld => ?_)
        · ((try dsimp only); (try simp only [World.rangeAt_drew, World.cell?_drew]); (repeat' first | assumption | (refine World.rangeAt_alloc ?_ _)))
        clear hK K
        (try simp only [Act.put, List.setIfInBounds_toArray, List.set_cons_zero, List.set_cons_succ])
        refine wpAnyH_ready (rs := [7]) (by kernel_rfl) (by simp) ?_
        refine AllReadyH.cons (o := { dst := some 66, op := Op.call { callee := Callee.builtin Builtin.append, args := #[Operand.tmp 63, Operand.tmp 65], argTypes := #[76, 76] }, type := 76, pos := "disk.go:64", after := #[{ on := 4, ground := Ground.data }, { on := 6, ground := Ground.data }], guard := none }) rfl (fun K hK => ?_) ?_
        · rw [if_pos (by rfl)]
          refine wp_append_at _ _ _ 76 rfl C 103 i0 (.agg zeroW) 129 136 Tryz.underlying76 hi0 hz0 hz1 hz2 zeroW_size (by decide) pv A.pend.length (pcells A.last A.pend) rfl HR.out ⟨W.heap.size, 0, none⟩ 1 1 (.int .i64 (k : Int) :: (co ++ cn)) rfl (by rw [hwl]) (new_cells _ _) hw1 (by simp only [maxLen]; omega) (by omega) (by simp; omega) ?_
          intro pv' W4 hrow4 hgr4 hat4
          refine hK.out _ _ ?_ (fun hHeld => ?_)
          · exact range_grown hgr4 (World.rangeAt_alloc v2 _) (fun e => by have := (HO.out.ltv g e).2; omega)
          clear hK K
          (try simp only [Act.put, List.setIfInBounds_toArray, List.set_cons_zero, List.set_cons_succ])
          obtain ⟨av', cv', hpv'⟩ := own_slice hrow4
          have HPV' := Lib.hid hpv'
          have HR4 := Lib.hid hrow4
          have HG4 := Lib.hid hgr4
          have HA4 := Lib.hid hat4
          have q1 : W4.cell? ⟨p, 1, none⟩ = some pv := cell_grown hgr4 (cell_alloc_keep v1 _) HO.out.vp
          have q2 : W4.frozen? ⟨p, 1, none⟩ = false := free_grown hgr4 HV1.out HO.out.lt hwW (HO.out.free 1) HO.out.vp
          clear hrow4 hgr4 hat4
          subst hpv'
          refine wpAnyH_take (i := 8) (oi := { dst := some 67, op := Op.nilCheck (Operand.tmp 59), type := 0, pos := "disk.go:64", after := #[{ on := 0, ground := Ground.data }, { on := 0, ground := Ground.phase }, { on := 1, ground := Ground.phase }, { on := 2, ground := Ground.phase }, { on := 3, ground := Ground.phase }, { on := 4, ground := Ground.phase }, { on := 5, ground := Ground.phase }, { on := 6, ground := Ground.phase }, { on := 7, ground := Ground.phase }], guard := none }) (v := ptr p) rfl (by kernel_rfl) (by kernel_rfl) (by kernel_rfl) (fun _ _ _ h => h) (Or.inl ⟨by rfl, fun w' hSw => by ((try dsimp only at hSw); go_split_ands; go_simp)⟩) (by assumption) ?_
          (try simp only [Act.put, List.setIfInBounds_toArray, List.set_cons_zero, List.set_cons_succ])
          refine wpAnyH_take (i := 9) (oi := { dst := some 68, op := Op.fieldAddr 78 (Operand.tmp 67) 1, type := 0, pos := "disk.go:64", after := #[{ on := 8, ground := Ground.data }, { on := 0, ground := Ground.phase }, { on := 1, ground := Ground.phase }, { on := 2, ground := Ground.phase }, { on := 3, ground := Ground.phase }, { on := 4, ground := Ground.phase }, { on := 5, ground := Ground.phase }, { on := 6, ground := Ground.phase }, { on := 7, ground := Ground.phase }], guard := none }) (v := .pointer (some ⟨p, 1, none⟩)) rfl (by kernel_rfl) (by kernel_rfl) (by kernel_rfl) (fun _ _ _ h => h) (Or.inl ⟨by rfl, fun w' hSw => by ((try dsimp only at hSw); go_split_ands; go_simp)⟩) (by assumption) ?_
          (try simp only [Act.put, List.setIfInBounds_toArray, List.set_cons_zero, List.set_cons_succ])
          refine wpAnyH_ready (rs := [10]) (by kernel_rfl) (by simp) ?_
          refine AllReadyH.cons (o := { dst := none, op := Op.store 76 (Operand.tmp 68) (Operand.tmp 66), type := 0, pos := "disk.go:64", after := #[{ on := 9, ground := Ground.data }, { on := 7, ground := Ground.data }, { on := 7, ground := Ground.chain }, { on := 0, ground := Ground.phase }, { on := 1, ground := Ground.phase }, { on := 2, ground := Ground.phase }, { on := 3, ground := Ground.phase }, { on := 4, ground := Ground.phase }, { on := 5, ground := Ground.phase }, { on := 6, ground := Ground.phase }, { on := 7, ground := Ground.phase }], guard := none }) rfl (fun K hK => ?_) ?_
          · go_simp
            refine hK.out _ _ ?_ (fun hHeld => ?_)
            · exact range_setCell hHeld (by show p ≠ g; omega)
            clear hK K
            (try simp only [Act.put, List.setIfInBounds_toArray, List.set_cons_zero, List.set_cons_succ])
            refine wpAnyH_done (by kernel_rfl) ?_ _
            refine NoPanic.normal ?_
            go_wp2_with fail
            go_ret
            exact ⟨rfl, addsP_of HA0.out HW0.out (did_wrote HO.out HK.out HBL.out HBW.out HW.out HCO.out HCN.out HG4.out HA4.out HR4.out rfl)⟩
          exact AllReadyH.nil
        exact AllReadyH.nil
      exact AllReadyH.nil
    refine AllReadyH.cons (o := { dst := some 65, op := Op.buildSlice 76 1 #[(0, Operand.tmp 64)], type := 76, pos := "disk.go:64", after := #[{ on := 5, ground := Ground.data }], guard := none }) rfl (fun K hK => ?_) ?_
    · rw [if_pos (by rfl)]
      refine wp_val (run_next ((congrArg (fun x => (Instr.buildSlice 76 1 x).run Tryz.prog _) (show _ = (#[(0, .agg (.int .i64 (k : Int) :: (co ++ cn)).toArray)] : Array (Nat × Value)) by (simp only [List.map_toArray, List.map_cons, List.map_nil]; rfl))).trans (hbsw _))) ?_
      refine hK.out _ _ ?_ (fun hHeld => ?_)
      · ((try dsimp only); (try simp only [World.rangeAt_drew, World.cell?_drew]); (repeat' first | assumption | (refine World.rangeAt_alloc ?_ _)))
      clear hK K
      (try simp only [Act.put, List.setIfInBounds_toArray, List.set_cons_zero, List.set_cons_succ])
      refine wpAnyH_ready (rs := [4]) (by kernel_rfl) (by simp) ?_
      refine AllReadyH.cons (o := { dst := some 63, op := Op.load 76 (Operand.tmp 62), type := 76, pos := "disk.go:64", after := #[{ on := 3, ground := Ground.data }], guard := none }) rfl (fun K hK => ?_) ?_
      · go_simp
        refine hK.out _ _ ?_ (fun hHeld => ?_)
        · ((try dsimp only); (try simp only [World.rangeAt_drew, World.cell?_drew]); (repeat' first | assumption | (refine World.rangeAt_alloc ?_ _)))
        clear hK K
        (try simp only [Act.put, List.setIfInBounds_toArray, List.set_cons_zero, List.set_cons_succ])
        refine wpAnyH_ready (rs := [7]) (by kernel_rfl) (by simp) ?_
        refine AllReadyH.cons (o := { dst := some 66, op := Op.call { callee := Callee.builtin Builtin.append, args := #[Operand.tmp 63, Operand.tmp 65], argTypes := #[76, 76] }, type := 76, pos := "disk.go:64", after := #[{ on := 4, ground := Ground.data }, { on := 6, ground := Ground.data }], guard := none }) rfl (fun K hK => ?_) ?_
        · rw [if_pos (by rfl)]
          refine wp_append_at _ _ _ 76 rfl C 103 i0 (.agg zeroW) 129 136 Tryz.underlying76 hi0 hz0 hz1 hz2 zeroW_size (by decide) pv A.pend.length (pcells A.last A.pend) rfl HR.out ⟨W.heap.size, 0, none⟩ 1 1 (.int .i64 (k : Int) :: (co ++ cn)) rfl (by rw [hwl]) (new_cells _ _) hw1 (by simp only [maxLen]; omega) (by omega) (by simp; omega) ?_
          intro pv' W4 hrow4 hgr4 hat4
          refine hK.out _ _ ?_ (fun hHeld => ?_)
          · exact range_grown hgr4 (World.rangeAt_alloc v2 _) (fun e => by have := (HO.out.ltv g e).2; omega)
          clear hK K
          (try simp only [Act.put, List.setIfInBounds_toArray, List.set_cons_zero, List.set_cons_succ])
          obtain ⟨av', cv', hpv'⟩ := own_slice hrow4
          have HPV' := Lib.hid hpv'
          have HR4 := Lib.hid hrow4
          have HG4 := Lib.hid hgr4
          have HA4 := Lib.hid hat4
          have q1 : W4.cell? ⟨p, 1, none⟩ = some pv := cell_grown hgr4 (cell_alloc_keep v1 _) HO.out.vp
          have q2 : W4.frozen? ⟨p, 1, none⟩ = false := free_grown hgr4 HV1.out HO.out.lt hwW (HO.out.free 1) HO.out.vp
          clear hrow4 hgr4 hat4
          subst hpv'
          refine wpAnyH_take (i := 8) (oi := { dst := some 67, op := Op.nilCheck (Operand.tmp 59), type := 0, pos := "disk.go:64", after := #[{ on := 0, ground := Ground.data }, { on := 0, ground := Ground.phase }, { on := 1, ground := Ground.phase }, { on := 2, ground := Ground.phase }, { on := 3, ground := Ground.phase }, { on := 4, ground := Ground.phase }, { on := 5, ground := Ground.phase }, { on := 6, ground := Ground.phase }, { on := 7, ground := Ground.phase }], guard := none }) (v := ptr p) rfl (by kernel_rfl) (by kernel_rfl) (by kernel_rfl) (fun _ _ _ h => h) (Or.inl ⟨by rfl, fun w' hSw => by ((try dsimp only at hSw); go_split_ands; go_simp)⟩) (by assumption) ?_
          (try simp only [Act.put, List.setIfInBounds_toArray, List.set_cons_zero, List.set_cons_succ])
          refine wpAnyH_take (i := 9) (oi := { dst := some 68, op := Op.fieldAddr 78 (Operand.tmp 67) 1, type := 0, pos := "disk.go:64", after := #[{ on := 8, ground := Ground.data }, { on := 0, ground := Ground.phase }, { on := 1, ground := Ground.phase }, { on := 2, ground := Ground.phase }, { on := 3, ground := Ground.phase }, { on := 4, ground := Ground.phase }, { on := 5, ground := Ground.phase }, { on := 6, ground := Ground.phase }, { on := 7, ground := Ground.phase }], guard := none }) (v := .pointer (some ⟨p, 1, none⟩)) rfl (by kernel_rfl) (by kernel_rfl) (by kernel_rfl) (fun _ _ _ h => h) (Or.inl ⟨by rfl, fun w' hSw => by ((try dsimp only at hSw); go_split_ands; go_simp)⟩) (by assumption) ?_
          (try simp only [Act.put, List.setIfInBounds_toArray, List.set_cons_zero, List.set_cons_succ])
          refine wpAnyH_ready (rs := [10]) (by kernel_rfl) (by simp) ?_
          refine AllReadyH.cons (o := { dst := none, op := Op.store 76 (Operand.tmp 68) (Operand.tmp 66), type := 0, pos := "disk.go:64", after := #[{ on := 9, ground := Ground.data }, { on := 7, ground := Ground.data }, { on := 7, ground := Ground.chain }, { on := 0, ground := Ground.phase }, { on := 1, ground := Ground.phase }, { on := 2, ground := Ground.phase }, { on := 3, ground := Ground.phase }, { on := 4, ground := Ground.phase }, { on := 5, ground := Ground.phase }, { on := 6, ground := Ground.phase }, { on := 7, ground := Ground.phase }], guard := none }) rfl (fun K hK => ?_) ?_
          · go_simp
            refine hK.out _ _ ?_ (fun hHeld => ?_)
            · exact range_setCell hHeld (by show p ≠ g; omega)
            clear hK K
            (try simp only [Act.put, List.setIfInBounds_toArray, List.set_cons_zero, List.set_cons_succ])
            refine wpAnyH_done (by kernel_rfl) ?_ _
            refine NoPanic.normal ?_
            go_wp2_with fail
            go_ret
            exact ⟨rfl, addsP_of HA0.out HW0.out (did_wrote HO.out HK.out HBL.out HBW.out HW.out HCO.out HCN.out HG4.out HA4.out HR4.out rfl)⟩
          exact AllReadyH.nil
        exact AllReadyH.nil
      exact AllReadyH.nil
    exact AllReadyH.nil
/-- Write writes. -/
theorem write_ok (h : Own C p s c pv A w) (k : Nat) (b : BA) (hr : A.runs = true) (hk : k < A.last.length) (hb : b.length = 64) (hl : A.left ≠ 0) (hm : A.pend.length ≤ 1000000) :
    Calls Tryz.prog 43 #[ptr p, .int .i64 k, .string (str b)] w fun e w' => e = .returned (.int .i64 0) ∧ Did C p s c pv (wrote A k b) w w' := by
  by_cases h0 : 0 < A.left
  · refine (write_pos h k b hr hk hb h0 hm).mono fun e w' ⟨he, pv', h1, h2, h3⟩ => ⟨he, pv', ?_, (Turned.setCell p s pv w 3 _).trans h2 (Moved.refl _ _), fun q hq => ?_⟩
    · have e : wrote A k b = { A with left := A.left - 1, pend := A.pend ++ [(k, b)] } := by simp [wrote, h0]
      rw [e]; exact h1
    · rcases h3 q hq with h4 | h4
      · exact .inl h4
      · exact .inr (by simpa [World.setCell] using h4)
  · refine (write_neg h k b hr hk hb (by omega) hm).mono fun e w' ⟨he, pv', h1, h2, h3⟩ => ⟨he, pv', ?_, h2, h3⟩
    have e : wrote A k b = { A with pend := A.pend ++ [(k, b)] } := by simp [wrote, h0]
    rw [e]; exact h1
theorem write_err (q : Value) (k : Int) (x : Value) (e0 : Int) (w : World) (he : (e0 != 0) = true) (hR : Calls Tryz.prog 72 #[q, .int .i64 k] w fun e w' => e = .returned (.int .i64 e0) ∧ w = w') :
    Calls Tryz.prog 43 #[q, .int .i64 k, x] w fun e w' => e = .returned (.int .i64 e0) ∧ w = w' := by
  have HR := Lib.hid hR
  clear hR
  go_enter Tryz.func43, Tryz.ntmps43
  go_wp2_with fail
  refine HR.out.mono ?_; rintro e w' ⟨rfl, rfl⟩
  go_wp2_with fail
  go_ret
  exact ⟨rfl, rfl⟩
theorem write_dead (h : Own C p s c pv A w) (k : Int) (x : Value) (hr : A.runs = false) :
    Calls Tryz.prog 43 #[ptr p, .int .i64 k, x] w fun e w' => e = .returned (.int .i64 10) ∧ w = w' := write_err _ _ _ _ _ rfl (refuse_dead h k hr)
theorem write_nil (k : Int) (x : Value) (w : World) :
    Calls Tryz.prog 43 #[.pointer none, .int .i64 k, x] w fun e w' => e = .returned (.int .i64 10) ∧ w = w' := write_err _ _ _ _ _ rfl (refuse_nil k w)
theorem write_range (h : Own C p s c pv A w) (k : Int) (x : Value) (hr : A.runs = true) (hk : k < 0 ∨ (A.last.length : Int) ≤ k) :
    Calls Tryz.prog 43 #[ptr p, .int .i64 k, x] w fun e w' => e = .returned (.int .i64 12) ∧ w = w' := write_err _ _ _ _ _ rfl (refuse_range h k hr hk)
theorem write_arg (h : Own C p s c pv A w) (k : Nat) (x : ByteArray) (hr : A.runs = true) (hk : k < A.last.length) (hx : x.size ≠ 64) (hm : x.size ≤ maxLen) :
    Calls Tryz.prog 43 #[ptr p, .int .i64 k, .string x] w fun e w' => e = .returned (.int .i64 1) ∧ w = w' := by
  unfold maxLen at hm
  have HR := Lib.hid (refuse_ok h k hr hk)
  have x1 : ((x.size : Int) == 64) = false := by simp; omega
  have x2 : ((x.size : Int) != 64) = true := by simp; omega
  clear h hx hk hr
  go_enter Tryz.func43, Tryz.ntmps43
  go_wp2_with fail
  refine HR.out.mono ?_; rintro e w' ⟨rfl, rfl⟩
  go_wp2_with fail
  go_ret
  exact ⟨rfl, rfl⟩
/-- At this write the machine stops. -/
theorem write_stop (h : Own C p s c pv A w) (k : Nat) (b : BA) (hr : A.runs = true) (hk : k < A.last.length) (hb : b.length = 64) (hl : A.left = 0) :
    Calls Tryz.prog 43 #[ptr p, .int .i64 k, .string (str b)] w fun e w' => e = .returned (.int .i64 10) ∧ Own C p s c pv { A with runs := false } w' ∧ Turned p s pv w w' := by
  have HR := Lib.hid (refuse_ok h k hr hk)
  have hc3 := h.cell3
  have hc2 := h.cell2
  have hf2 := h.free 2
  have HO := Lib.hid h
  rw [hl] at hc3
  have hsz : (str b).size = 64 := by rw [str_size, hb]
  clear h hl hk hr
  go_enter Tryz.func43, Tryz.ntmps43
  go_wp2_with fail
  refine HR.out.mono ?_; rintro e w' ⟨rfl, rfl⟩
  go_wp2_with fail
  go_ret
  have h := HO.out
  exact ⟨rfl, h.setHead pv { A with runs := false } 2 _ rfl rfl (.inl rfl) rfl h.row h.whole h.fits h.l1 h.l2, Turned.setCell _ _ _ _ _ _⟩
end Go.Proofs.YtnjggoeahaglbaaGreat.Dk

/- A region within a round of a range over a function: what it does outside a round it does there. No program. -/
namespace Go.Proofs.YtnjggoeahaglbaaGreat.Dk
open Go.RowKit
set_option linter.unusedVariables false
section
variable {P : Program} {ops : Array Oper} {Q : Exit → Act → World → Prop}
/-- Operations that yield a value, or none; no calls, no defers. -/
def calmOp (o : Oper) : Bool :=
  match o.op with
  | .move _ | .assign _ | .nilCheck _ | .fieldAddr .. | .indexAddr .. | .load .. | .store .. | .alloc _ | .binOp .. => true
  | _ => false
theorem run_v (s : Sem Value) (w : World) (x : Next) (w' : World) (h : (do pure (Next.value (← s)) : Sem Next).run P w = .ok x w') : ∃ v, x = .value v := by
  rw [Sem.run_bind] at h
  cases hs : s.run P w with
  | ok v w1 => rw [hs] at h; simp only [Result.andThen_ok, Sem.run_pure, Result.ok.injEq] at h; exact ⟨v, h.1.symm⟩
  | halt e w1 => rw [hs] at h; simp [Result.andThen] at h
theorem run_u (s : Sem Unit) (w : World) (x : Next) (w' : World) (h : (do s; pure .skip : Sem Next).run P w = .ok x w') : x = .skip := by
  rw [Sem.run_bind] at h
  cases hs : s.run P w with
  | ok v w1 => rw [hs] at h; simp only [Result.andThen_ok, Sem.run_pure, Result.ok.injEq] at h; exact h.1.symm
  | halt e w1 => rw [hs] at h; simp [Result.andThen] at h
theorem vals_bind {α : Type} {m : Sem α} {f : α → Sem Next} (hf : ∀ a w x w', (f a).run P w = .ok x w' → ∃ v, x = .value v) : ∀ w x w', (m >>= f).run P w = .ok x w' → ∃ v, x = .value v := fun w x w' h => by
  rw [Sem.run_bind] at h
  cases hs : m.run P w with
  | ok v w1 => rw [hs] at h; exact hf _ _ _ _ h
  | halt e w1 => rw [hs] at h; simp [Result.andThen] at h
theorem vals_pure (v : Value) : ∀ w x w', (pure (Next.value v) : Sem Next).run P w = .ok x w' → ∃ u, x = .value u := fun w x w' h => by
  simp only [Sem.run_pure, Result.ok.injEq] at h; exact ⟨_, h.1.symm⟩
theorem calm_res {o : Oper} (hc : calmOp o = true) (ρ : Operand → Value) (w : World) (x : Next) (w' : World) (h : (execOp ρ o).run P w = .ok x w') : (∃ v, x = .value v) ∨ x = .skip := by
  unfold calmOp at hc
  unfold execOp at h
  cases ho : o.op <;> simp only [ho] at hc h <;> first
    | (cases hc; done)
    | exact .inl (run_v _ _ _ _ h)
    | exact .inr (run_u _ _ _ _ h)
    | (simp only [Sem.run_pure, Result.ok.injEq] at h; exact .inl ⟨_, h.1.symm⟩)
    | (repeat' split at h
       all_goals first
         | (simp only [Sem.run_pure, Result.ok.injEq] at h; exact .inl ⟨_, h.1.symm⟩)
         | (simp [runtimePanic] at h; done)
         | (refine .inl (vals_bind (fun _ => vals_bind (fun _ => ?_)) _ _ _ h)
            intro w1 x1 w2 h1
            split at h1
            · exact vals_bind (fun _ => vals_pure _) _ _ _ h1
            · exact vals_pure _ _ _ _ h1))
theorem calm_defer {o : Oper} (hc : calmOp o = true) : ∀ c, o.op ≠ .defer c := fun c e => by simp [calmOp, e] at hc
theorem upon_in {F : Fence} {n : Nat} {o : Oper} {a : Act} {K K' : Act → World → Prop} {r : Result Next} (hr : ∀ x w', r = .ok x w' → (∃ v, x = .value v) ∨ x = .skip) (hK : ∀ a w, K a w → K' a w)
    (h : o.upon P a K Q r) : o.uponIn F n P a K' Q r := by
  cases r with
  | ok x w' =>
    rcases hr x w' rfl with ⟨v, rfl⟩ | rfl
    · exact hK _ _ h
    · exact hK _ _ h
  | halt e w' => cases e <;> first | exact h | exact h.elim
theorem wpOps_in {n l0 : Nat} (hq : ¬ LetsOut Q) (hc : ops.all calmOp = true) : ∀ (l : List Nat) (a : Act) (w : World), wpOps P ops Q l a w → wpOpsIn (Fence.wide.inRound l0) n P ops Q l a w
  | [], _, _, h => h
  | i :: rest, a, w, h => by
    unfold wpOps at h
    unfold wpOpsIn
    cases ho : ops[i]? with
    | none => rw [ho] at h; exact wpOps_in hq hc rest a w h
    | some o =>
      rw [ho] at h
      have hco : calmOp o = true := (Array.all_eq_true_iff_forall_mem.1 hc) o (Array.mem_of_getElem? ho)
      simp only at h ⊢
      split at h
      · rename_i hw
        rw [if_pos hw]
        rcases h with h | h
        · refine ⟨fun _ _ => trivial, ?_⟩
          rw [Oper.semAt_eq _ _ _ (calm_defer hco)]
          exact upon_in (calm_res hco _ _) (fun a w h => wpOps_in hq hc rest a w h) h
        · exact absurd h.2 hq
      · rename_i hw
        rw [if_neg hw]
        exact ⟨fun _ _ => trivial, wpOps_in hq hc rest _ w h⟩
/-- A region that draws its order, in a round. -/
theorem round_held {l n id : Nat} {S : World → Prop} {a : Act} {w : World} (hq : ¬ LetsOut Q) (hc : ops.all calmOp = true) (hm : P.follows .mixedOrders = true) (hS : S w.drew)
    (h : S w.drew → wpAnyH P .any ops Q S ops.size (Array.replicate ops.size false) a w.drew) : (Code.region id ops true).wpIn (Fence.wide.inRound l) n P Q a w :=
  wpIn_region_draw fun t => by
    refine wpOps_in hq hc _ _ _ ?_
    simp only [Region.schedule, hm, Bool.true_or, if_true]
    exact wpAny_sound ops.size t _ a _ (wpAny_of_held _ _ _ _ (h hS))
/-- A region in the order of the text, in a round. -/
theorem round_list {l n id : Nat} {a : Act} {w : World} (hq : ¬ LetsOut Q) (hc : ops.all calmOp = true) (h : wpList P ops Q ops.toList a w) : (Code.region id ops false).wpIn (Fence.wide.inRound l) n P Q a w :=
  wpIn_region (wpOps_in hq hc _ _ _ (by rw [List.range_eq_range', ← Array.length_toList, wpOps_eq_wpList ops.toList 0 (by simp)]; exact h))
theorem round_lit {l n id : Nat} {L : List Oper} {a : Act} {w : World} (hq : ¬ LetsOut Q) (hc : L.toArray.all calmOp = true) (h : wpList P L.toArray Q L a w) : (Code.region id L.toArray false).wpIn (Fence.wide.inRound l) n P Q a w :=
  round_list hq hc (by simpa using h)
end
end Go.Proofs.YtnjggoeahaglbaaGreat.Dk

/- slices.Backward over the pending writes: its iterator's contract. -/
namespace Go.Proofs.YtnjggoeahaglbaaGreat.Dk
open Go.RowKit Go.Shelf
attribute [local go_sem] Oper.semAt_some
set_option linter.unusedVariables false
set_option linter.unusedSimpArgs false

/-- A world below n₀, but for block s, as it was. -/
def KeepBut (n₀ s : Nat) (w w' : World) : Prop := w.heap.size ≤ w'.heap.size ∧ ∀ k, k < n₀ → k ≠ s → w'.heap[k]? = w.heap[k]?
theorem KeepBut.refl (n₀ s : Nat) (w : World) : KeepBut n₀ s w w := ⟨Nat.le_refl _, fun _ _ _ => rfl⟩
theorem KeepBut.trans {n₀ s : Nat} {a b c : World} (h : KeepBut n₀ s a b) (k : KeepBut n₀ s b c) : KeepBut n₀ s a c := ⟨Nat.le_trans h.1 k.1, fun i h1 h2 => (k.2 i h1 h2).trans (h.2 i h1 h2)⟩
theorem KeepBut.cell {n₀ s : Nat} {a b : World} (h : KeepBut n₀ s a b) {x : Addr} (hx : x.block < n₀) (hs : x.block ≠ s) : b.cell? x = a.cell? x := World.cell?_of_block (w := a) (h.2 _ hx hs)
theorem keepBut_b {n₀ s : Nat} {w : World} (hn : n₀ ≤ w.heap.size) (W : World) (l : Nat) (o o' : Obj) (hl : w.heap.size ≤ l) (h : W.heap[l]? = some o) (_ : o.isCells = false) (_ : o.isWalk = false) : KeepBut n₀ s W (W.putObj l o') :=
  ⟨by simp, fun k hk _ => World.putObj_heap_other (by omega)⟩
theorem KeepBut.below {n₀ s : Nat} {a b : World} (h : Below n₀ a b) : KeepBut n₀ s a b := ⟨h.size, fun k hk _ => h.block k hk⟩

theorem wpListIn_load_mid {F : Fence} {n : Nat} {P : Program} {ops : Array Oper} {rest : List Oper} {op : Oper} {a : Act} {w : World} {Q : Exit → Act → World → Prop} (hgd : op.guard = none) (ty : TypeId) (x : Operand) (ho : op.op = .load ty x)
    (b o : Nat) (hx : a.eval x = .pointer (some ⟨b, o, none⟩)) (cs : List Value) (d : TypeDesc) (hc : w.rangeAt b o cs)
    (hu : P.underlying ty = some d) (hd : d.isRow = true) (hi : (P.info? ty).map (·.size) = some cs.length)
    (h : wpListIn F n P ops Q rest (a.put op.dst (.agg cs.toArray)) w) : wpListIn F n P ops Q (op :: rest) a w := by
  refine wpListIn_plain hgd fun K hK => ?_
  unfold Oper.wpIn
  refine ⟨?_, ?_⟩
  · simp [Oper.about, ho]
  · rw [Oper.semAt_eq _ _ _ (by rw [ho]; intro c hc'; cases hc')]
    unfold execOp
    simp only [ho, hx, Instr.loadAt, Instr.sureAddr, Sem.run_bind, Sem.run_pure, Result.andThen_ok, run_loadVar_mid w b o ty cs d hc hu hd hi]
    exact hK _ _ h

/-- The writes one by one, the last first: their numbers. -/
def down (m k : Nat) : List Nat := (List.range k).map fun j => m - 1 - j
theorem down_succ (m k : Nat) : down m (k + 1) = down m k ++ [m - 1 - k] := by simp [down, List.range_succ]
theorem down_length (m k : Nat) : (down m k).length = k := by simp [down]
/-- What the iterator hands over. -/
def wargs (cell : Nat → List Value) (m : Nat) (x : { i : Nat // i < m }) : Array Value := #[.int .i64 (x.1 : Int), .agg (cell x.1).toArray]

set_option maxRecDepth 100000 in
set_option maxHeartbeats 2000000 in
theorem back1_in (n : Nat) (hn : 1 ≤ n) (l Bs n₀ s b m cap : Nat) (cell : Nat → List Value) (hm : m ≤ 1000000) (hbn : b < n₀) (hbs : b ≠ s) (hBn : Bs < n₀) (hBs' : Bs ≠ s) (hlen : ∀ i, i < m → (cell i).length = 129) (J Jx : List { i : Nat // i < m } → World → Prop)
    (hY : ∀ pre x W, J pre W → pre.length < m → YieldAt Fence.wide (n - 1) Tryz.prog l (wargs cell m x) W fun e W' =>
      (e = .returned (.bool true) ∧ J (pre ++ [x]) W' ∧ KeepBut n₀ s W W') ∨ (e = .returned (.bool false) ∧ Jx (pre ++ [x]) W'))
    (W : World) (hBs : W.cell? ⟨Bs, 0, none⟩ = some (.slice (some ⟨b, 0, none⟩) m cap)) (hc : ∀ i, i < m → W.rangeAt b (i * 129) (cell i)) (h0 : J [] W) :
    CallsIn Fence.wide n Tryz.prog 86 #[.func (.yield l) #[] #[], .pointer (some ⟨Bs, 0, none⟩)] W fun e W' => (∃ v, e = .returned v) ∧
      ((∃ ys, ys.map (·.1) = down m m ∧ J ys W') ∨ (∃ pre, True ∧ Jx pre W')) := by
  have hN : (m : Int) ≤ 1000000 := by omega
  have hu := Tryz.underlying103
  refine callsIn_of_wp Tryz.func86 rfl trivial ?_ rfl
  simp only [Tryz.ntmps86, List.size_toArray, List.length_cons, List.length_nil, Nat.reduceAdd, Nat.reduceSub, Array.replicate_succ, Array.replicate_zero, List.push_toArray, List.append_toArray, List.nil_append, List.cons_append]
  have HC := Lib.hid hc
  have HL := Lib.hid hlen
  clear hc hlen
  gi_wp2
  gi_loopw [3] (fun i wr => ∃ k : Nat, k ≤ m ∧ i = .int .i64 ((m : Int) - 1 - k) ∧ ∃ pre, pre.map (·.1) = down m k ∧ J pre wr ∧ KeepBut n₀ s W wr)
    (fun i _ => (intOf i + 1).toNat)
  case atStart => exact ⟨0, Nat.zero_le _, by simp, [], rfl, h0, KeepBut.refl _ _ _⟩
  case round =>
    obtain ⟨k, hk, rfl, pre, hpre, hJs, hnx⟩ := hrel
    have hBx : wr.cell? ⟨Bs, 0, none⟩ = some (.slice (some ⟨b, 0, none⟩) m cap) := (hnx.cell (x := ⟨Bs, 0, none⟩) hBn hBs').trans hBs
    have HP := Lib.hid hpre
    have hpl : pre.length = k := by have := congrArg List.length hpre; simpa [down_length] using this
    clear hpre
    by_cases hlt : k < m
    · obtain ⟨fn, tmps, assign, body, hy, hR⟩ := hY pre ⟨m - 1 - k, by omega⟩ wr hJs (by omega)
      have hr : wr.rangeAt b ((m - 1 - k) * 129) (cell (m - 1 - k)) := fun j v hv => (hnx.cell (x := ⟨b, (m - 1 - k) * 129 + j, none⟩) hbn hbs).trans (HC.out (m - 1 - k) (by omega) j v hv)
      have hi : (Tryz.prog.info? 103).map (·.size) = some (cell (m - 1 - k)).length := by rw [HL.out _ (by omega)]; exact size_wr
      unfold wargs at hy
      dsimp only at hy
      have hi0 : (0 : Int) ≤ (m : Int) - 1 - k := by omega
      have hi1 : (m : Int) - 1 - k < m := by omega
      have hi2 : ((m : Int) - 1 - k).toNat = m - 1 - k := by omega
      have hi3 : ((m - 1 - k : Nat) : Int) = (m : Int) - 1 - k := by omega
      rw [hi3] at hy
      have hsum : IntKind.i64.wrap ((m : Int) - 1 - k - 1) = (m : Int) - 1 - k - 1 := IntWalk.i64_in _ (by omega)
      have HPL := Lib.hid hpl
      have HU := Lib.hid hu
      have HR := Lib.hid hr
      have HI := Lib.hid hi
      clear hu hr hi hi3
      gi_wp2_with (refine wpListIn_load_mid rfl 103 (.tmp 15) rfl b ((m - 1 - k) * 129) rfl (cell (m - 1 - k)) _ HR.out HU.out rfl HI.out ?_)
      refine hR.mono ?_
      rintro e W3 (⟨rfl, hJ3, hk3⟩ | ⟨rfl, hJx3⟩)
      · gi_wp2
        go_roundw
        case rel => exact ⟨k + 1, by omega, by go_num, pre ++ [⟨m - 1 - k, by omega⟩], by rw [List.map_append, HP.out, down_succ]; rfl, hJ3, hnx.trans hk3⟩
        case measure => simp [intOf]; omega
      · gi_wp2
        refine bodyPost_ret (results_none rfl _ _ _) rfl ?_
        exact ⟨⟨_, rfl⟩, .inr ⟨_, trivial, hJx3⟩⟩
    · obtain rfl : k = m := by omega
      have hneg : ¬ (0 : Int) ≤ (k : Int) - 1 - k := by omega
      gi_wp2
      go_end0
      exact ⟨⟨_, rfl⟩, .inl ⟨pre, HP.out, hJs⟩⟩
set_option maxRecDepth 100000 in
set_option maxHeartbeats 1000000 in
/-- .. at the nil slice: no round. -/
theorem back1_nil_in (n : Nat) (l Bs : Nat) (J : List { i : Nat // i < 0 } → World → Prop) (W : World) (hBs : W.cell? ⟨Bs, 0, none⟩ = some (.slice none 0 0)) (h0 : J [] W) :
    CallsIn Fence.wide n Tryz.prog 86 #[.func (.yield l) #[] #[], .pointer (some ⟨Bs, 0, none⟩)] W fun e W' => (∃ v, e = .returned v) ∧ J [] W' := by
  refine callsIn_of_wp Tryz.func86 rfl trivial ?_ rfl
  simp only [Tryz.ntmps86, List.size_toArray, List.length_cons, List.length_nil, Nat.reduceAdd, Nat.reduceSub, Array.replicate_succ, Array.replicate_zero, List.push_toArray, List.append_toArray, List.nil_append, List.cons_append]
  gi_wp2
  gi_loopw [3] (fun i wr => i = .int .i64 (-1) ∧ J [] wr) (fun _ _ => 0)
  case atStart => exact ⟨rfl, h0⟩
  case round =>
    obtain ⟨rfl, hJs⟩ := hrel
    gi_wp2
    go_end0
    exact ⟨⟨_, rfl⟩, hJs⟩
set_option maxHeartbeats 1000000 in
theorem back_in (n : Nat) (v : Value) (hv : ∃ a len cap, v = .slice a len cap) (w : World) :
    CallsIn Fence.wide n Tryz.prog 56 #[v] w fun e w' => e = .returned (.func (.func 86) #[] #[.pointer (some ⟨w.heap.size, 0, none⟩)]) ∧ w' = w.alloc (.cells #[v] 76) := by
  obtain ⟨a, len, cap, rfl⟩ := hv
  refine callsIn_of_wp Tryz.func56 rfl trivial ?_ rfl
  simp only [Tryz.ntmps56, List.size_toArray, List.length_cons, List.length_nil, Nat.reduceAdd, Nat.reduceSub, Array.replicate_succ, Array.replicate_zero, List.push_toArray, List.append_toArray, List.nil_append, List.cons_append]
  gi_wp2
  go_ret
  exact ⟨rfl, rfl⟩
variable {C p s c : Nat} {pv : Value} {A : St} {w : World}
/-- The cells of pending write i. -/
def cellOf (A : St) (i : Nat) : List Value := wcs (A.pend.getD i (0, [])).1 ((appl A.last (A.pend.take i)).getD (A.pend.getD i (0, [])).1 []) (A.pend.getD i (0, [])).2
theorem getD_lt {α : Type} {l : List α} {i : Nat} {d : α} (h : i < l.length) : l.getD i d = l[i] := by rw [List.getD_eq_getElem?_getD, List.getElem?_eq_getElem h]; rfl
theorem Own.oldLen (h : Own C p s c pv A w) {i : Nat} (hi : i < A.pend.length) : ((appl A.last (A.pend.take i)).getD (A.pend.getD i (0, [])).1 []).length = 64 := by
  refine ((h.fits.take i).whole h.whole).getD ?_
  rw [appl_length, getD_lt hi]
  exact (h.fits _ (List.getElem_mem hi)).1
theorem Own.newLen (h : Own C p s c pv A w) {i : Nat} (hi : i < A.pend.length) : (A.pend.getD i (0, [])).2.length = 64 := by
  rw [getD_lt hi]; exact (h.fits _ (List.getElem_mem hi)).2
theorem Own.atLt (h : Own C p s c pv A w) {i : Nat} (hi : i < A.pend.length) : (A.pend.getD i (0, [])).1 < A.last.length := by
  rw [getD_lt hi]; exact (h.fits _ (List.getElem_mem hi)).1
theorem Own.cellLen (h : Own C p s c pv A w) {i : Nat} (hi : i < A.pend.length) : (cellOf A i).length = 129 := wcs_length _ (h.oldLen hi) (h.newLen hi)
theorem Own.write (h : Own C p s c pv A w) {b cp : Nat} (hv : pv = .slice (some ⟨b, 0, none⟩) A.pend.length cp) {W : World} (hW : W.heap[b]? = w.heap[b]?) {i : Nat} (hi : i < A.pend.length) : W.rangeAt b (i * 129) (cellOf A i) := fun j v hj => by
  rcases h.row.2 with ⟨h1, _⟩ | ⟨g, cap, cur, h1, h2, h3, h4, h5, h6, h7⟩
  · rw [hv] at h1; simp at h1
  · rw [hv] at h1
    simp only [Value.slice.injEq, Option.some.injEq, Addr.mk.injEq, and_true, true_and] at h1
    obtain ⟨rfl, rfl⟩ := h1
    rw [cell_of_row W b _ _ _ _ (hW.trans h3)]
    have hx := pcells_at h.whole rfl h.fits hi j v (by unfold cellOf at hj; rw [getD_lt hi] at hj; exact hj)
    rw [← h7, List.getElem?_take] at hx
    split at hx
    · simpa using hx
    · cases hx
theorem back_stops (h : Own C p s c pv A w) (hm : A.pend.length ≤ 1000000) (n : Nat) (hn : 1 ≤ n) (Bs n₀ : Nat) (w1 : World) (hB : Bs < n₀) (hBs : Bs ≠ s) (hn0 : n₀ ≤ w1.heap.size) (hw : w.heap.size ≤ n₀) (h1 : ∀ k, k < w.heap.size → w1.heap[k]? = w.heap[k]?)
    (hc : w1.cell? ⟨Bs, 0, none⟩ = some pv) :
    SeqStopsK Fence.wide n Tryz.prog 86 #[.pointer (some ⟨Bs, 0, none⟩)] (wargs (cellOf A) A.pend.length) (KeepBut n₀ s) (fun ys => ys.map (·.1) = down A.pend.length A.pend.length) (fun _ => True) A.pend.length w1 := fun l J Jx W hW _ _ hY h0 => by
  have hc' := (hW.cell (p := ⟨Bs, 0, none⟩) (show Bs < w1.heap.size by omega)).trans hc
  rcases h.row.2 with ⟨h2, h3⟩ | ⟨g, cap, cur, h2, h3, h4, _⟩
  · rw [h2] at hc'
    generalize A.pend.length = m at *
    subst h3
    exact (back1_nil_in n l Bs J W hc' h0).mono fun e W' ⟨he, hj⟩ => ⟨he, .inl ⟨[], rfl, hj⟩⟩
  · have hg : g < w.heap.size := (Array.getElem?_eq_some_iff.1 h4).1
    rw [h2] at hc'
    exact back1_in n hn l Bs n₀ s g A.pend.length cap (cellOf A) hm (by omega) (fun e => h.vs (by rw [h2, ← e]; rfl)) hB hBs (fun i hi => h.cellLen hi) J Jx hY W hc'
      (fun i hi => h.write h2 ((hW.block g (by omega)).trans (h1 g hg)) hi) h0
end Go.Proofs.YtnjggoeahaglbaaGreat.Dk

/- The contract of Crash. -/
namespace Go.Proofs.YtnjggoeahaglbaaGreat.Dk
open Go.RowKit Go.Shelf
attribute [local go_sem] Oper.semAt_some
set_option linter.unusedVariables false
set_option linter.unusedSimpArgs false
variable {C p s c : Nat} {pv : Value} {A : St} {w : World}

/-- Block s holds these sectors. -/
def SecsAt (s n : Nat) (L : List BA) (W : World) : Prop := ∃ cur, W.heap[s]? = some (.cells cur 101 (0, 0)) ∧ n * 64 ≤ cur.size ∧ ∀ k, k < n → ∀ j v, (cb (L.getD k []))[j]? = some v → cur[k * 64 + j]? = some v
theorem SecsAt.same {s n : Nat} {L : List BA} {W W' : World} (h : SecsAt s n L W) (hb : W'.heap[s]? = W.heap[s]?) : SecsAt s n L W' := by
  obtain ⟨cur, h1, h2⟩ := h; exact ⟨cur, hb.trans h1, h2⟩
theorem SecsAt.there {s n : Nat} {L : List BA} {W : World} (h : SecsAt s n L W) {k : Nat} (hk : k < n) : W.there s (k * 64) 64 := fun j hj => by
  obtain ⟨cur, h1, h2, _⟩ := h
  refine ⟨?_, frozen_of_row W s _ _ _ h1⟩
  rw [cell_of_row W s _ _ _ _ h1, Array.getElem?_eq_getElem (by omega)]
  rfl
/-- Below n₀ nothing has turned but block s. -/
structure ButS (n₀ s : Nat) (w W : World) : Prop where
  os : W.os = w.os
  tape : W.tape = w.tape
  output : W.output = w.output
  size : w.heap.size ≤ W.heap.size
  block : ∀ k, k < n₀ → k ≠ s → W.heap[k]? = w.heap[k]?
theorem ButS.refl (n₀ s : Nat) (w : World) : ButS n₀ s w w := ⟨rfl, rfl, rfl, Nat.le_refl _, fun _ _ _ => rfl⟩
theorem ButS.trans {n₀ s : Nat} {a b c : World} (h : ButS n₀ s a b) (k : ButS n₀ s b c) : ButS n₀ s a c := ⟨k.os.trans h.os, k.tape.trans h.tape, k.output.trans h.output, Nat.le_trans h.size k.size, fun i h1 h2 => (k.block i h1 h2).trans (h.block i h1 h2)⟩
theorem ButS.cell {n₀ s : Nat} {a b : World} (h : ButS n₀ s a b) {x : Addr} (hx : x.block < n₀) (hs : x.block ≠ s) : b.cell? x = a.cell? x := World.cell?_of_block (w := a) (h.block _ hx hs)
theorem ButS.keep {n₀ s : Nat} {a b : World} (h : ButS n₀ s a b) : KeepBut n₀ s a b := ⟨h.size, h.block⟩
theorem ButS.below {n₀ s : Nat} {a b : World} (h : Below n₀ a b) : ButS n₀ s a b := ⟨h.os, h.tape, h.output, h.size, fun k hk _ => h.block k hk⟩
theorem ButS.mono {n₀ n₁ s : Nat} {a b : World} (h : ButS n₀ s a b) (hn : n₁ ≤ n₀) : ButS n₁ s a b := ⟨h.os, h.tape, h.output, h.size, fun k hk => h.block k (by omega)⟩
theorem ButS.setCells {n₀ s : Nat} (W : World) (o : Nat) (vs : List Value) : ButS n₀ s W (W.setCells s o vs) :=
  ⟨(setCells_os s vs o W).1, (setCells_os s vs o W).2.1, (setCells_os s vs o W).2.2, by rw [setCells_size]; exact Nat.le_refl _, fun k _ h => setCells_block s vs o W k h⟩
theorem secsAt_ownFrom {β : Type} {s n B : Nat} (f : β → List BA) (hs : s < B) : OwnFrom B (fun pre W => SecsAt s n (f pre) W) := fun pre W W' row h hg hr => by
  obtain ⟨cur, h1, h2⟩ := h
  exact ⟨cur, (hg.block s (Array.getElem?_eq_some_iff.1 h1).1 (fun e => by have := (hr s e.symm).1; omega)).trans h1, h2⟩
theorem butS_ownFrom {β : Type} {n₀ s B : Nat} {w : World} (hn : n₀ ≤ w.heap.size) (hB : n₀ ≤ B) : OwnFrom B (fun (_ : β) W => ButS n₀ s w W) := fun _ W W' row h hg hr =>
  h.trans ⟨hg.os, hg.tape, hg.output, hg.size, fun k hk _ => hg.block k (by have := h.size; omega) (fun e => by have := (hr k e.symm).1; omega)⟩
theorem keepsOthers_setCells (g : Nat) : ∀ (vs : List Value) (o : Nat) (w : World), KeepsOthers w (w.setCells g o vs)
  | [], _, w => KeepsOthers.refl w
  | v :: vs, o, w => by rw [World.setCells]; exact (KeepsOthers.setCell w _ v).trans (keepsOthers_setCells g vs (o + 1) _)

theorem wpListIn_store_mid {F : Fence} {n : Nat} {P : Program} {ops : Array Oper} {rest : List Oper} {op : Oper} {a : Act} {w : World} {Q : Exit → Act → World → Prop} (hgd : op.guard = none) (ty : TypeId) (x y : Operand) (ho : op.op = .store ty x y)
    (b o : Nat) (cells : Array Value) (hx : a.eval x = .pointer (some ⟨b, o, none⟩)) (hy : a.eval y = .agg cells)
    (ht : w.there b o cells.size) (hi : (P.info? ty).map (·.size) = some cells.size) (h1 : cells.all (·.oneCell') = true)
    (h : wpListIn F n P ops Q rest (a.put op.dst undef) (w.setCells b o cells.toList)) : wpListIn F n P ops Q (op :: rest) a w := by
  refine wpListIn_plain hgd fun K hK => ?_
  unfold Oper.wpIn
  refine ⟨?_, ?_⟩
  · simp [Oper.about, ho]
  · rw [Oper.semAt_eq _ _ _ (by rw [ho]; intro c hc'; cases hc')]
    unfold execOp
    simp only [ho, hx, hy, Instr.storeAt, Instr.sureAddr, Sem.run_bind, Sem.run_pure, Result.andThen_ok, run_storeVar_mid w b o ty cells ht hi h1]
    exact hK _ _ h

/-! The writes taken back. -/
abbrev Ix (A : St) := { i : Nat // i < A.pend.length }
def atOf (A : St) (i : Nat) : Nat := (A.pend.getD i (0, [])).1
def oldOf (A : St) (i : Nat) : BA := (appl A.last (A.pend.take i)).getD (A.pend.getD i (0, [])).1 []
def newOf (A : St) (i : Nat) : BA := (A.pend.getD i (0, [])).2
def undo (A : St) (l : List Nat) : List BA := l.foldl (fun S i => S.set (atOf A i) (oldOf A i)) (appl A.last A.pend)
theorem undo_snoc (A : St) (l : List Nat) (i : Nat) : undo A (l ++ [i]) = (undo A l).set (atOf A i) (oldOf A i) := by simp [undo]
theorem undo_length (A : St) (l : List Nat) : (undo A l).length = A.last.length := by
  have : ∀ (l : List Nat) (S : List BA), (l.foldl (fun S i => S.set (atOf A i) (oldOf A i)) S).length = S.length := by
    intro l
    induction l with
    | nil => intro S; rfl
    | cons i l ih => intro S; rw [List.foldl_cons, ih]; simp
  rw [undo, this, appl_length]
theorem undo_whole (h : Own C p s c pv A w) (l : List Nat) (hl : ∀ i ∈ l, i < A.pend.length) : Whole (undo A l) := by
  have : ∀ (l : List Nat) (S : List BA), (∀ i ∈ l, i < A.pend.length) → Whole S → Whole (l.foldl (fun S i => S.set (atOf A i) (oldOf A i)) S) := by
    intro l
    induction l with
    | nil => intro S _ h; exact h
    | cons i l ih => intro S hl hS; exact ih _ (fun j hj => hl j (by simp [hj])) (hS.set _ (h.oldLen (hl i (by simp))))
  exact this l _ hl h.wholeNow
theorem undo_down (A : St) : ∀ k, k ≤ A.pend.length → undo A (down A.pend.length k) = appl A.last (A.pend.take (A.pend.length - k))
  | 0, _ => by simp [down, undo]
  | k + 1, h => by
    have hi : A.pend.length - 1 - k < A.pend.length := by omega
    rw [down_succ, undo_snoc, undo_down A k (by omega), show A.pend.length - k = (A.pend.length - 1 - k) + 1 by omega, take_snoc' _ _ hi]
    rw [show A.pend.length - (k + 1) = A.pend.length - 1 - k by omega]
    unfold atOf oldOf
    rw [getD_lt hi]
    exact appl_back _ _ _
theorem undo_all (A : St) : undo A (down A.pend.length A.pend.length) = A.last := by rw [undo_down A _ (Nat.le_refl _)]; simp [appl]

theorem cellOf_eq (A : St) (i : Nat) : cellOf A i = .int .i64 (atOf A i : Int) :: (cb (oldOf A i) ++ cb (newOf A i)) := rfl
theorem range_first {w : World} {g : Nat} {k : Int} {co cn : List Value} {t : TypeId} (h : w.heap[g]? = some (.cells (.int .i64 k :: (co ++ cn)).toArray t (0, 0))) (hl : co.length = 64) : w.rangeAt g 1 co := fun j v hv => by
  have hj := (List.getElem?_eq_some_iff.1 hv).1
  rw [cell_of_row w g _ _ _ _ h, List.getElem?_toArray, Nat.add_comm 1 j, List.getElem?_cons_succ, List.getElem?_append_left hj]
  exact hv
/-- The list of what is kept lies outside the disk. -/
def KeepAt (p s : Nat) (ka : Option Addr) (keep : List Bool) (w : World) : Prop := ∀ i, i < keep.length → ∃ g o, ka = some ⟨g, o, none⟩ ∧ g ≠ p ∧ g ≠ s ∧ w.cell? ⟨g, o + i, none⟩ = some (.bool (keep.getD i false))
def crashed (A : St) (keep : List Bool) : St := ⟨appl A.last (kept A.pend keep), [], true, -1⟩
def Crashed (C p s c : Nat) (pv : Value) (A : St) (keep : List Bool) (w w' : World) : Prop := Own C p s c (.slice none 0 0) (crashed A keep) w' ∧ Turned p s pv w w'
theorem kept_le (p : List PW) (keep : List Bool) : (kept p keep).length ≤ p.length := by
  unfold kept
  rw [List.length_map]
  exact Nat.le_trans (List.length_filter_le _ _) (by simp)
/-- Between two rounds of the second loop. -/
def Mid (C p s : Nat) (A : St) (keep : List Bool) (w1 : World) (D i : Nat) (W : World) : Prop :=
  SecsAt s A.last.length (appl A.last (kept (A.pend.take i) keep)) W ∧ ButS w1.heap.size s w1 W ∧ W.heap[D]? = some (.deferred (some []))
theorem Own.pvBlock (h : Own C p s c pv A w) {va : Option Addr} {vc : Nat} (hv : pv = .slice va A.pend.length vc) (h0 : 0 < A.pend.length) : ∃ g, va = some ⟨g, 0, none⟩ ∧ g ≠ s ∧ g < w.heap.size := by
  rcases h.row.2 with ⟨h1, h2⟩ | ⟨g, cap, cur, h1, h2, h3, _⟩
  · omega
  · rw [hv] at h1
    simp only [Value.slice.injEq] at h1
    exact ⟨g, h1.1, fun e => h.vs (by rw [hv, h1.1, ← e]; rfl), (Array.getElem?_eq_some_iff.1 h3).1⟩
theorem kept_take (A : St) (keep : List Bool) {i : Nat} (hi : i < A.pend.length) : kept (A.pend.take (i + 1)) keep = kept (A.pend.take i) keep ++ (if keep.getD i false then [(atOf A i, newOf A i)] else []) := by
  rw [take_snoc' _ _ hi, kept_snoc, List.length_take, Nat.min_eq_left (by omega)]
  unfold atOf newOf
  rw [getD_lt hi]
theorem mid_no {keep : List Bool} {w1 wr X : World} {D i : Nat} (hM : Mid C p s A keep w1 D i wr) (hX : Below wr.heap.size wr X) (hs : s < w1.heap.size) (hi : i < A.pend.length) (hk : keep.getD i false = false) : Mid C p s A keep w1 D (i + 1) X := by
  obtain ⟨h1, h2, h3⟩ := hM
  have hsz := h2.size
  refine ⟨?_, h2.trans (ButS.below (hX.mono hsz)), (hX.block D (Array.getElem?_eq_some_iff.1 h3).1).trans h3⟩
  rw [kept_take A keep hi, hk]
  simpa using h1.same (hX.block s (by omega))
theorem mid_yes (h : Own C p s c pv A w) {keep : List Bool} {w1 wr X : World} {D i k : Nat} {cn : List Value} (hM : Mid C p s A keep w1 D i wr) (hX : Below wr.heap.size wr X) (hs : s < w1.heap.size) (hD : w1.heap.size ≤ D) (hi : i < A.pend.length) (hk : keep.getD i false = true) (hkk : k = atOf A i) (hcn : cn = cb (newOf A i)) :
    Mid C p s A keep w1 D (i + 1) (X.drew.setCells s (k * 64) cn) := by
  subst hkk hcn
  obtain ⟨h1, h2, h3⟩ := hM
  have hsz := h2.size
  have hl : (appl A.last (kept (A.pend.take i) keep)).length = A.last.length := appl_length _ _
  refine ⟨?_, h2.trans ((ButS.below (hX.mono hsz)).trans (ButS.trans (b := X.drew) ⟨rfl, rfl, rfl, Nat.le_refl _, fun _ _ _ => rfl⟩ (ButS.setCells X.drew _ _))), ?_⟩
  · rw [kept_take A keep hi, hk, if_pos rfl, appl_snoc]
    exact secs_stored (w := X.drew) hl (((h.fits.take i).kept keep).whole h.whole) (h.atLt hi) (h.newLen hi) (h1.same (hX.block s (by omega))) rfl
  · rw [setCells_block _ _ _ _ _ (by omega)]
    exact (hX.block D (Array.getElem?_eq_some_iff.1 h3).1).trans h3
theorem crash_end (h : Own C p s c pv A w) {w1 wr : World} {D : Nat} {keep : List Bool} (hB : Below w.heap.size w w1) (hM : Mid C p s A keep w1 D A.pend.length wr) (hD : w1.heap.size ≤ D) :
    Crashed C p s c pv A keep w ((((wr.setCell ⟨p, 1, none⟩ (.slice none 0 0)).setCell ⟨p, 2, none⟩ (.bool true)).setCell ⟨p, 3, none⟩ (.int .i64 (-1))).drew.putObj D (.deferred none)) := by
  obtain ⟨h1, h2, h3⟩ := hM
  have hlt := h.lt
  have hlts := h.lts
  have hps := h.ps
  have hs1 := hB.size
  have hs2 := h2.size
  have hp : wr.heap[p]? = some (.cells #[.slice (some ⟨s, 0, none⟩) A.last.length c, pv, .bool A.runs, .int .i64 A.left] 78 (0, 0)) := (h2.block p (by omega) hps).trans ((hB.block p hlt).trans h.head)
  have e1 := heap_setCell_same _ _ 1 _ _ (.slice none 0 0) hp
  have e2 := heap_setCell_same _ _ 2 _ _ (.bool true) e1
  have e3 := heap_setCell_same _ _ 3 _ _ (.int .i64 (-1)) e2
  have old : ∀ q, q ≠ p → q ≠ D → ((((wr.setCell ⟨p, 1, none⟩ (.slice none 0 0)).setCell ⟨p, 2, none⟩ (.bool true)).setCell ⟨p, 3, none⟩ (.int .i64 (-1))).drew.putObj D (.deferred none)).heap[q]? = wr.heap[q]? := fun q hq hqD => by
    rw [World.putObj_heap_other (fun e => hqD e)]
    show (((wr.setCell ⟨p, 1, none⟩ (.slice none 0 0)).setCell ⟨p, 2, none⟩ (.bool true)).setCell ⟨p, 3, none⟩ (.int .i64 (-1))).heap[q]? = _
    rw [heap_setCell_other _ _ _ _ hq, heap_setCell_other _ _ _ _ hq, heap_setCell_other _ _ _ _ hq]
  have hlen : (appl A.last (kept (A.pend.take A.pend.length) keep)).length = A.last.length := appl_length _ _
  rw [List.take_length] at h1 hlen
  refine ⟨⟨h.hp, h.hs, h.ps, by simp [Value.ownBlock], by simp [Value.ownBlock], ?_, ?_, World.ownsRow_nil _ _ _ _, (h.fits.kept keep).whole h.whole, Fits.nil _, ?_, ?_, ?_, h.c2, by simp [crashed], by simp [crashed]⟩, ?_⟩
  · rw [World.putObj_heap_other (by omega)]
    refine e3.trans ?_
    simp [crashed, hlen]
  · refine SecsAt.same (W := wr) ?_ (old s (by omega) (by omega))
    show SecsAt s (appl A.last (kept A.pend keep)).length (appl (appl A.last (kept A.pend keep)) []) wr
    rw [hlen]
    exact h1
  · simp only [crashed, hlen]; exact h.n1
  · simp only [crashed, hlen]; exact h.n2
  · simp only [crashed, hlen]; exact h.c1
  · refine ⟨h2.os.trans hB.os, h2.tape.trans hB.tape, h2.output.trans hB.output, ?_, fun q hq hqp hqs _ => ?_⟩
    · simp [World.setCell]; omega
    · rw [old q hqp (by omega)]
      exact (h2.block q (by omega) hqs).trans (hB.block q hq)
/-- What a round of the first loop leaves. -/
theorem back_round (h : Own C p s c pv A w) {w1 W : World} {n₀ B : Nat} {pre : List (Ix A)} (hI1 : SecsAt s A.last.length (undo A (pre.map (·.1))) W) (hI2 : ButS n₀ s w1 W) (hs : s < n₀) (x : Ix A) {k : Nat} {co : List Value} (hk : k = atOf A x.1) (hco : co = cb (oldOf A x.1)) :
    KeepsFrom B W (W.drew.setCells s (k * 64) co) ∧ KeepBut n₀ s W (W.drew.setCells s (k * 64) co) ∧ SecsAt s A.last.length (undo A ((pre ++ [x]).map (·.1))) (W.drew.setCells s (k * 64) co) ∧ ButS n₀ s w1 (W.drew.setCells s (k * 64) co) := by
  subst hk hco
  have hb : ButS n₀ s W (W.drew.setCells s (atOf A x.1 * 64) (cb (oldOf A x.1))) := ButS.trans (b := W.drew) ⟨rfl, rfl, rfl, Nat.le_refl _, fun _ _ _ => rfl⟩ (ButS.setCells W.drew _ _)
  refine ⟨((KeepsOthers.drew W).trans (keepsOthers_setCells _ _ _ _)).from _, hb.keep, ?_, hI2.trans hb⟩
  rw [List.map_append, List.map_singleton, undo_snoc]
  refine secs_stored (w := W.drew) (undo_length _ _) (undo_whole h _ (fun i hi => ?_)) (h.atLt x.2) (h.oldLen x.2) hI1 rfl
  obtain ⟨y, _, rfl⟩ := List.mem_map.1 hi
  exact y.2

set_option maxRecDepth 100000 in
set_option maxHeartbeats 4000000 in
theorem crash_o (h : Own C p s c pv A w) (keep : List Bool) (ka : Option Addr) (kc : Nat) (hm : A.pend.length ≤ 1000000) (hkl : keep.length ≤ maxLen) (hk : KeepAt p s ka keep w) :
    Calls Tryz.prog 23 #[ptr p, .slice ka keep.length kc] w fun e w' => e = .returned (.int .i64 (kept A.pend keep).length) ∧ Crashed C p s c pv A keep w w' := by
  have hc1 := h.cell1
  have hn1 := h.n1
  have HO := Lib.hid h
  obtain ⟨va, vc, hpv⟩ := h.len
  have HPV := Lib.hid hpv
  have hlt := h.lt
  have hlts := h.lts
  have hps := h.ps
  clear h
  refine (callsIn_wide (n := 5)).1 ?_
  refine callsIn_of_wp_marks Tryz.func23 rfl trivial ?_ rfl
  simp only [Tryz.ntmps23, List.size_toArray, List.length_cons, List.length_nil, Nat.reduceAdd, Nat.reduceSub, Array.replicate_succ, Array.replicate_zero, List.push_toArray, List.append_toArray, List.nil_append, List.cons_append]
  have n0 : ((A.last.length : Int) == 0) = false := by rw [beq_eq_false_iff_ne]; omega
  have hb : (w.alloc (.cells #[.pointer (some ⟨p, 0, none⟩)] 25)).cell? ⟨w.heap.size, 0, none⟩ = some (.pointer (some ⟨p, 0, none⟩)) := cell_of_row _ _ 0 _ _ _ (heap_alloc_new w _)
  have hc1' : (w.alloc (.cells #[.pointer (some ⟨p, 0, none⟩)] 25)).cell? ⟨p, 1, none⟩ = some pv := cell_alloc_keep hc1 _
  gi_wp2_with (first
    | (refine ⟨trivial, ?_⟩; gi_at_call 38; refine (callsIn_wide.2 (sectors_o (HO.out.below ((Below.refl _ _).alloc (Nat.le_refl _) _) (Nat.le_refl _)))).mono ?_; rintro e w' ⟨rfl, rfl⟩)
    | (refine ⟨trivial, ?_⟩; gi_at_call 56; refine (back_in _ _ ⟨_, _, _, rfl⟩ _).mono ?_; rintro e w' ⟨rfl, rfl⟩))
  obtain ⟨w1, hw1⟩ : ∃ w1, w1 = (w.alloc (.cells #[ptr p] 25)).alloc (.cells #[.slice va A.pend.length vc] 76) := ⟨_, rfl⟩
  rw [← hw1]
  have hz1 : w1.heap.size = w.heap.size + 2 := by rw [hw1]; simp
  have hB1 : Below w.heap.size w w1 := by rw [hw1]; exact ((Below.refl _ w).alloc (Nat.le_refl _) _).alloc (by simp) _
  have hbox : w1.heap[w.heap.size]? = some (.cells #[ptr p] 25 (0, 0)) := by rw [hw1, Below.heap_alloc _ _ _ (by simp)]; exact heap_alloc_new w _
  have hbox2 : w1.heap[w.heap.size + 1]? = some (.cells #[.slice va A.pend.length vc] 76 (0, 0)) := by
    rw [hw1]
    have := heap_alloc_new (w.alloc (.cells #[ptr p] 25)) (.cells #[.slice va A.pend.length vc] 76)
    rw [World.size_alloc] at this
    exact this
  have HW1 := Lib.hid hw1
  have HZ1 := Lib.hid hz1
  have HB1 := Lib.hid hB1
  have HX := Lib.hid hbox
  have HX2 := Lib.hid hbox2
  have hO1 := HO.out.below hB1 (Nat.le_refl _)
  have HO1 := Lib.hid hO1
  rename_i Q0 K0 hK0
  refine wpIn_rangeFunc_ownH (gf := 86) (lb := #[.pointer (some ⟨w.heap.size + 1, 0, none⟩)]) (encs := wargs (cellOf A) A.pend.length) (Kp := KeepBut w1.heap.size s) (w0 := w1) rfl (by omega) rfl trivial (enters_of Tryz.func86 (by kernel_rfl) rfl)
    (back_stops HO.out hm (5 - 1) (by omega) (w.heap.size + 1) w1.heap.size w1 (by omega) (by omega) (Nat.le_refl _) (by omega) (fun k hk => hB1.block k hk) (by rw [hpv]; exact cell_of_row _ _ 0 _ _ _ hbox2))
    KeepBut.trans (keepBut_b (Nat.le_refl _)) (Below.refl _ _) (fun _ => rfl)
    (fun pre W => SecsAt s A.last.length (undo A (pre.map (·.1))) W ∧ ButS w1.heap.size s w1 W)
    (fun _ _ _ => False)
    (OwnFrom.and (secsAt_ownFrom (fun pre : List (Ix A) => undo A (pre.map (·.1))) (by omega)) (butS_ownFrom (Nat.le_refl _) (Nat.le_refl _)))
    (fun _ _ _ _ _ hs _ _ => hs)
    ⟨hO1.secs, ButS.refl _ _ _⟩
    (fun x a' W => ∃ Bx, w1.heap.size ≤ Bx ∧ W.heap[Bx]? = some (.cells (cellOf A x.1).toArray 103 (0, 0)) ∧ a' = { tmps := #[ptr p, .slice ka keep.length kc, .pointer (some ⟨w.heap.size, 0, none⟩), undef, .int .i64 0, undef, .pointer (some ⟨Bx, 0, none⟩), undef, undef, undef, .pointer (some ⟨p, 0, none⟩), .int .i64 (A.last.length : Int), .bool false, .pointer (some ⟨p, 0, none⟩), .pointer (some ⟨p, 0, none⟩), .pointer (some ⟨p, 1, none⟩), .slice va A.pend.length vc, .func (.func 86) #[] #[.pointer (some ⟨w.heap.size + 1, 0, none⟩)], .int .i64 (x.1 : Int), .agg (cellOf A x.1).toArray, undef, undef, undef, undef, undef, undef, undef, undef, undef, undef, undef, undef, undef, undef, undef, undef, undef, undef, undef, undef, undef, undef, undef, undef, undef, undef, undef, undef, undef, undef, undef, undef, undef, undef, undef, undef, undef, undef, undef, undef, undef, undef, undef, undef, undef, undef, undef, undef, undef, undef, undef], defers := [] })
    (fun x a' => fun _ W W' row hs hg hr => by
      obtain ⟨Bx, h1, h2, h3⟩ := hs
      refine ⟨Bx, h1, (hg.block Bx (Array.getElem?_eq_some_iff.1 h2).1 (fun e => ?_)).trans h2, h3⟩
      obtain ⟨_, o, ho, hoc⟩ := hr Bx e.symm
      rw [h2] at ho; cases ho; cases hoc) ?assign ?body ?done ?stop
  case assign =>
    clear hO1 hbox hbox2 hB1 hz1 hw1 hb hc1' n0 hpv hc1
    intro l pre x W K hI hK
    have hcl := HO.out.cellLen x.2
    have hcs : (cellOf A x.1).toArray.size = 129 := by rw [List.size_toArray, hcl]
    have hone : ∀ v ∈ cellOf A x.1, v.oneCell' = true := wcs_one _ _ _
    have hH := heap_alloc_new W boxW
    have hth : (W.alloc boxW).there W.heap.size 0 129 := by rw [← zeroW_size]; exact there_row hH
    have HF := Lib.hid (hK { tmps := #[ptr p, .slice ka keep.length kc, .pointer (some ⟨w.heap.size, 0, none⟩), undef, .int .i64 0, undef, .pointer (some ⟨W.heap.size, 0, none⟩), undef, undef, undef, .pointer (some ⟨p, 0, none⟩), .int .i64 (A.last.length : Int), .bool false, .pointer (some ⟨p, 0, none⟩), .pointer (some ⟨p, 0, none⟩), .pointer (some ⟨p, 1, none⟩), .slice va A.pend.length vc, .func (.func 86) #[] #[.pointer (some ⟨w.heap.size + 1, 0, none⟩)], .int .i64 (x.1 : Int), .agg (cellOf A x.1).toArray, undef, undef, undef, undef, undef, undef, undef, undef, undef, undef, undef, undef, undef, undef, undef, undef, undef, undef, undef, undef, undef, undef, undef, undef, undef, undef, undef, undef, undef, undef, undef, undef, undef, undef, undef, undef, undef, undef, undef, undef, undef, undef, undef, undef, undef, undef, undef, undef, undef, undef, undef], defers := [] } ((W.alloc boxW).setCells W.heap.size 0 (cellOf A x.1)))
    have hz := zero_wr
    unfold wargs
    gi_wp2_with (refine wpListIn_store_mid rfl 103 (.tmp 6) (.tmp 19) rfl W.heap.size 0 (cellOf A x.1).toArray rfl rfl (by rw [hcs]; exact hth) (by rw [hcs]; exact size_wr) (all_oneCell_toArray hone) ?_)
    refine HF.out (((KeepsOthers.alloc W _).trans (keepsOthers_setCells _ _ _ _)).from _) ?_ ?_ ?_
    · exact (KeepBut.below ((Below.refl _ _).alloc (Nat.le_trans hI.2.size (Nat.le_refl _)) _)).trans (KeepBut.below (Below.setCells (Below.refl _ _) hI.2.size _ _))
    · have hs : s ≠ W.heap.size := by have := hI.2.size; have := HZ1.out; omega
      refine ⟨hI.1.same ?_, hI.2.trans (ButS.below (Below.setCells ((Below.refl _ W).alloc hI.2.size _) hI.2.size _ _))⟩
      rw [setCells_block _ _ _ _ _ hs, Below.heap_alloc _ _ _ (by have := hI.2.size; have := HZ1.out; omega)]
    · exact ⟨W.heap.size, hI.2.size, box_out hH hcl zeroW_size, rfl⟩
  case body =>
    clear hO1 hbox hbox2 hB1 hw1 hb hc1' n0 hpv hc1
    intro l pre x a' W hl hloop hI hAx hlen
    obtain ⟨Bx, hBx, hbx, rfl⟩ := hAx
    obtain ⟨k, hk⟩ : ∃ k, k = atOf A x.1 := ⟨_, rfl⟩
    obtain ⟨co, hco⟩ : ∃ co, co = cb (oldOf A x.1) := ⟨_, rfl⟩
    have hkn : k < A.last.length := by rw [hk]; exact HO.out.atLt x.2
    have hcl : co.length = 64 := by rw [hco, cb_length]; exact HO.out.oldLen x.2
    have hcs : co.toArray.size = 64 := by rw [List.size_toArray, hcl]
    have hco1 : ∀ v ∈ co, v.oneCell' = true := by rw [hco]; exact cb_one _
    have hlt2 : s < w1.heap.size := by omega
    have hsz := hI.2.size
    have hbx' : W.heap[Bx]? = some (.cells (.int .i64 (k : Int) :: (co ++ cb (newOf A x.1))).toArray 103 (0, 0)) := by rw [hbx, cellOf_eq, hk, hco]
    have hn2 := HO.out.n2
    have z1 : W.cell? ⟨w.heap.size, 0, none⟩ = some (.pointer (some ⟨p, 0, none⟩)) := (hI.2.cell (x := ⟨w.heap.size, 0, none⟩) (show w.heap.size < w1.heap.size by omega) (show w.heap.size ≠ s by omega)).trans (cell_of_row _ _ 0 _ _ _ HX.out)
    have z2 : W.cell? ⟨p, 0, none⟩ = some (.slice (some ⟨s, 0, none⟩) A.last.length c) := (hI.2.cell (x := ⟨p, 0, none⟩) (show p < w1.heap.size by omega) hps).trans HO1.out.cell0
    have z3 : W.cell? ⟨Bx, 0, none⟩ = some (.int .i64 (k : Int)) := cell_of_row _ _ 0 _ _ _ hbx'
    have z4 : W.rangeAt Bx 1 co := range_first hbx' hcl
    have z5 : W.there s (k * 64) 64 := hI.1.there hkn
    have hi : (Tryz.prog.info? 101).map (·.size) = some co.length := by rw [hcl]; exact size_sec
    have hu := Tryz.underlying101
    have HKX := Lib.hid hk
    have HCO := Lib.hid hco
    have hsB : s ≠ Bx := by omega
    have hsW : s ≠ w.heap.size := by omega
    obtain ⟨n, hn⟩ : ∃ n, n = A.last.length := ⟨_, rfl⟩
    have HNN := Lib.hid hn
    rw [← hn] at z2 hkn hn2
    have k0 : (0 : Int) ≤ (k : Int) := by omega
    have k1 : (k : Int) < (n : Int) := by omega
    clear hk hco hbx hbx' hl hlen hn
    refine wpIn_block ?_
    refine round_held (S := (fun w' => w'.cell? ⟨w.heap.size, 0, none⟩ = some (.pointer (some ⟨p, 0, none⟩)) ∧ w'.cell? ⟨p, 0, none⟩ = some (.slice (some ⟨s, 0, none⟩) n c) ∧ w'.cell? ⟨Bx, 0, none⟩ = some (.int .i64 (k : Int)) ∧ w'.rangeAt Bx 1 co ∧ w'.there s (k * 64) 64)) (fun h => by obtain ⟨_, _, h⟩ := h; exact h) (by kernel_rfl) (by kernel_rfl) ?_ (fun hHeld => ?_)
    · ((try dsimp only); (try simp only [World.rangeAt_drew, World.there_drew, World.cell?_drew]); refine ⟨?_, ?_, ?_, ?_, ?_⟩ <;> (repeat' first | assumption | (refine cell_setCells_keep ?_ _ _ _ (by simp; omega)) | (refine World.there_setCells ?_ _ _ _) | (refine World.rangeAt_setCells_apart ?_ _ _ _ (by omega))))
    refine wpAnyH_take (i := 0) (oi := { dst := some 20, op := Op.load 25 (Operand.tmp 2), type := 25, pos := "disk.go:93", after := #[], guard := none }) (v := ptr p) rfl (by kernel_rfl) (by kernel_rfl) (by kernel_rfl) (fun _ _ _ h => h) (Or.inl ⟨by rfl, fun w' hSw => by ((try dsimp only at hSw); go_split_ands; go_simp)⟩) (by assumption) ?_
    (try simp only [Act.put, List.setIfInBounds_toArray, List.set_cons_zero, List.set_cons_succ])
    refine wpAnyH_take (i := 1) (oi := { dst := some 21, op := Op.nilCheck (Operand.tmp 20), type := 0, pos := "disk.go:93", after := #[{ on := 0, ground := Ground.data }], guard := none }) (v := ptr p) rfl (by kernel_rfl) (by kernel_rfl) (by kernel_rfl) (fun _ _ _ h => h) (Or.inl ⟨by rfl, fun w' hSw => by ((try dsimp only at hSw); go_split_ands; go_simp)⟩) (by assumption) ?_
    (try simp only [Act.put, List.setIfInBounds_toArray, List.set_cons_zero, List.set_cons_succ])
    refine wpAnyH_take (i := 2) (oi := { dst := some 22, op := Op.fieldAddr 78 (Operand.tmp 21) 0, type := 0, pos := "disk.go:93", after := #[{ on := 1, ground := Ground.data }], guard := none }) (v := .pointer (some ⟨p, 0, none⟩)) rfl (by kernel_rfl) (by kernel_rfl) (by kernel_rfl) (fun _ _ _ h => h) (Or.inl ⟨by rfl, fun w' hSw => by ((try dsimp only at hSw); go_split_ands; go_simp)⟩) (by assumption) ?_
    (try simp only [Act.put, List.setIfInBounds_toArray, List.set_cons_zero, List.set_cons_succ])
    refine wpAnyH_take (i := 3) (oi := { dst := some 23, op := Op.load 75 (Operand.tmp 22), type := 75, pos := "disk.go:93", after := #[{ on := 2, ground := Ground.data }], guard := none }) (v := .slice (some ⟨s, 0, none⟩) n c) rfl (by kernel_rfl) (by kernel_rfl) (by kernel_rfl) (fun _ _ _ h => h) (Or.inl ⟨by rfl, fun w' hSw => by ((try dsimp only at hSw); go_split_ands; go_simp)⟩) (by assumption) ?_
    (try simp only [Act.put, List.setIfInBounds_toArray, List.set_cons_zero, List.set_cons_succ])
    refine wpAnyH_take (i := 4) (oi := { dst := some 24, op := Op.fieldAddr 103 (Operand.tmp 6) 0, type := 0, pos := "disk.go:93", after := #[], guard := none }) (v := .pointer (some ⟨Bx, 0, none⟩)) rfl (by kernel_rfl) (by kernel_rfl) (by kernel_rfl) (fun _ _ _ h => h) (Or.inl ⟨by rfl, fun w' hSw => by ((try dsimp only at hSw); go_split_ands; go_simp)⟩) (by assumption) ?_
    (try simp only [Act.put, List.setIfInBounds_toArray, List.set_cons_zero, List.set_cons_succ])
    refine wpAnyH_take (i := 5) (oi := { dst := some 25, op := Op.load 3 (Operand.tmp 24), type := 3, pos := "disk.go:93", after := #[{ on := 4, ground := Ground.data }], guard := none }) (v := .int .i64 (k : Int)) rfl (by kernel_rfl) (by kernel_rfl) (by kernel_rfl) (fun _ _ _ h => h) (Or.inl ⟨by rfl, fun w' hSw => by ((try dsimp only at hSw); go_split_ands; go_simp)⟩) (by assumption) ?_
    (try simp only [Act.put, List.setIfInBounds_toArray, List.set_cons_zero, List.set_cons_succ])
    refine wpAnyH_take (i := 6) (oi := { dst := some 26, op := Op.fieldAddr 103 (Operand.tmp 6) 1, type := 0, pos := "disk.go:93", after := #[], guard := none }) (v := .pointer (some ⟨Bx, 1, none⟩)) rfl (by kernel_rfl) (by kernel_rfl) (by kernel_rfl) (fun _ _ _ h => h) (Or.inl ⟨by rfl, fun w' hSw => by ((try dsimp only at hSw); go_split_ands; go_simp)⟩) (by assumption) ?_
    (try simp only [Act.put, List.setIfInBounds_toArray, List.set_cons_zero, List.set_cons_succ])
    refine wpAnyH_take (i := 7) (oi := { dst := some 27, op := Op.load 101 (Operand.tmp 26), type := 101, pos := "disk.go:93", after := #[{ on := 6, ground := Ground.data }], guard := none }) (v := .agg (co).toArray) rfl (by kernel_rfl) (by kernel_rfl) (by kernel_rfl) (fun _ _ _ h => h) (yieldsIf_load_mid (by rfl) _ _ rfl _ _ rfl _ _ (fun w' hSw => by ((try dsimp only at hSw); go_split_ands; assumption)) hu rfl hi) (by assumption) ?_
    (try simp only [Act.put, List.setIfInBounds_toArray, List.set_cons_zero, List.set_cons_succ])
    refine wpAnyH_take (i := 8) (oi := { dst := some 28, op := Op.indexAddr 75 (Operand.tmp 23) (Operand.tmp 25), type := 0, pos := "disk.go:93", after := #[{ on := 3, ground := Ground.data }, { on := 5, ground := Ground.data }, { on := 0, ground := Ground.phase }, { on := 1, ground := Ground.phase }, { on := 2, ground := Ground.phase }, { on := 3, ground := Ground.phase }, { on := 4, ground := Ground.phase }, { on := 5, ground := Ground.phase }, { on := 6, ground := Ground.phase }, { on := 7, ground := Ground.phase }], guard := none }) (v := .pointer (some ⟨s, k * 64, none⟩)) rfl (by kernel_rfl) (by kernel_rfl) (by kernel_rfl) (fun _ _ _ h => h) (Or.inl ⟨by rfl, fun w' hSw => by ((try dsimp only at hSw); go_split_ands; go_simp)⟩) (by assumption) ?_
    (try simp only [Act.put, List.setIfInBounds_toArray, List.set_cons_zero, List.set_cons_succ])
    refine wpAnyH_ready (rs := [9]) (by kernel_rfl) (by simp) ?_
    refine AllReadyH.cons (o := { dst := none, op := Op.store 101 (Operand.tmp 28) (Operand.tmp 27), type := 0, pos := "disk.go:93", after := #[{ on := 8, ground := Ground.data }, { on := 7, ground := Ground.data }, { on := 0, ground := Ground.phase }, { on := 1, ground := Ground.phase }, { on := 2, ground := Ground.phase }, { on := 3, ground := Ground.phase }, { on := 4, ground := Ground.phase }, { on := 5, ground := Ground.phase }, { on := 6, ground := Ground.phase }, { on := 7, ground := Ground.phase }], guard := none }) rfl (fun K hK => ?_) ?_
    · rw [if_pos (by rfl)]
      refine wp_store_mid _ _ _ rfl s (k * 64) (List.toArray co) rfl rfl (by rw [hcs]; exact z5) (by rw [hcs]; exact size_sec) (all_oneCell_toArray hco1) ?_
      simp only [Act.put, List.toList_toArray]
      refine hK.out _ _ ?_ (fun hHeld => ?_)
      · ((try dsimp only); (try simp only [World.rangeAt_drew, World.there_drew, World.cell?_drew]); refine ⟨?_, ?_, ?_, ?_, ?_⟩ <;> (repeat' first | assumption | (refine cell_setCells_keep ?_ _ _ _ (by simp; omega)) | (refine World.there_setCells ?_ _ _ _) | (refine World.rangeAt_setCells_apart ?_ _ _ _ (by omega))))
      clear hK K
      (try simp only [Act.put, List.setIfInBounds_toArray, List.set_cons_zero, List.set_cons_succ])
      refine wpAnyH_done (by kernel_rfl) ?_ _
      exact back_round HO.out hI.1 hI.2 hlt2 x HKX.out HCO.out
    exact AllReadyH.nil
  case done =>
    clear hO1 hbox hbox2 hB1 hw1 hb hc1' n0 hc1
    intro D xs W hD hS hI hKD
    have hI1 := hI.1
    have hI2 := Lib.hid hI.2
    have hKD' := Lib.hid hKD
    have hDW : D < W.heap.size := (Array.getElem?_eq_some_iff.1 hKD).1
    rw [hS, undo_all] at hI1
    have hI1' := Lib.hid hI1
    have z1 : W.cell? ⟨w.heap.size, 0, none⟩ = some (.pointer (some ⟨p, 0, none⟩)) := (hI.2.cell (x := ⟨w.heap.size, 0, none⟩) (show w.heap.size < w1.heap.size by omega) (show w.heap.size ≠ s by omega)).trans (cell_of_row _ _ 0 _ _ _ HX.out)
    have z2 : W.cell? ⟨p, 1, none⟩ = some (.slice va A.pend.length vc) := (hI.2.cell (x := ⟨p, 1, none⟩) (show p < w1.heap.size by omega) hps).trans (by rw [← hpv]; exact HO1.out.cell1)
    clear hS hI hI1 hKD hpv
    refine hK0 _ _ (wpIn_wide.2 ?_)
    clear hK0
    obtain ⟨m, hmm⟩ : ∃ m, m = A.pend.length := ⟨_, rfl⟩
    have HM := Lib.hid hmm
    rw [← hmm] at z2 hm ⊢
    clear hmm
    go_wp2_with fail
    go_loopw [7, 34] (fun kv iv wr => ∃ i : Nat, i ≤ m ∧ iv = .int .i64 i ∧ kv = .int .i64 ((kept (A.pend.take i) keep).length : Int) ∧ Mid C p s A keep w1 D i wr) (fun _ iv _ => m - (intOf iv).toNat)
    case atStart => exact ⟨0, Nat.zero_le _, rfl, by simp [kept_nil], hI1'.out, hI2.out, hKD'.out⟩
    case round =>
      clear hI1' hI2 hKD' z1 z2 hDW
      obtain ⟨i, hi, rfl, rfl, hmid⟩ := hrel
      have HMD := Lib.hid hmid
      have hsz := hmid.2.1.size
      have z1 : wr.cell? ⟨w.heap.size, 0, none⟩ = some (.pointer (some ⟨p, 0, none⟩)) := (hmid.2.1.cell (x := ⟨w.heap.size, 0, none⟩) (show w.heap.size < w1.heap.size by omega) (show w.heap.size ≠ s by omega)).trans (cell_of_row _ _ 0 _ _ _ HX.out)
      have z2 : wr.cell? ⟨p, 0, none⟩ = some (.slice (some ⟨s, 0, none⟩) A.last.length c) := (hmid.2.1.cell (x := ⟨p, 0, none⟩) (show p < w1.heap.size by omega) hps).trans HO1.out.cell0
      have hkle : (kept (A.pend.take i) keep).length ≤ i := by have := kept_le (A.pend.take i) keep; have := List.length_take_le i A.pend; omega
      clear hmid
      by_cases hlt0 : i < m
      · have hi0 : (0 : Int) ≤ (i : Int) := by omega
        have hi1 : (i : Int) < (m : Int) := by omega
        have hip : i < A.pend.length := by rw [← HM.out]; exact hlt0
        obtain ⟨vb, hvb, hvbs, hvlt⟩ := HO.out.pvBlock HPV.out (by omega)
        subst hvb
        have HR := Lib.hid (HO.out.write (W := wr) HPV.out ((HMD.out.2.1.block vb (by omega) hvbs).trans (HB1.out.block vb hvlt)) hip)
        have hcl := HO.out.cellLen hip
        have HI := Lib.hid (show (Tryz.prog.info? 103).map (·.size) = some (cellOf A i).length by rw [hcl]; exact size_wr)
        have HU := Lib.hid Tryz.underlying103
        have hcs : (cellOf A i).toArray.size = 129 := by rw [List.size_toArray, hcl]
        have hone : ∀ v ∈ cellOf A i, v.oneCell' = true := wcs_one _ _ _
        have hH := heap_alloc_new wr boxW
        have hth : (wr.alloc boxW).there wr.heap.size 0 129 := by rw [← zeroW_size]; exact there_row hH
        have hz := zero_wr
        have HH := Lib.hid hH
        have HCL := Lib.hid hcl
        clear hH hcl
        go_upto_region 10 with (first
          | (refine wpList_load_mid rfl 103 (.tmp 37) rfl vb (i * 129) rfl (cellOf A i) _ HR.out HU.out rfl HI.out ?_)
          | (refine wpList_store_mid rfl 103 (.tmp 9) (.tmp 38) rfl wr.heap.size 0 (cellOf A i).toArray rfl rfl (by rw [hcs]; exact hth) (by rw [hcs]; exact size_wr) (all_oneCell_toArray hone) ?_))
        obtain ⟨X, hX⟩ : ∃ X, X = (wr.alloc boxW).setCells wr.heap.size 0 (cellOf A i) := ⟨_, rfl⟩
        rw [← hX]
        have hBX : Below wr.heap.size wr X := by rw [hX]; exact Below.setCells ((Below.refl _ _).alloc (Nat.le_refl _) _) (Nat.le_refl _) _ _
        have hbx : X.heap[wr.heap.size]? = some (.cells (.int .i64 (atOf A i : Int) :: (cb (oldOf A i) ++ cb (newOf A i))).toArray 103 (0, 0)) := by rw [hX, ← cellOf_eq]; exact box_out HH.out HCL.out zeroW_size
        have HBX := Lib.hid hBX
        clear hX hBX hth hcs hone hz
        by_cases hkb : keep.getD i false = true
        · have hki : i < keep.length := by
            rcases Nat.lt_or_ge i keep.length with h' | h'
            · exact h'
            · rw [List.getD_eq_getElem?_getD, List.getElem?_eq_none h'] at hkb; simp at hkb
          obtain ⟨kg, ko, hka, hkg1, hkg2, hkc⟩ := hk i hki
          subst hka
          have hkX : X.cell? ⟨kg, ko + i, none⟩ = some (.bool true) := by
            have hgl := World.block_lt_of_cell? w _ hkc
            rw [World.cell?_of_block (w := w) (a := ⟨kg, ko + i, none⟩) ?_, hkc, hkb]
            exact (HBX.out.block kg (by show kg < wr.heap.size; have : kg < w.heap.size := hgl; omega)).trans ((HMD.out.2.1.block kg (by have : kg < w.heap.size := hgl; omega) hkg2).trans (HB1.out.block kg hgl))
          obtain ⟨k, hkk⟩ : ∃ k, k = atOf A i := ⟨_, rfl⟩
          obtain ⟨cn, hcn⟩ : ∃ cn, cn = cb (newOf A i) := ⟨_, rfl⟩
          have hkn : k < A.last.length := by rw [hkk]; exact HO.out.atLt hip
          have hcl : cn.length = 64 := by rw [hcn, cb_length]; exact HO.out.newLen hip
          have hcs : cn.toArray.size = 64 := by rw [List.size_toArray, hcl]
          have hcn1 : ∀ v ∈ cn, v.oneCell' = true := by rw [hcn]; exact cb_one _
          have hol : (cb (oldOf A i)).length = 64 := by rw [cb_length]; exact HO.out.oldLen hip
          rw [← hkk, ← hcn] at hbx
          have y0 : X.cell? ⟨w.heap.size, 0, none⟩ = some (.pointer (some ⟨p, 0, none⟩)) := (HBX.out.cell (p := ⟨w.heap.size, 0, none⟩) (show w.heap.size < wr.heap.size by omega)).trans z1
          have y1 : X.cell? ⟨p, 0, none⟩ = some (.slice (some ⟨s, 0, none⟩) A.last.length c) := (HBX.out.cell (p := ⟨p, 0, none⟩) (show p < wr.heap.size by omega)).trans z2
          have y2 : X.cell? ⟨wr.heap.size, 0, none⟩ = some (.int .i64 (k : Int)) := cell_of_row _ _ 0 _ _ _ hbx
          have y3 : X.rangeAt wr.heap.size 65 cn := range_mid hbx hol
          have y4 : X.there s (k * 64) 64 := there_below (HMD.out.1.there hkn) HBX.out (by omega)
          have hu := Tryz.underlying101
          have hix : (Tryz.prog.info? 101).map (·.size) = some cn.length := by rw [hcl]; exact size_sec
          have HKK := Lib.hid hkk
          have HCN := Lib.hid hcn
          have HKB := Lib.hid hkb
          have hkI : (i : Int) < (keep.length : Int) := by omega
          have hn2 := HO.out.n2
          obtain ⟨n, hn⟩ : ∃ n, n = A.last.length := ⟨_, rfl⟩
          rw [← hn] at y1 z2 hkn hn2
          have HNN := Lib.hid hn
          have k0 : (0 : Int) ≤ (k : Int) := by omega
          have k1 : (k : Int) < (n : Int) := by omega
          have hws : IntKind.i64.wrap ((kept (A.pend.take i) keep).length + 1 : Int) = (kept (A.pend.take i) keep).length + 1 := IntWalk.i64_in _ (by omega)
          have hke : ((kept (A.pend.take (i + 1)) keep).length : Int) = (kept (A.pend.take i) keep).length + 1 := by rw [kept_take A keep hip, hkb]; simp
          have HKE := Lib.hid hke
          clear hkk hcn hkb hbx hkc hn hke
          unfold maxLen at hkl
          go_wp2_with fail
          go_region_held3 (fun w' => w'.cell? ⟨w.heap.size, 0, none⟩ = some (.pointer (some ⟨p, 0, none⟩)) ∧ w'.cell? ⟨p, 0, none⟩ = some (.slice (some ⟨s, 0, none⟩) n c) ∧ w'.cell? ⟨wr.heap.size, 0, none⟩ = some (.int .i64 (k : Int)) ∧ w'.rangeAt wr.heap.size 65 cn ∧ w'.there s (k * 64) 64)
            (((try dsimp only); (try simp only [World.rangeAt_drew, World.there_drew, World.cell?_drew]); refine ⟨?_, ?_, ?_, ?_, ?_⟩ <;> (repeat' first | assumption | (refine cell_setCells_keep ?_ _ _ _ (by simp; omega)) | (refine World.there_setCells ?_ _ _ _) | (refine World.rangeAt_setCells_apart ?_ _ _ _ (by omega))))) (fail)
          go_wp2_with fail
          go_roundw
          case rel => exact ⟨i + 1, by omega, by go_num, by rw [HKE.out], mid_yes HO.out HMD.out HBX.out (by omega) hD hip HKB.out HKK.out HCN.out⟩
          case measure => simp [intOf]; omega
        · have hkb' : keep.getD i false = false := by simpa using hkb
          have hke : ((kept (A.pend.take (i + 1)) keep).length : Int) = (kept (A.pend.take i) keep).length := by rw [kept_take A keep hip, hkb']; simp
          have HKE := Lib.hid hke
          have HKB := Lib.hid hkb'
          unfold maxLen at hkl
          by_cases hki : i < keep.length
          · obtain ⟨kg, ko, hka, hkg1, hkg2, hkc⟩ := hk i hki
            subst hka
            have hkX : X.cell? ⟨kg, ko + i, none⟩ = some (.bool false) := by
              have hgl := World.block_lt_of_cell? w _ hkc
              rw [World.cell?_of_block (w := w) (a := ⟨kg, ko + i, none⟩) ?_, hkc, hkb']
              exact (HBX.out.block kg (by show kg < wr.heap.size; have : kg < w.heap.size := hgl; omega)).trans ((HMD.out.2.1.block kg (by have : kg < w.heap.size := hgl; omega) hkg2).trans (HB1.out.block kg hgl))
            have hkI : (i : Int) < (keep.length : Int) := by omega
            clear hkb hkb' hbx hkc hke
            go_wp2_with fail
            go_roundw
            case rel => exact ⟨i + 1, by omega, by go_num, by rw [HKE.out], mid_no HMD.out HBX.out (by omega) hip HKB.out⟩
            case measure => simp [intOf]; omega
          · have hkI : decide ((i : Int) < (keep.length : Int)) = false := by simp; omega
            have hkI2 : (keep.length : Int) ≤ (i : Int) := by omega
            clear hkb hkb' hbx hke hki
            go_wp2_with fail
            go_roundw
            case rel => exact ⟨i + 1, by omega, by go_num, by rw [HKE.out], mid_no HMD.out HBX.out (by omega) hip HKB.out⟩
            case measure => simp [intOf]; omega
      · obtain rfl : i = m := by omega
        clear hlt0
        have z3 : wr.cell? ⟨p, 1, none⟩ = some (.slice va i vc) := by
          rw [HMD.out.2.1.cell (x := ⟨p, 1, none⟩) (show p < w1.heap.size by omega) hps, HO1.out.cell1, HPV.out, HM.out]
        have z4 : wr.cell? ⟨p, 2, none⟩ = some (.bool A.runs) := (HMD.out.2.1.cell (x := ⟨p, 2, none⟩) (show p < w1.heap.size by omega) hps).trans HO1.out.cell2
        have z5 : wr.cell? ⟨p, 3, none⟩ = some (.int .i64 A.left) := (HMD.out.2.1.cell (x := ⟨p, 3, none⟩) (show p < w1.heap.size by omega) hps).trans HO1.out.cell3
        have hbp : wr.heap[p]? = some (.cells #[.slice (some ⟨s, 0, none⟩) A.last.length c, pv, .bool A.runs, .int .i64 A.left] 78 (0, 0)) := (HMD.out.2.1.block p (by omega) hps).trans HO1.out.head
        have f1 : wr.frozen? ⟨p, 1, none⟩ = false := frozen_of_row _ _ _ _ _ hbp
        have f2 : wr.frozen? ⟨p, 2, none⟩ = false := frozen_of_row _ _ _ _ _ hbp
        have f3 : wr.frozen? ⟨p, 3, none⟩ = false := frozen_of_row _ _ _ _ _ hbp
        have HBP := Lib.hid hbp
        have hpB : p ≠ w.heap.size := by omega
        clear hbp
        go_wp2_with fail
        go_region_held3 (fun w' => w'.cell? ⟨w.heap.size, 0, none⟩ = some (.pointer (some ⟨p, 0, none⟩))) (((try dsimp only); (try simp only [World.cell?_drew]); (repeat' first | assumption | (rw [World.cell?_setCell_other _ _ _ _ (by first | (simp; done) | (simp; omega))])))) (fail)
        go_wp2_with fail
        have hkt : kept (A.pend.take i) keep = kept A.pend keep := by rw [HM.out, List.take_length]
        have hMM : Mid C p s A keep w1 D A.pend.length wr := by rw [← HM.out]; exact HMD.out
        have hDp : D ≠ p := by omega
        have hKK : ((((wr.setCell ⟨p, 1, none⟩ (.slice none 0 0)).setCell ⟨p, 2, none⟩ (.bool true)).setCell ⟨p, 3, none⟩ (.int .i64 (-1))).drew).heap[D]? = some (.deferred (some [])) := by
          show (((wr.setCell ⟨p, 1, none⟩ (.slice none 0 0)).setCell ⟨p, 2, none⟩ (.bool true)).setCell ⟨p, 3, none⟩ (.int .i64 (-1))).heap[D]? = _
          rw [heap_setCell_other _ _ _ _ hDp, heap_setCell_other _ _ _ _ hDp, heap_setCell_other _ _ _ _ hDp]
          exact HMD.out.2.2
        rw [hkt]
        refine ⟨by simp, .inl ⟨_, _, rfl, run_takeDeferred hKK, ?_⟩⟩
        exact ⟨_, results_tmp rfl _ _ _, rfl, crash_end HO.out HB1.out hMM hD⟩
  case stop =>
    intro D cc pre W _ _ h _
    exact h.elim
theorem crash_nil (a : Option Addr) (n k : Nat) (w : World) : Calls Tryz.prog 23 #[.pointer none, .slice a n k] w fun e w' => e = .returned (.int .i64 0) ∧ Below w.heap.size w w' := by
  go_enter Tryz.func23, Tryz.ntmps23
  go_wp2_with fail
  refine (sectors_nil _).mono ?_; rintro e w' ⟨rfl, rfl⟩
  go_wp2_with fail
  go_ret
  exact ⟨rfl, (Below.refl _ _).alloc (Nat.le_refl _) _⟩
end Go.Proofs.YtnjggoeahaglbaaGreat.Dk

/- The disk's calls with its blocks hidden; Fill; the laws' first call 'alive'. -/
namespace Go.Proofs.YtnjggoeahaglbaaGreat.Dk
open Go.ChangeShapes Go.WideShapes Go.ChangeAt Go.RowKit
set_option linter.unusedVariables false
set_option linter.unusedSimpArgs false

/-- The disk at p, wherever its blocks are, from block C on. -/
def Disk (C p : Nat) (A : St) (w : World) : Prop := ∃ s c pv, Own C p s c pv A w
/-- What a call on a disk from block C on leaves: all below C, and all blocks of other element types. -/
structure Leaves (C : Nat) (w w' : World) : Prop where
  below : Below C w w'
  other : ∀ (k : Nat) (cs : Array Value) (t : TypeId) (fr : Nat × Nat), w.heap[k]? = some (.cells cs t fr) → t ≠ 78 → t ≠ 101 → t ≠ 103 → w'.heap[k]? = w.heap[k]?
theorem Leaves.refl (C : Nat) (w : World) : Leaves C w w := ⟨Below.refl _ _, fun _ _ _ _ _ _ _ _ => rfl⟩
theorem Leaves.trans {C : Nat} {a b c : World} (h : Leaves C a b) (k : Leaves C b c) : Leaves C a c :=
  ⟨h.below.trans k.below, fun i cs t fr hi h1 h2 h3 => (k.other i cs t fr ((h.other i cs t fr hi h1 h2 h3).trans hi) h1 h2 h3).trans (h.other i cs t fr hi h1 h2 h3)⟩
theorem Leaves.of_below {C D : Nat} {a b : World} (h : Below D a b) (hD : a.heap.size ≤ D) (hC : C ≤ D) : Leaves C a b :=
  ⟨h.mono hC, fun k cs t fr hk _ _ _ => h.block k (by have := (Array.getElem?_eq_some_iff.1 hk).1; omega)⟩
theorem Leaves.alloc {C : Nat} {a b : World} (h : Leaves C a b) (hC : C ≤ b.heap.size) (o : Obj) : Leaves C a (b.alloc o) := h.trans (Leaves.of_below ((Below.refl _ _).alloc (Nat.le_refl _) o) (Nat.le_refl _) hC)
theorem Leaves.size {C : Nat} {a b : World} (h : Leaves C a b) : a.heap.size ≤ b.heap.size := h.below.size
theorem Own.left {C p s c : Nat} {pv : Value} {A : St} {w w' : World} (h : Own C p s c pv A w) (ht : Turned p s pv w w') : Leaves C w w' := by
  have hp := h.lt
  refine ⟨ht.below h.hp h.hs (fun k hk => (h.ltv k hk).1) (by have := h.hp; omega), fun k cs t fr hk h1 h2 h3 => ht.block k (Array.getElem?_eq_some_iff.1 hk).1 ?_ ?_ ?_⟩
  · rintro rfl
    rw [h.head] at hk
    simp at hk; exact h1 hk.2.1.symm
  · rintro rfl
    obtain ⟨cur, hc, _⟩ := h.secs
    rw [hc] at hk
    simp at hk; exact h2 hk.2.1.symm
  · intro e
    rcases h.row.2 with ⟨e1, _⟩ | ⟨g, cap, cur, e1, _, e2, _⟩
    · rw [e1] at e; simp [Value.ownBlock] at e
    · rw [e1] at e
      simp only [Value.ownBlock, Option.some.injEq] at e
      subst e
      rw [e2] at hk
      simp at hk; exact h3 hk.2.1.symm
section
variable {C p : Nat} {A : St} {w : World}
theorem Disk.below {D : Nat} {w' : World} (h : Disk C p A w) (hb : Below D w w') (hD : w.heap.size ≤ D) : Disk C p A w' := by
  obtain ⟨s, c, pv, h⟩ := h; exact ⟨s, c, pv, h.below hb hD⟩
theorem Disk.alloc (h : Disk C p A w) (o : Obj) : Disk C p A (w.alloc o) := h.below ((Below.refl _ _).alloc (Nat.le_refl _) o) (Nat.le_refl _)
theorem Disk.base (h : Disk C p A w) : C ≤ w.heap.size := by
  obtain ⟨s, c, pv, h⟩ := h; have := h.lt; have := h.hp; omega
theorem Disk.whole (h : Disk C p A w) : Whole (appl A.last A.pend) := by obtain ⟨s, c, pv, h⟩ := h; exact h.wholeNow
theorem Disk.wholeLast (h : Disk C p A w) : Whole A.last := by obtain ⟨s, c, pv, h⟩ := h; exact h.whole
/-- A call has left the disk so. -/
def After (C p : Nat) (A : St) (w w' : World) : Prop := Disk C p A w' ∧ Leaves C w w'
theorem Disk.fresh (w : World) (n : Nat) (h1 : 1 ≤ n) (h2 : n ≤ 10000) : After w.heap.size (w.heap.size + 1) (blank n) w ((w.alloc (secRow n)).alloc (headRow w.heap.size n)) :=
  ⟨⟨_, _, _, Own.fresh w n h1 h2⟩, Leaves.of_below (((Below.refl _ w).alloc (Nat.le_refl _) _).alloc (by simp) _) (Nat.le_refl _) (Nat.le_refl _)⟩
theorem new_d (n : Nat) (h1 : 1 ≤ n) (h2 : n ≤ 10000) (w : World) : Calls Tryz.prog 12 #[.int .i64 n] w fun e w' => e = .returned (ptr (w.heap.size + 1)) ∧ After w.heap.size (w.heap.size + 1) (blank n) w w' :=
  (new_ok n h1 h2 w).mono fun e w' ⟨he, hw⟩ => ⟨he, by rw [hw]; exact Disk.fresh w n h1 h2⟩
theorem write_d (h : Disk C p A w) (k : Nat) (b : BA) (hr : A.runs = true) (hk : k < A.last.length) (hb : b.length = 64) (hl : A.left ≠ 0) (hm : A.pend.length ≤ 1000000) :
    Calls Tryz.prog 43 #[ptr p, .int .i64 k, .string (str b)] w fun e w' => e = .returned (.int .i64 0) ∧ After C p (wrote A k b) w w' := by
  obtain ⟨s, c, pv, h⟩ := h
  exact (write_ok h k b hr hk hb hl hm).mono fun e w' ⟨he, pv', h1, h2, h3⟩ => ⟨he, ⟨_, _, _, h1⟩, h.left h2⟩
theorem write_dead_d (h : Disk C p A w) (k : Int) (x : Value) (hr : A.runs = false) : Calls Tryz.prog 43 #[ptr p, .int .i64 k, x] w fun e w' => e = .returned (.int .i64 10) ∧ w = w' := by
  obtain ⟨s, c, pv, h⟩ := h; exact write_dead h k x hr
theorem write_range_d (h : Disk C p A w) (k : Int) (x : Value) (hr : A.runs = true) (hk : k < 0 ∨ (A.last.length : Int) ≤ k) : Calls Tryz.prog 43 #[ptr p, .int .i64 k, x] w fun e w' => e = .returned (.int .i64 12) ∧ w = w' := by
  obtain ⟨s, c, pv, h⟩ := h; exact write_range h k x hr hk
theorem write_arg_d (h : Disk C p A w) (k : Nat) (x : ByteArray) (hr : A.runs = true) (hk : k < A.last.length) (hx : x.size ≠ 64) (hm : x.size ≤ maxLen) : Calls Tryz.prog 43 #[ptr p, .int .i64 k, .string x] w fun e w' => e = .returned (.int .i64 1) ∧ w = w' := by
  obtain ⟨s, c, pv, h⟩ := h; exact write_arg h k x hr hk hx hm
theorem write_stop_d (h : Disk C p A w) (k : Nat) (b : BA) (hr : A.runs = true) (hk : k < A.last.length) (hb : b.length = 64) (hl : A.left = 0) :
    Calls Tryz.prog 43 #[ptr p, .int .i64 k, .string (str b)] w fun e w' => e = .returned (.int .i64 10) ∧ After C p { A with runs := false } w w' := by
  obtain ⟨s, c, pv, h⟩ := h
  exact (write_stop h k b hr hk hb hl).mono fun e w' ⟨he, h1, h2⟩ => ⟨he, ⟨_, _, _, h1⟩, h.left h2⟩
theorem read_d (h : Disk C p A w) (k : Nat) (hr : A.runs = true) (hk : k < A.last.length) :
    Calls Tryz.prog 40 #[ptr p, .int .i64 k] w fun e w' => e = .returned (.tuple #[.string (str ((appl A.last A.pend).getD k [])), .int .i64 0]) ∧ w = w' := by
  obtain ⟨s, c, pv, h⟩ := h; exact read_ok h k hr hk
theorem read_dead_d (h : Disk C p A w) (k : Int) (hr : A.runs = false) : Calls Tryz.prog 40 #[ptr p, .int .i64 k] w fun e w' => e = .returned (.tuple #[.string (str []), .int .i64 10]) ∧ w = w' := by
  obtain ⟨s, c, pv, h⟩ := h; exact read_dead h k hr
theorem read_range_d (h : Disk C p A w) (k : Int) (hr : A.runs = true) (hk : k < 0 ∨ (A.last.length : Int) ≤ k) : Calls Tryz.prog 40 #[ptr p, .int .i64 k] w fun e w' => e = .returned (.tuple #[.string (str []), .int .i64 12]) ∧ w = w' := by
  obtain ⟨s, c, pv, h⟩ := h; exact read_range h k hr hk
theorem sync_d (h : Disk C p A w) (hr : A.runs = true) : Calls Tryz.prog 44 #[ptr p] w fun e w' => e = .returned (.int .i64 0) ∧ After C p (synced A) w w' := by
  obtain ⟨s, c, pv, h⟩ := h
  exact (sync_o h hr).mono fun e w' ⟨he, h1, h2⟩ => ⟨he, ⟨_, _, _, h1⟩, h.left h2⟩
theorem sync_dead_d (h : Disk C p A w) (hr : A.runs = false) : Calls Tryz.prog 44 #[ptr p] w fun e w' => e = .returned (.int .i64 10) ∧ w = w' := by
  obtain ⟨s, c, pv, h⟩ := h; exact sync_dead h hr
theorem stop_d (h : Disk C p A w) (n : Int) (n1 : -9223372036854775808 ≤ n) (n2 : n ≤ 9223372036854775807) (hr : A.runs = true) :
    Calls Tryz.prog 21 #[ptr p, .int .i64 n] w fun e w' => e = .returned (.tuple #[]) ∧ After C p { A with left := n } w w' := by
  obtain ⟨s, c, pv, h⟩ := h
  exact (stop_o h n n1 n2 hr).mono fun e w' ⟨he, h1, h2⟩ => ⟨he, ⟨_, _, _, h1⟩, h.left h2⟩
theorem dead_d (h : Disk C p A w) : Calls Tryz.prog 55 #[ptr p] w fun e w' => e = .returned (.bool (!A.runs)) ∧ w = w' := by
  obtain ⟨s, c, pv, h⟩ := h; exact dead_o h
theorem pending_d (h : Disk C p A w) : Calls Tryz.prog 35 #[ptr p] w fun e w' => e = .returned (.int .i64 A.pend.length) ∧ w = w' := by
  obtain ⟨s, c, pv, h⟩ := h; exact pending_o h
theorem sectors_d (h : Disk C p A w) : Calls Tryz.prog 38 #[ptr p] w fun e w' => e = .returned (.int .i64 A.last.length) ∧ w = w' := by
  obtain ⟨s, c, pv, h⟩ := h; exact sectors_o h
/-- The list of what is kept: outside the disk's blocks, by its place or its element type. -/
def Keeps (C : Nat) (ka : Option Addr) (keep : List Bool) (w : World) : Prop := ∀ i, i < keep.length → ∃ g o, ka = some ⟨g, o, none⟩ ∧ w.cell? ⟨g, o + i, none⟩ = some (.bool (keep.getD i false)) ∧ (g < C ∨ ∃ cs fr, w.heap[g]? = some (.cells cs 4 fr))
theorem Own.keepAt {s c : Nat} {pv : Value} (h : Own C p s c pv A w) {ka : Option Addr} {keep : List Bool} (hk : Keeps C ka keep w) : KeepAt p s ka keep w := fun i hi => by
  obtain ⟨g, o, h1, h2, h3⟩ := hk i hi
  have hp := h.hp
  have hs := h.hs
  refine ⟨g, o, h1, ?_, ?_, h2⟩
  · rintro rfl
    rcases h3 with h3 | ⟨cs, fr, h3⟩
    · omega
    · rw [h.head] at h3; simp at h3
  · rintro rfl
    rcases h3 with h3 | ⟨cs, fr, h3⟩
    · omega
    · obtain ⟨cur, hc, _⟩ := h.secs; rw [hc] at h3; simp at h3
theorem crash_d (h : Disk C p A w) (keep : List Bool) (ka : Option Addr) (kc : Nat) (hm : A.pend.length ≤ 1000000) (hkl : keep.length ≤ maxLen) (hk : Keeps C ka keep w) :
    Calls Tryz.prog 23 #[ptr p, .slice ka keep.length kc] w fun e w' => e = .returned (.int .i64 (kept A.pend keep).length) ∧ After C p (crashed A keep) w w' := by
  obtain ⟨s, c, pv, h⟩ := h
  exact (crash_o h keep ka kc hm hkl (h.keepAt hk)).mono fun e w' ⟨he, h1, h2⟩ => ⟨he, ⟨_, _, _, h1⟩, h.left h2⟩
theorem crash_none (h : Disk C p A w) (ka : Option Addr) (kc : Nat) (hm : A.pend.length ≤ 1000000) :
    Calls Tryz.prog 23 #[ptr p, .slice ka 0 kc] w fun e w' => e = .returned (.int .i64 0) ∧ After C p ⟨A.last, [], true, -1⟩ w w' := by
  have hk : kept A.pend [] = [] := by simp [kept]
  have := crash_d h [] ka kc hm (by simp) (fun i hi => by simp at hi)
  rw [crashed, hk] at this
  exact this
end

/-! Fill. -/
def fill (l : BA) : BA := if 64 < l.length then l.take 64 else l ++ List.replicate (64 - l.length) 0
theorem fill_length (l : BA) : (fill l).length = 64 := by
  unfold fill
  split
  · simp; omega
  · simp; omega
theorem fill_short {l : BA} (h : l.length ≤ 64) : fill l = l ++ List.replicate (64 - l.length) 0 := by unfold fill; rw [if_neg (by omega)]
theorem fill_nil : fill [] = zeroS := by simp [fill, zeroS]
abbrev zRow (n : Nat) : Obj := .cells (madeCells #[.int .u8 0] n) 5
theorem info_u8 : (Tryz.prog.info? 5).map (fun i => (i.zero, i.size, i.bytes)) = some (some (.int .u8 0), 1, 1) := by kernel_rfl
theorem zrow_get (n j : Nat) (h : j < n) : (madeCells #[Value.int .u8 0] n)[j]? = some (.int .u8 0) := by
  simp only [madeCells, Array.getElem?_map]
  rw [Array.getElem?_eq_getElem (by simpa using h)]
  simp [Nat.mod_one]
theorem convert_zeros (w : World) (n : Nat) : (convert 70 9 (.slice (some ⟨w.heap.size, 0, none⟩) n n)).run Tryz.prog (w.alloc (zRow n)) = .ok (.string (str (List.replicate n 0))) (w.alloc (zRow n)) := by
  rw [← strOfNums_bytes]
  refine run_convert_bytes_arg (w.alloc (zRow n)) 70 5 Tryz.underlying70 Tryz.underlying5 w.heap.size 0 n n _ (by simp) (fun i hi => ?_) 9 Tryz.underlying9
  rw [getD_bytes, cell_of_row _ _ _ _ _ _ (heap_alloc_new w _), Nat.zero_add, zrow_get n i hi, List.getD_eq_getElem?_getD, List.getElem?_replicate, if_pos hi]
  rfl
set_option maxHeartbeats 400000 in
theorem zeros_ok (n : Nat) (hn : n ≤ 64) (w : World) : Calls Tryz.prog 36 #[.int .i64 n] w fun e w' => e = .returned (.string (str (List.replicate n 0))) ∧ Below w.heap.size w w' := by
  obtain ⟨i0, hi, hz0, hz1, hz2⟩ := info_parts info_u8
  have hmk := fun w : World => run_make (P := Tryz.prog) w 70 5 i0 _ Tryz.underlying70 hi hz0 .i64 .i64 (n : Int) (n : Int) (by omega) (Int.le_refl _) (by rw [hz2]; omega) (by omega)
  rw [hz1] at hmk
  simp only [Int.toNat_natCast, Value.cells, Nat.mul_one] at hmk
  have hcv := convert_zeros w n
  unfold zRow at hcv
  obtain ⟨row, hrow⟩ : ∃ row, row = madeCells #[Value.int .u8 0] n := ⟨_, rfl⟩
  rw [← hrow] at hmk hcv
  have HB := Lib.hid ((Below.refl w.heap.size w).alloc (Nat.le_refl _) (.cells row 5))
  obtain ⟨z, hz⟩ : ∃ z, z = str (List.replicate n 0) := ⟨_, rfl⟩
  rw [← hz] at hcv ⊢
  clear hi hz0 hz1 hz2 hrow hz
  have k0 : (0 : Int) ≤ (n : Int) := by omega
  go_enter Tryz.func36, Tryz.ntmps36
  go_wp2_with fail
  go_ret
  exact ⟨rfl, HB.out⟩
theorem str_append (x : ByteArray) (l : BA) : x ++ str l = str (x.data.toList ++ l) := by
  apply ByteArray.ext
  rw [ByteArray.data_append]
  apply Array.ext'
  simp [str]
theorem str_data (x : ByteArray) : str x.data.toList = x := by cases x; simp [str]
/-! alive. -/
def fa : BA := fill [97]
def fb : BA := fill [98]
def fc : BA := fill [99]
theorem After.then {C p : Nat} {A A' : St} {w w1 w2 : World} (h : After C p A w w1) (k : After C p A' w1 w2) : After C p A' w w2 := ⟨k.1, h.2.trans k.2⟩
theorem After.more {C p D : Nat} {A : St} {w w1 w2 : World} (h : After C p A w w1) (hb : Below D w1 w2) (hD : w1.heap.size ≤ D) : After C p A w w2 :=
  ⟨h.1.below hb hD, h.2.trans (Leaves.of_below hb hD (Nat.le_trans h.1.base hD))⟩
theorem keeps_ft (w : World) (C : Nat) : Keeps C (some ⟨w.heap.size, 0, none⟩) [false, true] (w.alloc (.cells #[.bool false, .bool true] 4)) := fun i hi => by
  refine ⟨_, _, rfl, ?_, .inr ⟨_, _, heap_alloc_new w _⟩⟩
  rw [cell_of_row _ _ _ _ _ _ (heap_alloc_new w _)]
  simp at hi
  rcases i with _ | _ | i
  · rfl
  · rfl
  · omega
theorem st_pend (a b c : BA) : (wrote (wrote (synced (wrote (blank 3) 1 a)) 1 b) 2 c).pend.length = 2 := by simp [wrote, synced]
theorem st_kept (a b c : BA) : (kept (wrote (wrote (synced (wrote (blank 3) 1 a)) 1 b) 2 c).pend [false, true]).length = 1 := by simp [wrote, synced, kept, List.zipIdx]
theorem st_crashed (a b c : BA) : crashed (wrote (wrote (synced (wrote (blank 3) 1 a)) 1 b) 2 c) [false, true] = ⟨[zeroS, a, c], [], true, -1⟩ := by
  simp [crashed, wrote, synced, kept, List.zipIdx, blank, appl, List.replicate]
end Go.Proofs.YtnjggoeahaglbaaGreat.Dk
