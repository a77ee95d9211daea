/- The contracts of the disk's calls that read, and of those that write its head alone. -/
import Derived.Test.YtnkhfgfiifadhaaRows
import Derived.Test.YtnkhfgfiifadhaaOwn
import Derived.WalkKit
import Derived.ProofKit
import Derived.OpenShut
import Derived.LoopTactic
import Derived.Outline
import Derived.Lib.Hide
import Derived.WalkLawsBesides
import Derived.WalkSpells
import Derived.Deep.QuietTactic
import Derived.BigQuiet
import Derived.Laws.Entries
import Derived.Laws.BytesArg
import Derived.Laws.MakeOwn
import Derived.IntWalk
import Derived.Lib.Strings
namespace Go.Proofs.Ytnkhfgfiifadhaa
open Go.ChangeShapes Go.WideShapes Go.ChangeAt Go.RowKit
set_option linter.unusedVariables false

abbrev ptr (p : Nat) : Value := .pointer (some ⟨p, 0, none⟩)
variable {C p s c : Nat} {pv : Value} {A : St} {w : World}

/-! Dead. -/
set_option maxHeartbeats 400000 in
theorem dead_cell (p : Nat) (b : Bool) (w : World) (hc : w.cell? ⟨p, 2, none⟩ = some (.bool b)) : Calls Try.prog 20 #[ptr p] w fun e w' => e = .returned (.bool (!b)) ∧ w = w' := by
  go_enter Try.func20, Try.ntmps20
  go_wp2_with fail
  go_ret
  exact ⟨rfl, rfl⟩
theorem dead_o (h : Own C p s c pv A w) : Calls Try.prog 20 #[ptr p] w fun e w' => e = .returned (.bool (!A.runs)) ∧ w = w' := dead_cell p _ w h.cell2
theorem dead_yes (h : Own C p s c pv A w) (hr : A.runs = false) : Calls Try.prog 20 #[ptr p] w fun e w' => e = .returned (.bool true) ∧ w = w' := by have := dead_o h; rw [hr] at this; exact this
theorem dead_no (h : Own C p s c pv A w) (hr : A.runs = true) : Calls Try.prog 20 #[ptr p] w fun e w' => e = .returned (.bool false) ∧ w = w' := by have := dead_o h; rw [hr] at this; exact this
set_option maxHeartbeats 400000 in
theorem dead_nil (w : World) : Calls Try.prog 20 #[.pointer none] w fun e w' => e = .returned (.bool true) ∧ w = w' := by
  go_enter Try.func20, Try.ntmps20
  go_wp2_with fail
  go_ret
  exact ⟨rfl, rfl⟩

/-! Sectors, Pending. -/
set_option maxHeartbeats 400000 in
theorem sectors_cell (p s n c : Nat) (w : World) (hc : w.cell? ⟨p, 0, none⟩ = some (.slice (some ⟨s, 0, none⟩) n c)) : Calls Try.prog 23 #[ptr p] w fun e w' => e = .returned (.int .i64 n) ∧ w = w' := by
  go_enter Try.func23, Try.ntmps23
  go_wp2_with fail
  go_ret
  exact ⟨rfl, rfl⟩
theorem sectors_o (h : Own C p s c pv A w) : Calls Try.prog 23 #[ptr p] w fun e w' => e = .returned (.int .i64 A.last.length) ∧ w = w' := sectors_cell p s _ c w h.cell0
set_option maxHeartbeats 400000 in
theorem sectors_nil (w : World) : Calls Try.prog 23 #[.pointer none] w fun e w' => e = .returned (.int .i64 0) ∧ w = w' := by
  go_enter Try.func23, Try.ntmps23
  go_wp2_with fail
  go_ret
  exact ⟨rfl, rfl⟩
set_option maxHeartbeats 400000 in
theorem pending_cell (p n c : Nat) (a : Option Addr) (w : World) (hc : w.cell? ⟨p, 1, none⟩ = some (.slice a n c)) : Calls Try.prog 22 #[ptr p] w fun e w' => e = .returned (.int .i64 n) ∧ w = w' := by
  go_enter Try.func22, Try.ntmps22
  go_wp2_with fail
  go_ret
  exact ⟨rfl, rfl⟩
theorem pending_o (h : Own C p s c pv A w) : Calls Try.prog 22 #[ptr p] w fun e w' => e = .returned (.int .i64 A.pend.length) ∧ w = w' := by
  obtain ⟨a, cp, e⟩ := h.len
  exact pending_cell p _ cp a w (by rw [h.cell1, e])
set_option maxHeartbeats 400000 in
theorem pending_nil (w : World) : Calls Try.prog 22 #[.pointer none] w fun e w' => e = .returned (.int .i64 0) ∧ w = w' := by
  go_enter Try.func22, Try.ntmps22
  go_wp2_with fail
  go_ret
  exact ⟨rfl, rfl⟩

/-! refuse. -/
set_option maxHeartbeats 400000 in
theorem refuse_ok (h : Own C p s c pv A w) (k : Nat) (hr : A.runs = true) (hk : k < A.last.length) : Calls Try.prog 31 #[ptr p, .int .i64 k] w fun e w' => e = .returned (.int .i64 0) ∧ w = w' := by
  have hc0 := h.cell0
  have h2 := h.n2
  have HO := Lib.hid h
  clear h
  generalize A.last.length = n at *
  have k0 : (0 : Int) ≤ (k : Int) := by omega
  have k1 : (k : Int) < (n : Int) := by omega
  have k2 : ¬ (k : Int) < 0 := by omega
  go_enter Try.func31, Try.ntmps31
  go_wp2_with fail
  refine (dead_no HO.out hr).mono ?_; rintro e w' ⟨rfl, rfl⟩
  go_wp2_with fail
  go_ret
  exact ⟨rfl, rfl⟩
set_option maxHeartbeats 400000 in
theorem refuse_dead (h : Own C p s c pv A w) (k : Int) (hr : A.runs = false) : Calls Try.prog 31 #[ptr p, .int .i64 k] w fun e w' => e = .returned (.int .i64 10) ∧ w = w' := by
  have HO := Lib.hid h
  clear h
  go_enter Try.func31, Try.ntmps31
  go_wp2_with fail
  refine (dead_yes HO.out hr).mono ?_; rintro e w' ⟨rfl, rfl⟩
  go_wp2_with fail
  go_ret
  exact ⟨rfl, rfl⟩
set_option maxHeartbeats 400000 in
theorem refuse_nil (k : Int) (w : World) : Calls Try.prog 31 #[.pointer none, .int .i64 k] w fun e w' => e = .returned (.int .i64 10) ∧ w = w' := by
  go_enter Try.func31, Try.ntmps31
  go_wp2_with fail
  refine (dead_nil _).mono ?_; rintro e w' ⟨rfl, rfl⟩
  go_wp2_with fail
  go_ret
  exact ⟨rfl, rfl⟩
set_option maxHeartbeats 400000 in
theorem refuse_range (h : Own C p s c pv A w) (k : Int) (hr : A.runs = true) (hk : k < 0 ∨ (A.last.length : Int) ≤ k) : Calls Try.prog 31 #[ptr p, .int .i64 k] w fun e w' => e = .returned (.int .i64 12) ∧ w = w' := by
  have hc0 := h.cell0
  have h2 := h.n2
  have HO := Lib.hid h
  clear h
  generalize A.last.length = n at *
  by_cases k0 : k < 0
  · clear hk
    go_enter Try.func31, Try.ntmps31
    go_wp2_with fail
    refine (dead_no HO.out hr).mono ?_; rintro e w' ⟨rfl, rfl⟩
    go_wp2_with fail
    go_ret
    exact ⟨rfl, rfl⟩
  · have k1 : (n : Int) ≤ k := by omega
    have k2 : 0 ≤ k := by omega
    clear hk
    go_enter Try.func31, Try.ntmps31
    go_wp2_with fail
    refine (dead_no HO.out hr).mono ?_; rintro e w' ⟨rfl, rfl⟩
    go_wp2_with fail
    go_ret
    exact ⟨rfl, rfl⟩

/-! Stop, Sync. -/
theorem Own.setHead (h : Own C p s c pv A w) (pv' : Value) (A' : St) (o : Nat) (u : Value) (hl : A'.last.length = A.last.length)
    (hc : (#[.slice (some ⟨s, 0, none⟩) A.last.length c, pv, .bool A.runs, .int .i64 A.left] : Array Value).setIfInBounds o u = #[.slice (some ⟨s, 0, none⟩) A'.last.length c, pv', .bool A'.runs, .int .i64 A'.left])
    (hv : pv' = pv ∨ pv' = .slice none 0 0) (hsec : appl A'.last A'.pend = appl A.last A.pend) (hrow : w.ownsRow C 63 129 pv' A'.pend.length (pcells A'.last A'.pend))
    (hw : Whole A'.last) (hf : Fits A'.last.length A'.pend) (l1 : -9223372036854775808 ≤ A'.left) (l2 : A'.left ≤ 9223372036854775807) :
    Own C p s c pv' A' (w.setCell ⟨p, o, none⟩ u) := by
  have hps := h.ps
  refine ⟨h.hp, h.hs, h.ps, ?_, ?_, ?_, ?_, ?_, hw, hf, by rw [hl]; exact h.n1, by rw [hl]; exact h.n2, by rw [hl]; exact h.c1, h.c2, l1, l2⟩
  · rcases hv with rfl | rfl
    · exact h.vp
    · simp [Value.ownBlock]
  · rcases hv with rfl | rfl
    · exact h.vs
    · simp [Value.ownBlock]
  · rw [heap_setCell_same _ _ _ _ _ _ h.head, hc]
  · obtain ⟨cur, h1, h2, h3⟩ := h.secs
    exact ⟨cur, by rw [heap_setCell_other _ _ _ _ (by show s ≠ p; omega)]; exact h1, by rw [hl]; exact h2, by rw [hl, hsec]; exact h3⟩
  · refine ⟨hrow.1, ?_⟩
    rcases hrow.2 with h1 | ⟨g, cap, cur, h1, h2, h3, h4⟩
    · exact .inl h1
    · refine .inr ⟨g, cap, cur, h1, h2, ?_, h4⟩
      rw [heap_setCell_other _ _ _ _ (by
        show g ≠ p
        rintro rfl
        rcases hv with rfl | rfl
        · exact h.vp (by rw [h1]; rfl)
        · simp at h1)]
      exact h3
theorem Turned.setCell (p s : Nat) (pv : Value) (w : World) (o : Nat) (u : Value) : Turned p s pv w (w.setCell ⟨p, o, none⟩ u) :=
  ⟨rfl, rfl, rfl, by simp [World.setCell], fun k _ h1 _ _ => heap_setCell_other _ _ _ _ h1⟩
set_option maxHeartbeats 400000 in
theorem stop_o (h : Own C p s c pv A w) (n : Int) (n1 : -9223372036854775808 ≤ n) (n2 : n ≤ 9223372036854775807) (hr : A.runs = true) :
    Calls Try.prog 16 #[ptr p, .int .i64 n] w fun e w' => e = .returned (.tuple #[]) ∧ Own C p s c pv { A with left := n } w' ∧ Turned p s pv w w' := by
  have hc3 := h.cell3
  have hf := h.free 3
  have HO := Lib.hid h
  clear h
  go_enter Try.func16, Try.ntmps16
  go_wp2_with fail
  refine (dead_no HO.out hr).mono ?_; rintro e w' ⟨rfl, rfl⟩
  go_wp2_with fail
  go_end0
  have h := HO.out
  exact ⟨rfl, h.setHead pv { A with left := n } 3 _ rfl rfl (.inl rfl) rfl h.row h.whole h.fits n1 n2, Turned.setCell _ _ _ _ _ _⟩
set_option maxHeartbeats 400000 in
theorem stop_dead (h : Own C p s c pv A w) (n : Int) (hr : A.runs = false) :
    Calls Try.prog 16 #[ptr p, .int .i64 n] w fun e w' => e = .returned (.tuple #[]) ∧ w = w' := by
  have HO := Lib.hid h
  clear h
  go_enter Try.func16, Try.ntmps16
  go_wp2_with fail
  refine (dead_yes HO.out hr).mono ?_; rintro e w' ⟨rfl, rfl⟩
  go_wp2_with fail
  go_end0
  exact ⟨rfl, rfl⟩
set_option maxHeartbeats 400000 in
theorem stop_nil (n : Int) (w : World) : Calls Try.prog 16 #[.pointer none, .int .i64 n] w fun e w' => e = .returned (.tuple #[]) ∧ w = w' := by
  go_enter Try.func16, Try.ntmps16
  go_wp2_with fail
  refine (dead_nil _).mono ?_; rintro e w' ⟨rfl, rfl⟩
  go_wp2_with fail
  go_end0
  exact ⟨rfl, rfl⟩
def synced (A : St) : St := { A with last := appl A.last A.pend, pend := [] }
set_option maxHeartbeats 400000 in
theorem sync_o (h : Own C p s c pv A w) (hr : A.runs = true) :
    Calls Try.prog 19 #[ptr p] w fun e w' => e = .returned (.int .i64 0) ∧ Own C p s c (.slice none 0 0) (synced A) w' ∧ Turned p s pv w w' := by
  have hc1 := h.cell1
  have hf := h.free 1
  have HO := Lib.hid h
  obtain ⟨a, cp, hpv⟩ := h.len
  have HV := Lib.hid hpv
  rw [hpv] at hc1
  clear h hpv
  go_enter Try.func19, Try.ntmps19
  go_wp2_with fail
  refine (dead_no HO.out hr).mono ?_; rintro e w' ⟨rfl, rfl⟩
  go_wp2_with fail
  go_ret
  have h := HO.out
  exact ⟨rfl, h.setHead _ (synced A) 1 _ (appl_length _ _) (by simp [synced, appl_length]) (.inr rfl) rfl (World.ownsRow_nil _ _ _ _) h.wholeNow (Fits.nil _) h.l1 h.l2, Turned.setCell _ _ _ _ _ _⟩
set_option maxHeartbeats 400000 in
theorem sync_dead (h : Own C p s c pv A w) (hr : A.runs = false) :
    Calls Try.prog 19 #[ptr p] w fun e w' => e = .returned (.int .i64 10) ∧ w = w' := by
  have HO := Lib.hid h
  clear h
  go_enter Try.func19, Try.ntmps19
  go_wp2_with fail
  refine (dead_yes HO.out hr).mono ?_; rintro e w' ⟨rfl, rfl⟩
  go_wp2_with fail
  go_ret
  exact ⟨rfl, rfl⟩
set_option maxHeartbeats 400000 in
theorem sync_nil (w : World) : Calls Try.prog 19 #[.pointer none] w fun e w' => e = .returned (.int .i64 10) ∧ w = w' := by
  go_enter Try.func19, Try.ntmps19
  go_wp2_with fail
  refine (dead_nil _).mono ?_; rintro e w' ⟨rfl, rfl⟩
  go_wp2_with fail
  go_ret
  exact ⟨rfl, rfl⟩
end Go.Proofs.Ytnkhfgfiifadhaa
