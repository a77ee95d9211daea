/- The contracts of pack's Writer: what each call appends, and when the Writer turns bad. -/
import Derived.Test.YtbmnagfjpenemaaGreatDoorRows
import Derived.Test.YtbmnagfjpenemaaGreatDoorMem
import Derived.WalkKit
import Derived.ProofKit
import Derived.OpenShut
import Derived.ShutString
import Derived.LoopTactic
import Derived.Outline
import Derived.Lib.Hide
import Derived.WalkLawsBesides
import Derived.WalkSpells
import Derived.Deep.QuietTactic
import Derived.BigQuiet
import Derived.Laws.BitsAllLaws
import Derived.Laws.Entries
import Derived.IntWalk
import Derived.Lib.Strings
import Derived.Lib.AppendStr
namespace Go.Proofs.YtbmnagfjpenemaaGreatDoor
open Go.ChangeShapes Go.WideShapes Go.ChangeAt Go.RowKit
set_option linter.unusedVariables false
set_option maxRecDepth 100000

theorem info5 : (Tryz.prog.info? 5).map (fun i => (i.zero, i.size, i.bytes)) = some (some (.int .u8 0), 1, 1) := by kernel_rfl
abbrev ptr (p : Nat) : Value := .pointer (some ⟨p, 0, none⟩)

/-- What a writing call leaves. -/
def Wrote (C p : Nat) (w : World) (l : List UInt8) (bad : Bool) (w' : World) : Prop := Wr C w' p l bad ∧ Only C p w w'

set_option maxHeartbeats 400000 in
theorem one_any (C p : Nat) (v : Int) (l : List UInt8) (bad : Bool) (w : World) (h0 : 0 ≤ v) (hl : l.length ≤ 1000000) (hw : Wr C w p l bad) :
    Calls Tryz.prog 165 #[ptr p, .int .u32 v] w fun e w' => e = .returned (.tuple #[]) ∧ Wrote C p w (l ++ [byte v]) bad w' := by
  obtain ⟨i0, hi, hz0, hz1, hz2⟩ := info_parts info5
  obtain ⟨hC, u, hh, hown⟩ := hw
  have hp := block_of_heap hh
  have hc0 : w.cell? ⟨p, 0, none⟩ = some u := cell_of_row w p 0 _ _ _ hh
  have Hh := Lib.hid hh
  clear hh
  have hown' := hown
  go_enter Tryz.func165, Tryz.ntmps165
  go_wp2_with (at_builtin; refine wpList_append_own _ rfl (.tmp 8) (.tmp 11) 63 rfl C 5 i0 (.int .u8 0) 1 1 Tryz.underlying63 hi hz0 hz1 hz2 rfl (by decide) _ _ _ rfl (hown.alloc _) ⟨w.heap.size, 0, none⟩ 1 1 [.int .u8 (v % 256)] rfl rfl ?c1 ?c2 ?c3 ?c4 ?c5 ?_)
  case c1 => intro j x hx; rcases j with _ | j <;> simp at hx; subst hx; exact cell_of_row _ w.heap.size 0 _ _ _ (heap_alloc_new w _)
  case c2 => intro x hx; simp at hx; subst hx; rfl
  case c3 => unfold maxLen; omega
  case c4 => omega
  case c5 => simp; omega
  intro u' w1 hown1 hgrow _
  have hg : w.grownBy w1 u.ownBlock := ⟨hgrow.os, hgrow.tape, hgrow.output, Nat.le_trans (by simp) hgrow.size, fun k hk hne => (hgrow.block k (by simp; omega) hne).trans (Below.heap_alloc w _ k hk)⟩
  have hx : bcs (l ++ [byte v]) = bcs l ++ [.int .u8 (v % 256)] := by rw [bcs_append, bcs_one v h0]
  have hown2 : w1.ownsRow C 5 1 u' (l ++ [byte v]).length (bcs (l ++ [byte v])) := by rw [hx]; simpa using hown1
  have HW := Lib.hid (Wr.wrote hC Hh.out hown hg hown2)
  have hb1 := Lib.hid (wrote_block hown Hh.out hg)
  obtain ⟨A, c, rfl⟩ := own_slice hown1
  clear hx hown2 hown1 hgrow hown hown'
  have hc1 : w1.cell? ⟨p, 0, none⟩ = some u := cell_of_row w1 p 0 _ _ _ hb1.out
  have hf1 : w1.frozen? ⟨p, 0, none⟩ = false := frozen_of_heap w1 p 0 _ _ hb1.out
  go_wp2_with fail
  go_end0
  exact ⟨rfl, HW.out⟩

theorem Wrote.lt {C p : Nat} {w w' : World} {l : List UInt8} {bad : Bool} (h : Wrote C p w l bad w') : Wr C w' p l bad := h.1
theorem Wrote.then {C p : Nat} {w w1 w2 : World} {l m : List UInt8} {b c : Bool} (h : Wrote C p w l b w1) (k : Wrote C p w1 m c w2) : Wrote C p w m c w2 := ⟨k.1, h.2.trans k.2⟩

set_option maxHeartbeats 400000 in
theorem high_one (C p : Nat) (v : Int) (l : List UInt8) (bad : Bool) (w : World) (h0 : 0 ≤ v) (h1 : v ≤ 65535) (hl : l.length ≤ 999000) (hw : Wr C w p l bad) :
    Calls Tryz.prog 164 #[.int .u32 v, .int .i64 8, .func (.func 165) #[ptr p] #[]] w fun e w' => e = .returned (.tuple #[]) ∧ Wrote C p w (l ++ w2 v) bad w' := by
  have e : l ++ w2 v = (l ++ [byte (v / 256)]) ++ [byte (v % 256)] := by rw [byte_mod v h0]; simp [w2]
  rw [e]
  clear e
  go_enter Tryz.func164, Tryz.ntmps164
  go_wp2_with fail
  refine (one_any C p _ l bad _ (by omega) (by omega) hw).mono ?_; rintro e w1 ⟨rfl, hw1⟩
  have H1 := Lib.hid hw1
  clear hw1
  go_wp2_with fail
  rw [mask8 v h0 (by omega)]
  refine (one_any C p _ _ bad _ (by omega) (by simp; omega) H1.out.1).mono ?_; rintro e w2 ⟨rfl, hw2⟩
  have H2 := Lib.hid (H1.out.then hw2)
  clear hw2
  go_wp2_with fail
  go_end0
  exact ⟨rfl, H2.out⟩

set_option maxHeartbeats 400000 in
theorem two_any (C p : Nat) (v : Int) (l : List UInt8) (bad : Bool) (w : World) (h0 : 0 ≤ v) (h1 : v ≤ 65535) (hl : l.length ≤ 999000) (hw : Wr C w p l bad) :
    Calls Tryz.prog 139 #[ptr p, .int .u32 v] w fun e w' => e = .returned (.tuple #[]) ∧ Wrote C p w (l ++ w2 v) bad w' := by
  go_enter Tryz.func139, Tryz.ntmps139
  go_wp2_with fail
  refine (high_one C p _ l bad _ h0 h1 hl hw).mono ?_; rintro e w1 ⟨rfl, hw1⟩
  have H1 := Lib.hid hw1
  clear hw1
  go_wp2_with fail
  go_end0
  exact ⟨rfl, H1.out⟩

set_option maxHeartbeats 400000 in
theorem high_two (C p : Nat) (v : Int) (l : List UInt8) (bad : Bool) (w : World) (h0 : 0 ≤ v) (h1 : v ≤ 4294967295) (hl : l.length ≤ 998000) (hw : Wr C w p l bad) :
    Calls Tryz.prog 164 #[.int .u32 v, .int .i64 16, .func (.func 139) #[ptr p] #[]] w fun e w' => e = .returned (.tuple #[]) ∧ Wrote C p w (l ++ w4 v) bad w' := by
  have e : l ++ w4 v = (l ++ w2 (v / 65536)) ++ w2 (v % 65536) := by simp [w4]
  rw [e]
  clear e
  go_enter Tryz.func164, Tryz.ntmps164
  go_wp2_with fail
  refine (two_any C p _ l bad _ (by omega) (by omega) (by omega) hw).mono ?_; rintro e w1 ⟨rfl, hw1⟩
  have H1 := Lib.hid hw1
  clear hw1
  go_wp2_with fail
  rw [mask16 v h0 (by omega)]
  refine (two_any C p _ _ bad _ (by omega) (by omega) (by simp [w2_length]; omega) H1.out.1).mono ?_; rintro e w2 ⟨rfl, hw2⟩
  have H2 := Lib.hid (H1.out.then hw2)
  clear hw2
  go_wp2_with fail
  go_end0
  exact ⟨rfl, H2.out⟩

set_option maxHeartbeats 400000 in
theorem four_any (C p : Nat) (v : Int) (l : List UInt8) (bad : Bool) (w : World) (h0 : 0 ≤ v) (h1 : v ≤ 4294967295) (hl : l.length ≤ 998000) (hw : Wr C w p l bad) :
    Calls Tryz.prog 140 #[ptr p, .int .u32 v] w fun e w' => e = .returned (.tuple #[]) ∧ Wrote C p w (l ++ w4 v) bad w' := by
  go_enter Tryz.func140, Tryz.ntmps140
  go_wp2_with fail
  refine (high_two C p _ l bad _ h0 h1 hl hw).mono ?_; rintro e w1 ⟨rfl, hw1⟩
  have H1 := Lib.hid hw1
  clear hw1
  go_wp2_with fail
  go_end0
  exact ⟨rfl, H1.out⟩

theorem Wr.cell1 {C p : Nat} {w : World} {l : List UInt8} {bad : Bool} (h : Wr C w p l bad) : w.cell? ⟨p, 1, none⟩ = some (.bool bad) := by
  obtain ⟨_, v, hh, _⟩ := h
  exact cell_of_row w p 1 _ _ _ hh
theorem Wr.free1 {C p : Nat} {w : World} {l : List UInt8} {bad : Bool} (h : Wr C w p l bad) : w.frozen? ⟨p, 1, none⟩ = false := by
  obtain ⟨_, v, hh, _⟩ := h
  exact frozen_of_heap w p 1 _ _ hh

/-! number: the value fits; it does not; the Writer was bad already; there is no Writer. -/
set_option maxHeartbeats 400000 in
theorem number2_ok (C p : Nat) (v : Int) (l : List UInt8) (w : World) (h0 : 0 ≤ v) (h1 : v ≤ 65535) (hl : l.length ≤ 998000) (hw : Wr C w p l false) :
    Calls Tryz.prog 138 #[ptr p, .int .i64 v, .int .u64 65535, .func (.func 139) #[ptr p] #[]] w fun e w' => e = .returned (ptr p) ∧ Wrote C p w (l ++ w2 v) false w' := by
  have hc1 := hw.cell1
  have hn : ¬ 65535 < v := by omega
  have Hw := Lib.hid hw
  clear hw
  go_enter Tryz.func138, Tryz.ntmps138
  go_wp2_with fail
  refine (two_any C p v l false _ h0 h1 (by omega) Hw.out).mono ?_; rintro e w1 ⟨rfl, hw1⟩
  have H1 := Lib.hid hw1
  clear hw1
  go_wp2_with fail
  go_ret
  exact ⟨rfl, H1.out⟩

set_option maxHeartbeats 400000 in
theorem number4_ok (C p : Nat) (v : Int) (l : List UInt8) (w : World) (h0 : 0 ≤ v) (h1 : v ≤ 4294967295) (hl : l.length ≤ 998000) (hw : Wr C w p l false) :
    Calls Tryz.prog 138 #[ptr p, .int .i64 v, .int .u64 4294967295, .func (.func 140) #[ptr p] #[]] w fun e w' => e = .returned (ptr p) ∧ Wrote C p w (l ++ w4 v) false w' := by
  have hc1 := hw.cell1
  have hn : ¬ 4294967295 < v := by omega
  have Hw := Lib.hid hw
  clear hw
  go_enter Tryz.func138, Tryz.ntmps138
  go_wp2_with fail
  refine (four_any C p v l false _ h0 h1 hl Hw.out).mono ?_; rintro e w1 ⟨rfl, hw1⟩
  have H1 := Lib.hid hw1
  clear hw1
  go_wp2_with fail
  go_ret
  exact ⟨rfl, H1.out⟩

theorem wrap_out (v top : Int) (h : v < 0 ∨ top < v) (h1 : -9223372036854775808 ≤ v) (h2 : v ≤ 9223372036854775807) (h3 : top ≤ 4294967295) : top < IntKind.u64.wrap v := by
  rw [IntKind.wrap_u64]; omega

set_option maxHeartbeats 400000 in
theorem number_out (C p : Nat) (v top : Int) (f : Value) (l : List UInt8) (bad : Bool) (w : World) (h : v < 0 ∨ top < v) (h1 : -9223372036854775808 ≤ v) (h2 : v ≤ 9223372036854775807) (h3 : top ≤ 4294967295) (hw : Wr C w p l bad) :
    Calls Tryz.prog 138 #[ptr p, .int .i64 v, .int .u64 top, f] w fun e w' => e = .returned (ptr p) ∧ Wrote C p w l true w' := by
  have hc1 := hw.cell1
  have hf1 := hw.free1
  have hu := wrap_out v top h h1 h2 h3
  have Hw := Lib.hid hw.spoilt
  clear hw h h1 h2 h3
  go_enter Tryz.func138, Tryz.ntmps138
  go_wp2_with fail
  go_ret
  exact ⟨rfl, Hw.out⟩

set_option maxHeartbeats 400000 in
theorem number_stuck (C p : Nat) (v top : Int) (f : Value) (l : List UInt8) (w : World) (h0 : 0 ≤ v) (h1 : v ≤ top) (h3 : top ≤ 4294967295) (hw : Wr C w p l true) :
    Calls Tryz.prog 138 #[ptr p, .int .i64 v, .int .u64 top, f] w fun e w' => e = .returned (ptr p) ∧ Wrote C p w l true w' := by
  have hc1 := hw.cell1
  have hn : ¬ top < v := by omega
  have h4 : v ≤ 4294967295 := by omega
  have Hw := Lib.hid hw
  clear hw
  go_enter Tryz.func138, Tryz.ntmps138
  go_wp2_with fail
  go_ret
  exact ⟨rfl, Hw.out, Only.refl _ _ _⟩

set_option maxHeartbeats 400000 in
theorem number_nil (v top : Int) (f : Value) (w : World) :
    Calls Tryz.prog 138 #[.pointer none, .int .i64 v, .int .u64 top, f] w fun e w' => e = .returned (.pointer none) ∧ w = w' := by
  go_enter Tryz.func138, Tryz.ntmps138
  go_wp2_with fail
  go_ret
  exact ⟨rfl, rfl⟩

/-- What a Writer is behind a number of so many bytes. -/
def after (top : Int) (f : Int → List UInt8) (l : List UInt8) (bad : Bool) (v : Int) : List UInt8 × Bool :=
  if 0 ≤ v ∧ v ≤ top then (if bad then (l, true) else (l ++ f v, false)) else (l, true)

set_option maxHeartbeats 400000 in
theorem num_any (C p : Nat) (v : Int) (l : List UInt8) (bad : Bool) (w : World) (h1 : -9223372036854775808 ≤ v) (h2 : v ≤ 9223372036854775807) (hl : l.length ≤ 998000) (hw : Wr C w p l bad) :
    Calls Tryz.prog 88 #[ptr p, .int .i64 v] w fun e w' => e = .returned (ptr p) ∧ Wrote C p w (after 65535 w2 l bad v).1 (after 65535 w2 l bad v).2 w' := by
  by_cases h : 0 ≤ v ∧ v ≤ 65535
  · cases bad
    · have e : after 65535 w2 l false v = (l ++ w2 v, false) := by simp [after, h]
      rw [e]
      clear e
      have Hw := Lib.hid hw
      clear hw
      go_enter Tryz.func88, Tryz.ntmps88
      go_wp2_with fail
      refine (number2_ok C p v l _ h.1 h.2 hl Hw.out).mono ?_; rintro e w1 ⟨rfl, hw1⟩
      have H1 := Lib.hid hw1
      clear hw1
      go_wp2_with fail
      go_ret
      exact ⟨rfl, H1.out⟩
    · have e : after 65535 w2 l true v = (l, true) := by simp [after]
      rw [e]
      clear e
      have Hw := Lib.hid hw
      clear hw
      go_enter Tryz.func88, Tryz.ntmps88
      go_wp2_with fail
      refine (number_stuck C p v 65535 _ l _ h.1 h.2 (by omega) Hw.out).mono ?_; rintro e w1 ⟨rfl, hw1⟩
      have H1 := Lib.hid hw1
      clear hw1
      go_wp2_with fail
      go_ret
      exact ⟨rfl, H1.out⟩
  · have e : after 65535 w2 l bad v = (l, true) := by unfold after; rw [if_neg h]
    rw [e]
    clear e
    have Hw := Lib.hid hw
    clear hw
    have Hh := Lib.hid h
    clear h
    go_enter Tryz.func88, Tryz.ntmps88
    go_wp2_with fail
    refine (number_out C p v 65535 _ l bad _ (by have := Hh.out; omega) h1 h2 (by omega) Hw.out).mono ?_; rintro e w1 ⟨rfl, hw1⟩
    have H1 := Lib.hid hw1
    clear hw1
    go_wp2_with fail
    go_ret
    exact ⟨rfl, H1.out⟩

set_option maxHeartbeats 400000 in
theorem num_nil_w (v : Int) (w : World) : Calls Tryz.prog 88 #[.pointer none, .int .i64 v] w fun e w' => e = .returned (.pointer none) ∧ w = w' := by
  go_enter Tryz.func88, Tryz.ntmps88
  go_wp2_with fail
  refine (number_nil v 65535 _ _).mono ?_; rintro e w1 ⟨rfl, rfl⟩
  go_wp2_with fail
  go_ret
  exact ⟨rfl, rfl⟩

set_option maxHeartbeats 400000 in
theorem long_any (C p : Nat) (v : Int) (l : List UInt8) (bad : Bool) (w : World) (h1 : -9223372036854775808 ≤ v) (h2 : v ≤ 9223372036854775807) (hl : l.length ≤ 998000) (hw : Wr C w p l bad) :
    Calls Tryz.prog 89 #[ptr p, .int .i64 v] w fun e w' => e = .returned (ptr p) ∧ Wrote C p w (after 4294967295 w4 l bad v).1 (after 4294967295 w4 l bad v).2 w' := by
  by_cases h : 0 ≤ v ∧ v ≤ 4294967295
  · cases bad
    · have e : after 4294967295 w4 l false v = (l ++ w4 v, false) := by simp [after, h]
      rw [e]
      clear e
      have Hw := Lib.hid hw
      clear hw
      go_enter Tryz.func89, Tryz.ntmps89
      go_wp2_with fail
      refine (number4_ok C p v l _ h.1 h.2 hl Hw.out).mono ?_; rintro e w1 ⟨rfl, hw1⟩
      have H1 := Lib.hid hw1
      clear hw1
      go_wp2_with fail
      go_ret
      exact ⟨rfl, H1.out⟩
    · have e : after 4294967295 w4 l true v = (l, true) := by simp [after]
      rw [e]
      clear e
      have Hw := Lib.hid hw
      clear hw
      go_enter Tryz.func89, Tryz.ntmps89
      go_wp2_with fail
      refine (number_stuck C p v 4294967295 _ l _ h.1 h.2 (by omega) Hw.out).mono ?_; rintro e w1 ⟨rfl, hw1⟩
      have H1 := Lib.hid hw1
      clear hw1
      go_wp2_with fail
      go_ret
      exact ⟨rfl, H1.out⟩
  · have e : after 4294967295 w4 l bad v = (l, true) := by unfold after; rw [if_neg h]
    rw [e]
    clear e
    have Hw := Lib.hid hw
    clear hw
    have Hh := Lib.hid h
    clear h
    go_enter Tryz.func89, Tryz.ntmps89
    go_wp2_with fail
    refine (number_out C p v 4294967295 _ l bad _ (by have := Hh.out; omega) h1 h2 (by omega) Hw.out).mono ?_; rintro e w1 ⟨rfl, hw1⟩
    have H1 := Lib.hid hw1
    clear hw1
    go_wp2_with fail
    go_ret
    exact ⟨rfl, H1.out⟩

set_option maxHeartbeats 400000 in
theorem long_nil (v : Int) (w : World) : Calls Tryz.prog 89 #[.pointer none, .int .i64 v] w fun e w' => e = .returned (.pointer none) ∧ w = w' := by
  go_enter Tryz.func89, Tryz.ntmps89
  go_wp2_with fail
  refine (number_nil v 4294967295 _ _).mono ?_; rintro e w1 ⟨rfl, rfl⟩
  go_wp2_with fail
  go_ret
  exact ⟨rfl, rfl⟩

theorem Wr.cell0 {C p : Nat} {w : World} {l : List UInt8} {bad : Bool} (h : Wr C w p l bad) : ∃ v, w.heap[p]? = some (.cells #[v, .bool bad] 67 (0, 0)) ∧ w.ownsRow C 5 1 v l.length (bcs l) := h.2

/-! Text: into a good Writer, a short one; there is no Writer. -/
set_option maxHeartbeats 800000 in
theorem text_ok (C p : Nat) (s : ByteArray) (l : List UInt8) (w : World) (hs : s.size ≤ 65535) (hl : l.length ≤ 900000) (hw : Wr C w p l false) :
    Calls Tryz.prog 90 #[ptr p, .string s] w fun e w' => e = .returned (ptr p) ∧ Wrote C p w (l ++ (w2 s.size ++ s.data.toList)) false w' := by
  obtain ⟨i0, hi, hz0, hz1, hz2⟩ := info_parts info5
  have e0 : after 65535 w2 l false (s.size : Int) = (l ++ w2 s.size, false) := by unfold after; rw [if_pos ⟨by omega, by omega⟩]; rfl
  have H0 := (num_any C p (s.size : Int) l false w (by omega) (by omega) (by omega) hw)
  rw [e0] at H0
  have HH := Lib.hid H0
  clear H0 e0 hw
  go_enter Tryz.func90, Tryz.ntmps90
  go_wp2_with fail
  refine (HH.out).mono ?_; rintro e w1 ⟨rfl, hw1⟩
  obtain ⟨u, hh, hown⟩ := hw1.1.cell0
  have hC := hw1.1.1
  have hc0 : w1.cell? ⟨p, 0, none⟩ = some u := cell_of_row w1 p 0 _ _ _ hh
  have hc1 : w1.cell? ⟨p, 1, none⟩ = some (.bool false) := cell_of_row w1 p 1 _ _ _ hh
  have H1 := Lib.hid hw1
  have Hh := Lib.hid hh
  clear hw1 hh
  have hown' := hown
  go_wp2_with (at_builtin; refine Lib.wpList_append_own_string _ rfl (.tmp 22) (.tmp 23) 63 9 rfl C 5 i0 Tryz.underlying63 Tryz.underlying9 hi hz0 hz1 hz2 _ _ _ rfl hown s rfl ?c1 ?c2 hC ?_)
  case c1 => simp [w2_length]; unfold maxLen; omega
  case c2 => simp [w2_length]; omega
  intro u' w2' hown1 hgrow hnil
  have hown2 : w2'.ownsRow C 5 1 u' ((l ++ w2 (s.size : Int)) ++ s.data.toList).length (bcs ((l ++ w2 (s.size : Int)) ++ s.data.toList)) := by
    rw [bcs_append]
    have e : ((l ++ w2 (s.size : Int)) ++ s.data.toList).length = l.length + (w2 (s.size : Int)).length + s.size := by simp; omega
    rw [e]
    exact hown1
  have HW := Lib.hid (H1.out.2.trans (Wr.wrote hC Hh.out hown hgrow hown2).2)
  have HV := Lib.hid (Wr.wrote hC Hh.out hown hgrow hown2).1
  have hb1 := Lib.hid (wrote_block hown Hh.out hgrow)
  obtain ⟨A, c, rfl⟩ := own_slice hown1
  clear hown2 hown1 hgrow hown hown' hnil
  have hd1 : w2'.cell? ⟨p, 0, none⟩ = some u := cell_of_row w2' p 0 _ _ _ hb1.out
  have hf1 : w2'.frozen? ⟨p, 0, none⟩ = false := frozen_of_heap w2' p 0 _ _ hb1.out
  go_wp2_with fail
  go_ret
  exact ⟨rfl, by rw [← List.append_assoc]; exact HV.out, HW.out⟩

set_option maxHeartbeats 400000 in
theorem text_stuck (C p : Nat) (s : ByteArray) (l : List UInt8) (w : World) (hs : s.size ≤ 65535) (hl : l.length ≤ 900000) (hw : Wr C w p l true) :
    Calls Tryz.prog 90 #[ptr p, .string s] w fun e w' => e = .returned (ptr p) ∧ Wrote C p w l true w' := by
  have e0 : after 65535 w2 l true (s.size : Int) = (l, true) := by simp [after]
  have H0 := (num_any C p (s.size : Int) l true w (by omega) (by omega) (by omega) hw)
  rw [e0] at H0
  have HH := Lib.hid H0
  clear H0 e0 hw
  go_enter Tryz.func90, Tryz.ntmps90
  go_wp2_with fail
  refine (HH.out).mono ?_; rintro e w1 ⟨rfl, hw1⟩
  have hc1 := hw1.1.cell1
  have H1 := Lib.hid hw1
  clear hw1
  go_wp2_with fail
  go_ret
  exact ⟨rfl, H1.out⟩

theorem text_nil (s : ByteArray) (w : World) (hs : s.size ≤ maxLen) : Calls Tryz.prog 90 #[.pointer none, .string s] w fun e w' => e = .returned (.pointer none) ∧ w = w' := by
  unfold maxLen at hs
  go_enter Tryz.func90, Tryz.ntmps90
  go_wp2_with fail
  refine (num_nil_w _ _).mono ?_; rintro e w1 ⟨rfl, rfl⟩
  go_wp2_with fail
  go_ret
  exact ⟨rfl, rfl⟩

/-! Done. -/
theorem done_good (C p : Nat) (l : List UInt8) (w : World) (hw : Wr C w p l false) :
    Calls Tryz.prog 21 #[ptr p] w fun e w' => e = .returned (.tuple #[.string (str l), .bool true]) ∧ w = w' := by
  obtain ⟨_, u, hh, hown⟩ := hw
  have hc0 : w.cell? ⟨p, 0, none⟩ = some u := cell_of_row w p 0 _ _ _ hh
  have hc1 : w.cell? ⟨p, 1, none⟩ = some (.bool false) := cell_of_row w p 1 _ _ _ hh
  have hv := own_string (P := Tryz.prog) hown rfl Tryz.underlying63 Tryz.underlying5 Tryz.underlying9
  obtain ⟨A, c, rfl⟩ := own_slice hown
  clear hh hown
  go_enter Tryz.func21, Tryz.ntmps21
  go_wp2_with fail
  go_ret2
  exact ⟨rfl, rfl⟩
theorem done_bad (C p : Nat) (l : List UInt8) (w : World) (hw : Wr C w p l true) :
    Calls Tryz.prog 21 #[ptr p] w fun e w' => e = .returned (.tuple #[.string (str []), .bool false]) ∧ w = w' := by
  have hc1 := hw.cell1
  clear hw
  go_enter Tryz.func21, Tryz.ntmps21
  go_wp2_with fail
  go_ret2
  exact ⟨rfl, rfl⟩
theorem done_nil (w : World) : Calls Tryz.prog 21 #[.pointer none] w fun e w' => e = .returned (.tuple #[.string (str []), .bool false]) ∧ w = w' := by
  go_enter Tryz.func21, Tryz.ntmps21
  go_wp2_with fail
  go_ret2
  exact ⟨rfl, rfl⟩

end Go.Proofs.YtbmnagfjpenemaaGreatDoor
