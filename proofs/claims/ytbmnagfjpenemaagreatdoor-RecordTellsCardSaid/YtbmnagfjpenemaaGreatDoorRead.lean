/- The contracts of the Reader, whatever its state: a number, a text. -/
import Derived.Test.YtbmnagfjpenemaaGreatDoorReaders
namespace Go.Proofs.YtbmnagfjpenemaaGreatDoor
open Go.ChangeShapes Go.WideShapes Go.ChangeAt Go.RowKit
set_option linter.unusedVariables false
set_option maxRecDepth 100000
/-- A Reader's state. -/
def RdS (w : World) (q : Nat) (s : RS) : Prop := Rd w q s.1 s.2
def ReadS (C q : Nat) (w : World) (s : RS) (w' : World) : Prop := RdS w' q s ∧ Only C q w w'
theorem ReadS.then {C q : Nat} {w w1 w2 : World} {s t : RS} (h : ReadS C q w s w1) (k : ReadS C q w1 t w2) : ReadS C q w t w2 := ⟨k.1, h.2.trans k.2⟩
theorem ReadS.size {C q : Nat} {w w' : World} {s : RS} (h : ReadS C q w s w') : w.heap.size ≤ w'.heap.size := h.2.size
def Few (s : RS) : Prop := s.1.length ≤ 800000
theorem few_take {s : RS} (h : Few s) (n : Nat) : Few (takeR n s).2 := by
  unfold Few takeR at *
  split
  · split
    · simp; omega
    · simp
  · exact h
theorem few_num {s : RS} (h : Few s) : Few (numR s).2 := few_take h 2
theorem few_long {s : RS} (h : Few s) : Few (longR s).2 := few_take h 4
theorem few_text {s : RS} (h : Few s) : Few (textR s).2 := few_take (few_num h) _
theorem few_flag {s : RS} (h : Few s) : Few (flagR s).2 := few_num h
theorem few_listN {α : Type} {f : RS → α × RS} (hf : ∀ s, Few s → Few (f s).2) : ∀ (n : Nat) {s : RS}, Few s → Few (listN f n s).2
  | 0, s, h => h
  | n + 1, s, h => hf _ (few_listN hf n h)
theorem few_list {α : Type} {f : RS → α × RS} (hf : ∀ s, Few s → Few (f s).2) (m : Nat) {s : RS} (h : Few s) : Few (listR f m s).2 := few_listN hf _ (few_num h)
theorem few_pages {s : RS} (h : Few s) : Few (pagesR s).2 := few_list (fun _ h => few_num h) 64 h
theorem few_pt {s : RS} (h : Few s) : Few (ptR s).2 := few_text (few_num (few_num h))
theorem few_tx {s : RS} (h : Few s) : Few (txR s).2 := few_pages (few_flag (few_long (few_num h)))
theorem few_dy {s : RS} (h : Few s) : Few (dyR s).2 := few_long (few_num h)
theorem num_range (s : RS) (k : Nat) (hk : k ≤ 4) : num (takeR k s).1 < 256 ^ k := by
  have hl : (takeR k s).1.length ≤ k := by
    unfold takeR
    split
    · split
      · simp; omega
      · simp
    · simp
  exact Nat.lt_of_lt_of_le (num_lt _ (by omega)) (Nat.pow_le_pow_right (by omega) hl)
theorem numR_in (s : RS) : 0 ≤ (numR s).1 ∧ (numR s).1 ≤ 65535 := by
  have := num_range s 2 (by omega)
  unfold numR
  simp only
  omega
theorem longR_in (s : RS) : 0 ≤ (longR s).1 ∧ (longR s).1 ≤ 4294967295 := by
  have := num_range s 4 (by omega)
  unfold longR
  simp only
  omega
theorem textR_in {s : RS} (h : Few s) : (textR s).1.size ≤ 800000 := by
  unfold textR
  rw [str_size]
  have := few_num h
  generalize (numR s).2 = t at *
  unfold takeR Few at *
  split
  · split
    · simp; omega
    · simp
  · simp
theorem take_any (C q n : Nat) (s : RS) (w : World) (hs : Few s) (hr : RdS w q s) : Calls Tryz.prog 172 #[ptr q, .int .i64 (n : Int)] w fun e w' => e = .returned (.string (str (takeR n s).1)) ∧ ReadS C q w (takeR n s).2 w' := by
  obtain ⟨l, g⟩ := s
  unfold Few at hs
  simp only at hs
  cases g with
  | true =>
    by_cases h : n ≤ l.length
    · have e : takeR n (l, true) = (l.take n, (l.drop n, true)) := by simp [takeR, h]
      rw [e]
      exact take_ok C q n l w h (by omega) hr
    · have e : takeR n (l, true) = ([], ([], false)) := by simp [takeR, h]
      rw [e]
      exact take_short C q n l w (by omega) (by omega) hr
  | false => exact take_bad C q n l w hr
theorem number_any (C q n : Nat) (s : RS) (w : World) (h4 : n ≤ 4) (hs : Few s) (hC : C ≤ w.heap.size) (hr : RdS w q s) : Calls Tryz.prog 159 #[ptr q, .int .i64 (n : Int)] w fun e w' => e = .returned (.int .i64 (num (takeR n s).1 : Nat)) ∧ ReadS C q w (takeR n s).2 w' := by
  obtain ⟨l, g⟩ := s
  unfold Few at hs
  simp only at hs
  cases g with
  | true =>
    by_cases h : n ≤ l.length
    · have e : takeR n (l, true) = (l.take n, (l.drop n, true)) := by simp [takeR, h]
      rw [e]
      exact number_ok C q n l w h h4 (by omega) hC hr
    · have e : takeR n (l, true) = ([], ([], false)) := by simp [takeR, h]
      rw [e]
      exact number_short C q n l w (by omega) (by omega) hC hr
  | false => exact number_bad C q n l w hC hr
theorem rnum_any (C q : Nat) (s : RS) (w : World) (hs : Few s) (hC : C ≤ w.heap.size) (hr : RdS w q s) : Calls Tryz.prog 112 #[ptr q] w fun e w' => e = .returned (.int .i64 (numR s).1) ∧ ReadS C q w (numR s).2 w' :=
  of_number2 _ _ _ _ (number_any C q 2 s w (by omega) hs hC hr)
theorem rlong_any (C q : Nat) (s : RS) (w : World) (hs : Few s) (hC : C ≤ w.heap.size) (hr : RdS w q s) : Calls Tryz.prog 113 #[ptr q] w fun e w' => e = .returned (.int .i64 (longR s).1) ∧ ReadS C q w (longR s).2 w' :=
  of_number4 _ _ _ _ (number_any C q 4 s w (by omega) hs hC hr)
theorem rtext_any (C q : Nat) (s : RS) (w : World) (hs : Few s) (hC : C ≤ w.heap.size) (hr : RdS w q s) : Calls Tryz.prog 161 #[ptr q] w fun e w' => e = .returned (.string (textR s).1) ∧ ReadS C q w (textR s).2 w' := by
  have NU := Lib.hid (rnum_any C q s w hs hC hr)
  have hin := numR_in s
  have HX : Hid (∀ w1, ReadS C q w (numR s).2 w1 → Calls Tryz.prog 172 #[ptr q, .int .i64 (numR s).1] w1 fun e w' => e = .returned (.string (textR s).1) ∧ ReadS C q w (textR s).2 w') := fun w1 h1 => by
    have h := take_any C q (numR s).1.toNat (numR s).2 w1 (few_num hs) h1.1
    rw [Int.toNat_of_nonneg hin.1] at h
    exact h.mono fun e w' ⟨a, b⟩ => ⟨a, h1.then b⟩
  clear hs hC hr hin
  generalize (numR s).1 = v at *
  generalize (textR s).1 = x at *
  go_enter Tryz.func161, Tryz.ntmps161
  go_wp2_with fail
  refine (NU.out).mono ?_; rintro e w1 ⟨rfl, hr1⟩
  have TX := Lib.hid (HX.out w1 hr1)
  clear hr1 HX NU
  go_wp2_with fail
  refine TX.out.mono ?_; rintro e w2 ⟨rfl, hr2⟩
  have H2 := Lib.hid hr2
  clear hr2 TX
  go_wp2_with fail
  go_ret
  exact ⟨rfl, H2.out⟩
end Go.Proofs.YtbmnagfjpenemaaGreatDoor
