/- The contracts of pack's Reader: what each call reads, and when the Reader turns bad. -/
import Derived.Test.YtbmnagfjpenemaaGreatDoorWriters
namespace Go.Proofs.YtbmnagfjpenemaaGreatDoor
open Go.ChangeShapes Go.WideShapes Go.ChangeAt Go.RowKit
set_option linter.unusedVariables false
set_option maxRecDepth 100000

theorem bad_yes (q : Nat) (l : List UInt8) (w : World) (hr : Rd w q l false) :
    Calls Tryz.prog 175 #[ptr q] w fun e w' => e = .returned (.bool true) ∧ w = w' := by
  have hc1 : w.cell? ⟨q, 1, none⟩ = some (.bool false) := cell_of_row w q 1 _ _ _ hr
  clear hr
  go_enter Tryz.func175, Tryz.ntmps175
  go_wp2_with fail
  go_ret
  exact ⟨rfl, rfl⟩
theorem bad_no (q : Nat) (l : List UInt8) (w : World) (hr : Rd w q l true) :
    Calls Tryz.prog 175 #[ptr q] w fun e w' => e = .returned (.bool false) ∧ w = w' := by
  have hc1 : w.cell? ⟨q, 1, none⟩ = some (.bool true) := cell_of_row w q 1 _ _ _ hr
  clear hr
  go_enter Tryz.func175, Tryz.ntmps175
  go_wp2_with fail
  go_ret
  exact ⟨rfl, rfl⟩
theorem bad_nil (w : World) : Calls Tryz.prog 175 #[.pointer none] w fun e w' => e = .returned (.bool true) ∧ w = w' := by
  go_enter Tryz.func175, Tryz.ntmps175
  go_wp2_with fail
  go_ret
  exact ⟨rfl, rfl⟩

/-- What a reading call leaves. -/
def Read (C q : Nat) (w : World) (l : List UInt8) (good : Bool) (w' : World) : Prop := Rd w' q l good ∧ Only C q w w'

theorem Read.then {C q : Nat} {w w1 w2 : World} {l m : List UInt8} {b c : Bool} (h : Read C q w l b w1) (k : Read C q w1 m c w2) : Read C q w m c w2 := ⟨k.1, h.2.trans k.2⟩
theorem Read.on {C q : Nat} {w w1 w2 : World} {l : List UInt8} {b : Bool} (h : Read C q w l b w1) (hC : C ≤ w.heap.size) (k : Below w1.heap.size w1 w2) : Read C q w l b w2 :=
  ⟨(k.block q h.1.lt).trans h.1, h.2.trans (Only.of_below k (Nat.le_trans hC h.2.size))⟩
theorem extract_take (l : List UInt8) (n : Nat) : (str l).extract 0 n = str (l.take n) := by
  apply ByteArray.ext; apply Array.ext'; simp [str]
theorem extract_drop (l : List UInt8) (n : Nat) : (str l).extract n (str l).size = str (l.drop n) := by
  apply ByteArray.ext; apply Array.ext'; simp [str, ByteArray.size]
  rw [List.take_of_length_le (by simp)]

theorem str_toList (l : List UInt8) : (str l).toList = l := by rw [Lib.toList_data]; rfl

theorem take_bad (C q : Nat) (n : Int) (l : List UInt8) (w : World) (hr : Rd w q l false) :
    Calls Tryz.prog 172 #[ptr q, .int .i64 n] w fun e w' => e = .returned (.string (str [])) ∧ Read C q w l false w' := by
  have Hr := Lib.hid hr
  clear hr
  go_enter Tryz.func172, Tryz.ntmps172
  go_wp2_with fail
  refine (bad_yes q l _ Hr.out).mono ?_; rintro e w1 ⟨rfl, rfl⟩
  go_wp2_with fail
  go_ret
  exact ⟨rfl, Hr.out, Only.refl _ _ _⟩
theorem take_nil (n : Int) (w : World) : Calls Tryz.prog 172 #[.pointer none, .int .i64 n] w fun e w' => e = .returned (.string (str [])) ∧ w = w' := by
  go_enter Tryz.func172, Tryz.ntmps172
  go_wp2_with fail
  refine (bad_nil _).mono ?_; rintro e w1 ⟨rfl, rfl⟩
  go_wp2_with fail
  go_ret
  exact ⟨rfl, rfl⟩

theorem take_short (C q : Nat) (n : Nat) (l : List UInt8) (w : World) (hn : l.length < n) (hl : l.length ≤ 1000000) (hr : Rd w q l true) :
    Calls Tryz.prog 172 #[ptr q, .int .i64 (n : Int)] w fun e w' => e = .returned (.string (str [])) ∧ Read C q w [] false w' := by
  have Hr := Lib.hid hr
  have Hp := Lib.hid (show Read C q w [] false ((w.setCell ⟨q, 0, none⟩ (.string (str []))).setCell ⟨q, 1, none⟩ (.bool false)) from ⟨(hr.cut []).spoilt, ((Only.refl C q w).setCell 0 _).setCell 1 _⟩)
  have hc0 : w.cell? ⟨q, 0, none⟩ = some (.string (str l)) := cell_of_row w q 0 _ _ _ hr
  have hc1 : w.cell? ⟨q, 1, none⟩ = some (.bool true) := cell_of_row w q 1 _ _ _ hr
  have hf0 : w.frozen? ⟨q, 0, none⟩ = false := frozen_of_heap w q 0 _ _ hr
  have hf1 : w.frozen? ⟨q, 1, none⟩ = false := frozen_of_heap w q 1 _ _ hr
  have hs : (str l).size < n := hn
  have hb : (str l).size ≤ 1000000 := hl
  generalize hx : str l = x at *
  clear hr hx
  go_enter Tryz.func172, Tryz.ntmps172
  go_wp2_with fail
  refine (bad_no q l _ Hr.out).mono ?_; rintro e w1 ⟨rfl, rfl⟩
  go_wp2_with fail
  go_ret
  exact ⟨rfl, Hp.out⟩
theorem take_ok (C q : Nat) (n : Nat) (l : List UInt8) (w : World) (hn : n ≤ l.length) (hl : l.length ≤ 1000000) (hr : Rd w q l true) :
    Calls Tryz.prog 172 #[ptr q, .int .i64 (n : Int)] w fun e w' => e = .returned (.string (str (l.take n))) ∧ Read C q w (l.drop n) true w' := by
  have Hr := Lib.hid hr
  have Hp := Lib.hid (show Read C q w (l.drop n) true (w.setCell ⟨q, 0, none⟩ (.string (str (l.drop n)))) from ⟨hr.cut _, (Only.refl C q w).setCell 0 _⟩)
  have hc0 : w.cell? ⟨q, 0, none⟩ = some (.string (str l)) := cell_of_row w q 0 _ _ _ hr
  have hc1 : w.cell? ⟨q, 1, none⟩ = some (.bool true) := cell_of_row w q 1 _ _ _ hr
  have hf0 : w.frozen? ⟨q, 0, none⟩ = false := frozen_of_heap w q 0 _ _ hr
  have hf1 : w.frozen? ⟨q, 1, none⟩ = false := frozen_of_heap w q 1 _ _ hr
  have hs : n ≤ (str l).size := hn
  have hb : (str l).size ≤ 1000000 := hl
  have hn' : n ≤ 1000000 := by omega
  have Hs : Hid (¬ (str l).size < n) := Lib.hid (by omega)
  rw [← extract_take]
  rw [← extract_drop] at Hp
  generalize hx : str l = x at *
  clear hr hx
  have hs' := Hs.out
  go_enter Tryz.func172, Tryz.ntmps172
  go_wp2_with fail
  refine (bad_no q l _ Hr.out).mono ?_; rintro e w1 ⟨rfl, rfl⟩
  go_wp2_with fail
  go_ret
  exact ⟨rfl, Hp.out⟩

theorem to_bytes (w : World) (m : List UInt8) : ∃ c w2, (convert 9 63 (.string (str m))).run Tryz.prog w = .ok (.slice (some ⟨w.heap.size, 0, none⟩) m.length c) w2 ∧
    (∀ k (hk : k < m.length), w2.cell? ⟨w.heap.size, k, none⟩ = some (.int .u8 ((m[k]'hk).toNat : Int))) ∧ Below w.heap.size w w2 ∧ m.length ≤ c := by
  refine ⟨_, _, run_bytes_of_string (P := Tryz.prog) w 9 63 5 (str m) Tryz.underlying9 Tryz.underlying63 Tryz.underlying5, fun k hk => ?_, (Below.refl _ _).drew.alloc (Nat.le_refl _) _, grownCap_ge _ _ _ _⟩
  have hh := World.cell?_alloc_mark w.drew (bytesRow (str m) (grownCap w (str m).size 0 5)) 5 ((bytesRow (str m) (grownCap w (str m).size 0 5)).size, (bytesRow (str m) (grownCap w (str m).size 0 5)).size + 1) k
  refine hh.trans ?_
  rw [bytesRow_at (str m) _ k (by simpa [str] using hk)]
  simp [str]

theorem num_take (m : List UInt8) (k : Nat) (hk : k < m.length) : num (m.take (k + 1)) = num (m.take k) * 256 + m[k].toNat := by
  rw [List.take_succ_eq_append_getElem hk, num_snoc]

theorem shl_or (a b : Nat) (ha : a < 16777216) (hb : b < 256) : bits .or .u32 ((a : Int) * 256) (b : Int) = ((a * 256 + b : Nat) : Int) := by
  rw [show ((a : Int) * 256) = ((a * 256 : Nat) : Int) by omega, u32_or_nat _ _ (by omega) (by omega)]
  have := Nat.two_pow_add_eq_or_of_lt (i := 8) (b := b) hb a
  rw [show a * 256 = 2 ^ 8 * a by omega, ← this]

set_option maxHeartbeats 400000 in
theorem number_r (r : Value) (n : Int) (m : List UInt8) (hm : m.length ≤ 4) (Q : World → Prop) (w : World)
    (ht : Calls Tryz.prog 172 #[r, .int .i64 n] w fun e w' => e = .returned (.string (str m)) ∧ Q w') :
    Calls Tryz.prog 159 #[r, .int .i64 n] w fun e w' => e = .returned (.int .i64 (num m : Int)) ∧ ∃ w1, Q w1 ∧ Below w1.heap.size w1 w' := by
  have Ht := Lib.hid ht
  clear ht
  go_enter Tryz.func159, Tryz.ntmps159
  go_wp2_with fail
  refine (Ht.out).mono ?_; rintro e w1 ⟨rfl, hq⟩
  obtain ⟨c, w2, hcv, hcell, hb, hmc⟩ := to_bytes w1 m
  have Hq := Lib.hid hq
  have Hc := Lib.hid hcell
  have Hb := Lib.hid hb
  clear hq hcell hb
  go_wp2_with fail
  go_loop [5, 7, 13] (fun v _ i => ∃ k : Nat, k ≤ m.length ∧ i = .int .i64 k ∧ v = .int .u32 (num (m.take k) : Nat)) (fun _ _ i => m.length - (intOf i).toNat)
  case atStart => exact ⟨0, Nat.zero_le _, rfl, rfl⟩
  case round =>
    obtain ⟨k, hk, rfl, rfl⟩ := hrel
    by_cases hlt : k < m.length
    · have hce := Hc.out k hlt
      have hl := num_lt (m.take k) (by simp; omega)
      have hb3 : num (m.take k) < 16777216 := by
        refine Nat.lt_of_lt_of_le hl ?_
        have h3 : (m.take k).length ≤ 3 := by simp; omega
        exact Nat.pow_le_pow_right (by omega) h3
      have hb8 : m[k].toNat < 256 := m[k].toNat_lt
      have Hn := Lib.hid (num_take m k hlt)
      generalize m[k].toNat = b at *
      generalize num (m.take k) = a at *
      have hA : (a : Int) < 16777216 := by omega
      have hB : (b : Int) < 256 := by omega
      clear hl
      go_wp2_with fail
      go_round
      case rel => exact ⟨k + 1, by omega, by go_num, by rw [Hn.out]; exact congrArg (Value.int IntKind.u32) (shl_or a b hb3 hb8)⟩
      case measure => simp [intOf]; omega
    · have hkm : m.length ≤ k := by omega
      have Hn := Lib.hid (show m.take k = m from List.take_of_length_le hkm)
      have hlt' : num (m.take k) < 4294967296 := by
        rw [Hn.out]
        exact Nat.lt_of_lt_of_le (num_lt m hm) (Nat.pow_le_pow_right (n := 256) (by omega) hm)
      have hA : ((num (m.take k) : Nat) : Int) < 4294967296 := by omega
      go_wp2_with fail
      go_ret
      exact ⟨by show Ending.returned (.int .i64 ((num (m.take k) : Nat) : Int)) = _; rw [Hn.out], _, Hq.out, Hb.out⟩

/-! A number of so many bytes: it is there; it is not; the Reader was bad already; there is no Reader. -/
theorem number_ok (C q n : Nat) (l : List UInt8) (w : World) (hn : n ≤ l.length) (h4 : n ≤ 4) (hl : l.length ≤ 1000000) (hC : C ≤ w.heap.size) (hr : Rd w q l true) :
    Calls Tryz.prog 159 #[ptr q, .int .i64 (n : Int)] w fun e w' => e = .returned (.int .i64 (num (l.take n) : Nat)) ∧ Read C q w (l.drop n) true w' :=
  (number_r (ptr q) n (l.take n) (by simp; omega) (Read C q w (l.drop n) true) w (take_ok C q n l w hn hl hr)).mono fun _ _ ⟨he, _, h1, h2⟩ => ⟨he, h1.on hC h2⟩
theorem number_short (C q n : Nat) (l : List UInt8) (w : World) (hn : l.length < n) (hl : l.length ≤ 1000000) (hC : C ≤ w.heap.size) (hr : Rd w q l true) :
    Calls Tryz.prog 159 #[ptr q, .int .i64 (n : Int)] w fun e w' => e = .returned (.int .i64 0) ∧ Read C q w [] false w' :=
  (number_r (ptr q) n [] (by simp) (Read C q w [] false) w (take_short C q n l w hn hl hr)).mono fun _ _ ⟨he, _, h1, h2⟩ => ⟨he, h1.on hC h2⟩
theorem number_bad (C q : Nat) (n : Int) (l : List UInt8) (w : World) (hC : C ≤ w.heap.size) (hr : Rd w q l false) :
    Calls Tryz.prog 159 #[ptr q, .int .i64 n] w fun e w' => e = .returned (.int .i64 0) ∧ Read C q w l false w' :=
  (number_r (ptr q) n [] (by simp) (Read C q w l false) w (take_bad C q n l w hr)).mono fun _ _ ⟨he, _, h1, h2⟩ => ⟨he, h1.on hC h2⟩
theorem number_none (n : Int) (w : World) :
    Calls Tryz.prog 159 #[.pointer none, .int .i64 n] w fun e w' => e = .returned (.int .i64 0) ∧ Below w.heap.size w w' :=
  (number_r (.pointer none) n [] (by simp) (fun w' => w = w') w (take_nil n w)).mono fun _ _ ⟨he, _, h1, h2⟩ => ⟨he, by subst h1; exact h2⟩

theorem of_number2 (r : Value) (x : Int) (w : World) (Q : World → Prop) (h : Calls Tryz.prog 159 #[r, .int .i64 2] w fun e w' => e = .returned (.int .i64 x) ∧ Q w') : Calls Tryz.prog 112 #[r] w fun e w' => e = .returned (.int .i64 x) ∧ Q w' := by
  have H := Lib.hid h
  clear h
  go_enter Tryz.func112, Tryz.ntmps112
  go_wp2_with fail
  refine (H.out).mono ?_; rintro e w1 ⟨rfl, hq⟩
  have Hq := Lib.hid hq
  clear hq
  go_wp2_with fail
  go_ret
  exact ⟨rfl, Hq.out⟩
theorem of_number4 (r : Value) (x : Int) (w : World) (Q : World → Prop) (h : Calls Tryz.prog 159 #[r, .int .i64 4] w fun e w' => e = .returned (.int .i64 x) ∧ Q w') : Calls Tryz.prog 113 #[r] w fun e w' => e = .returned (.int .i64 x) ∧ Q w' := by
  have H := Lib.hid h
  clear h
  go_enter Tryz.func113, Tryz.ntmps113
  go_wp2_with fail
  refine (H.out).mono ?_; rintro e w1 ⟨rfl, hq⟩
  have Hq := Lib.hid hq
  clear hq
  go_wp2_with fail
  go_ret
  exact ⟨rfl, Hq.out⟩

/-! Num and Long of a Reader. -/
theorem rnum_ok (C q : Nat) (v : Int) (l : List UInt8) (w : World) (h0 : 0 ≤ v) (h1 : v ≤ 65535) (hl : l.length ≤ 900000) (hC : C ≤ w.heap.size) (hr : Rd w q (w2 v ++ l) true) :
    Calls Tryz.prog 112 #[ptr q] w fun e w' => e = .returned (.int .i64 v) ∧ Read C q w l true w' :=
  of_number2 _ _ _ _ ((number_ok C q 2 (w2 v ++ l) w (by simp [w2_length]) (by omega) (by simp [w2_length]; omega) hC hr).mono fun e w' ⟨he, hw⟩ =>
    ⟨by rw [he, show (w2 v ++ l).take 2 = w2 v from rfl, num_w2 v h0 h1], hw⟩)
theorem rlong_ok (C q : Nat) (v : Int) (l : List UInt8) (w : World) (h0 : 0 ≤ v) (h1 : v ≤ 4294967295) (hl : l.length ≤ 900000) (hC : C ≤ w.heap.size) (hr : Rd w q (w4 v ++ l) true) :
    Calls Tryz.prog 113 #[ptr q] w fun e w' => e = .returned (.int .i64 v) ∧ Read C q w l true w' :=
  of_number4 _ _ _ _ ((number_ok C q 4 (w4 v ++ l) w (by simp [w4_length]) (by omega) (by simp [w4_length]; omega) hC hr).mono fun e w' ⟨he, hw⟩ =>
    ⟨by rw [he, show (w4 v ++ l).take 4 = w4 v from rfl, num_w4 v h0 h1], hw⟩)
theorem rnum_short (C q : Nat) (l : List UInt8) (w : World) (hl : l.length < 2) (hC : C ≤ w.heap.size) (hr : Rd w q l true) :
    Calls Tryz.prog 112 #[ptr q] w fun e w' => e = .returned (.int .i64 0) ∧ Read C q w [] false w' :=
  of_number2 _ _ _ _ (number_short C q 2 l w hl (by omega) hC hr)
theorem rlong_short (C q : Nat) (l : List UInt8) (w : World) (hl : l.length < 4) (hC : C ≤ w.heap.size) (hr : Rd w q l true) :
    Calls Tryz.prog 113 #[ptr q] w fun e w' => e = .returned (.int .i64 0) ∧ Read C q w [] false w' :=
  of_number4 _ _ _ _ (number_short C q 4 l w hl (by omega) hC hr)
theorem rnum_bad (C q : Nat) (l : List UInt8) (w : World) (hC : C ≤ w.heap.size) (hr : Rd w q l false) :
    Calls Tryz.prog 112 #[ptr q] w fun e w' => e = .returned (.int .i64 0) ∧ Read C q w l false w' :=
  of_number2 _ _ _ _ (number_bad C q 2 l w hC hr)
theorem rlong_bad (C q : Nat) (l : List UInt8) (w : World) (hC : C ≤ w.heap.size) (hr : Rd w q l false) :
    Calls Tryz.prog 113 #[ptr q] w fun e w' => e = .returned (.int .i64 0) ∧ Read C q w l false w' :=
  of_number4 _ _ _ _ (number_bad C q 4 l w hC hr)
theorem rnum_nil (w : World) : Calls Tryz.prog 112 #[.pointer none] w fun e w' => e = .returned (.int .i64 0) ∧ Below w.heap.size w w' :=
  of_number2 _ _ _ _ (number_none 2 w)
theorem rlong_nil (w : World) : Calls Tryz.prog 113 #[.pointer none] w fun e w' => e = .returned (.int .i64 0) ∧ Below w.heap.size w w' :=
  of_number4 _ _ _ _ (number_none 4 w)

/-! Text of a Reader. -/
theorem rtext_ok (C q : Nat) (s : ByteArray) (l : List UInt8) (w : World) (hs : s.size ≤ 65535) (hl : l.length ≤ 800000) (hC : C ≤ w.heap.size) (hr : Rd w q (w2 s.size ++ (s.data.toList ++ l)) true) :
    Calls Tryz.prog 161 #[ptr q] w fun e w' => e = .returned (.string s) ∧ Read C q w l true w' := by
  have Hr := Lib.hid hr
  have e1 : s.data.toList.length = s.size := by simp
  have HC := Lib.hid hC
  clear hr hC
  go_enter Tryz.func161, Tryz.ntmps161
  go_wp2_with fail
  refine (rnum_ok C q s.size (s.data.toList ++ l) _ (by omega) (by omega) (by simp; omega) HC.out Hr.out).mono ?_; rintro e w1 ⟨rfl, hr1⟩
  have H1 := Lib.hid hr1
  clear hr1
  go_wp2_with fail
  refine (take_ok C q s.size (s.data.toList ++ l) _ (by simp) (by simp; omega) H1.out.1).mono ?_; rintro e w2 ⟨rfl, hr2⟩
  have H2 := Lib.hid (H1.out.then hr2)
  clear hr2
  go_wp2_with fail
  go_ret
  have t2 : (s.data.toList ++ l).drop s.size = l := by rw [← e1, List.drop_left]
  exact ⟨rfl, by have := H2.out; rw [t2] at this; exact this⟩

theorem rtext_short (C q : Nat) (n : Nat) (l : List UInt8) (w : World) (hn : n ≤ 65535) (hl : l.length < n) (hC : C ≤ w.heap.size) (hr : Rd w q (w2 n ++ l) true) :
    Calls Tryz.prog 161 #[ptr q] w fun e w' => e = .returned (.string (str [])) ∧ Read C q w [] false w' := by
  have Hr := Lib.hid hr
  have HC := Lib.hid hC
  clear hr hC
  go_enter Tryz.func161, Tryz.ntmps161
  go_wp2_with fail
  refine (rnum_ok C q n l _ (by omega) (by omega) (by omega) HC.out Hr.out).mono ?_; rintro e w1 ⟨rfl, hr1⟩
  have H1 := Lib.hid hr1
  clear hr1
  go_wp2_with fail
  refine (take_short C q n l _ hl (by omega) H1.out.1).mono ?_; rintro e w2 ⟨rfl, hr2⟩
  have H2 := Lib.hid (H1.out.then hr2)
  clear hr2
  go_wp2_with fail
  go_ret
  exact ⟨rfl, H2.out⟩

/-- Behind a Num that finds no number, Text finds no text. -/
theorem rtext_of (C q : Nat) (l m : List UInt8) (b : Bool) (w : World) (hn : Calls Tryz.prog 112 #[ptr q] w fun e w' => e = .returned (.int .i64 0) ∧ Read C q w m false w') :
    Calls Tryz.prog 161 #[ptr q] w fun e w' => e = .returned (.string (str [])) ∧ Read C q w m false w' := by
  have Hr := Lib.hid hn
  clear hn
  go_enter Tryz.func161, Tryz.ntmps161
  go_wp2_with fail
  refine (Hr.out).mono ?_; rintro e w1 ⟨rfl, hr1⟩
  have H1 := Lib.hid hr1
  clear hr1
  go_wp2_with fail
  refine (take_bad C q 0 m _ H1.out.1).mono ?_; rintro e w2 ⟨rfl, hr2⟩
  have H2 := Lib.hid (H1.out.then hr2)
  clear hr2
  go_wp2_with fail
  go_ret
  exact ⟨rfl, H2.out⟩
theorem rtext_few (C q : Nat) (l : List UInt8) (w : World) (hl : l.length < 2) (hC : C ≤ w.heap.size) (hr : Rd w q l true) :
    Calls Tryz.prog 161 #[ptr q] w fun e w' => e = .returned (.string (str [])) ∧ Read C q w [] false w' := rtext_of C q l [] true w (rnum_short C q l w hl hC hr)
theorem rtext_bad (C q : Nat) (l : List UInt8) (w : World) (hC : C ≤ w.heap.size) (hr : Rd w q l false) :
    Calls Tryz.prog 161 #[ptr q] w fun e w' => e = .returned (.string (str [])) ∧ Read C q w l false w' := rtext_of C q l l true w (rnum_bad C q l w hC hr)
theorem rtext_nil (w : World) : Calls Tryz.prog 161 #[.pointer none] w fun e w' => e = .returned (.string (str [])) ∧ Below w.heap.size w w' := by
  go_enter Tryz.func161, Tryz.ntmps161
  go_wp2_with fail
  refine (rnum_nil _).mono ?_; rintro e w1 ⟨rfl, hr1⟩
  have H1 := Lib.hid hr1
  clear hr1
  go_wp2_with fail
  refine (take_nil 0 _).mono ?_; rintro e w2 ⟨rfl, rfl⟩
  go_wp2_with fail
  go_ret
  exact ⟨rfl, H1.out⟩

/-- From makes one block. -/
theorem from_any (l : List UInt8) (w : World) : Calls Tryz.prog 43 #[.string (str l)] w fun e w' => e = .returned (ptr w.heap.size) ∧ w.alloc (.cells #[.string (str l), .bool true] 135) = w' := by
  generalize str l = s
  go_enter Tryz.func43, Tryz.ntmps43
  go_wp2_with fail
  go_ret
  exact ⟨rfl, rfl⟩

end Go.Proofs.YtbmnagfjpenemaaGreatDoor
