/- What the record's writer writes: numbers, texts, lists of them. -/
import Derived.Test.YtbmnagfjpenemaaGreatDoorEvery
import Derived.Deep.RegionLaw
namespace Go.Proofs.YtbmnagfjpenemaaGreatDoor
open Go.ChangeShapes Go.WideShapes Go.ChangeAt Go.RowKit
set_option linter.unusedVariables false
set_option linter.unusedSimpArgs false
set_option maxRecDepth 100000
theorem Wr.alloc {C p : Nat} {w : World} {l : BA} {b : Bool} (h : Wr C w p l b) (o : Obj) : Wr C (w.alloc o) p l b := by
  obtain ⟨hC, v, hh, hown⟩ := h
  exact ⟨by simp; omega, v, (Below.heap_alloc w o p (block_of_heap hh)).trans hh, hown.alloc o⟩
theorem Wr.drew {C p : Nat} {w : World} {l : BA} {b : Bool} (h : Wr C w p l b) : Wr C w.drew p l b := h
theorem Wr.base {C p : Nat} {w : World} {l : BA} {b : Bool} (h : Wr C w p l b) : C ≤ w.heap.size := h.1
theorem Wrote.start {C p : Nat} {w : World} {l : BA} {b : Bool} (h : Wr C w p l b) : Wrote C p w l b w := ⟨h, Only.refl _ _ _⟩
theorem Wrote.alloc {C p : Nat} {w w1 : World} {l : BA} {b : Bool} (h : Wrote C p w l b w1) (o : Obj) : Wrote C p w l b (w1.alloc o) := ⟨h.1.alloc o, h.2.alloc h.1.1 o⟩
theorem Wrote.drew {C p : Nat} {w w1 : World} {l : BA} {b : Bool} (h : Wrote C p w l b w1) : Wrote C p w l b w1.drew := ⟨h.1.drew, h.2.drew⟩
theorem num_w (C p : Nat) (v : Int) (l : BA) (w : World) (h : two v = true) (hl : l.length ≤ 900000) (hw : Wr C w p l false) : Calls Tryz.prog 88 #[ptr p, .int .i64 v] w fun e w' => e = .returned (ptr p) ∧ Wrote C p w (l ++ w2 v) false w' := by
  obtain ⟨h0, h1⟩ := two_iff.1 h
  have := num_any C p v l false w (by omega) (by omega) (by omega) hw
  rw [show after 65535 w2 l false v = (l ++ w2 v, false) by simp [after, h0, h1]] at this
  exact this
theorem long_w (C p : Nat) (v : Int) (l : BA) (w : World) (h : four v = true) (hl : l.length ≤ 900000) (hw : Wr C w p l false) : Calls Tryz.prog 89 #[ptr p, .int .i64 v] w fun e w' => e = .returned (ptr p) ∧ Wrote C p w (l ++ w4 v) false w' := by
  obtain ⟨h0, h1⟩ := four_iff.1 h
  have := long_any C p v l false w (by omega) (by omega) (by omega) hw
  rw [show after 4294967295 w4 l false v = (l ++ w4 v, false) by simp [after, h0, h1]] at this
  exact this
theorem text_w (C p : Nat) (s : ByteArray) (l : BA) (w : World) (hs : s.size ≤ 65535) (hl : l.length ≤ 900000) (hw : Wr C w p l false) : Calls Tryz.prog 90 #[ptr p, .string s] w fun e w' => e = .returned (ptr p) ∧ Wrote C p w (l ++ encS s) false w' := text_ok C p s l w hs hl hw
theorem flag_w (C p : Nat) (b : Bool) (l : BA) (w : World) (hl : l.length ≤ 900000) (hw : Wr C w p l false) : Calls Tryz.prog 91 #[ptr p, .bool b] w fun e w' => e = .returned (ptr p) ∧ Wrote C p w (l ++ encF b) false w' := by
  cases b with
  | true =>
    have H := Lib.hid (num_w C p 1 l w rfl hl hw)
    rw [show encF true = w2 1 from rfl]
    clear hw
    go_enter Tryz.func91, Tryz.ntmps91
    go_wp2_with fail
    refine H.out.mono ?_; rintro e w1 ⟨rfl, hw1⟩
    have H1 := Lib.hid hw1
    clear hw1
    go_wp2_with fail
    go_ret
    exact ⟨rfl, H1.out⟩
  | false =>
    have H := Lib.hid (num_w C p 0 l w rfl hl hw)
    rw [show encF false = w2 0 from rfl]
    clear hw
    go_enter Tryz.func91, Tryz.ntmps91
    go_wp2_with fail
    refine H.out.mono ?_; rintro e w1 ⟨rfl, hw1⟩
    have H1 := Lib.hid hw1
    clear hw1
    go_wp2_with fail
    go_ret
    exact ⟨rfl, H1.out⟩
def StrsM (C : Nat) (w : World) (A : Option Addr) (n : Nat) (l : List ByteArray) : Prop :=
  l.length = n ∧ n ≤ maxLen ∧ ∀ k, k < n → ∃ b off, A = some ⟨b, off, none⟩ ∧ b < C ∧ w.cell? ⟨b, off + k, none⟩ = some (.string (l.getD k ⟨#[]⟩))
theorem flat_snoc {α : Type} {f : α → BA} (l : List α) (k : Nat) (d : α) (h : k < l.length) : (l.take (k + 1)).flatMap f = (l.take k).flatMap f ++ f (l.getD k d) := by
  rw [take_snoc l k d h, List.flatMap_append]; simp
theorem flat_part {α : Type} {f : α → BA} (l : List α) (k : Nat) (d : α) (h : k < l.length) : ((l.take k).flatMap f).length + (f (l.getD k d)).length ≤ (l.flatMap f).length := by
  have e : l.flatMap f = (l.take (k + 1)).flatMap f ++ (l.drop (k + 1)).flatMap f := by rw [← List.flatMap_append, List.take_append_drop]
  rw [e, flat_snoc l k d h]
  simp only [List.length_append]
  omega
set_option maxHeartbeats 1000000 in
theorem eachI_is {C p n c M : Nat} {A : Option Addr} {l : List Int} (enc : Int → BA) (l0 : BA) (w : World) (hn : l.length = n) (hmx : n ≤ maxLen) (hr : ∀ w', Only C p w w' → IntsM w'.heap.size w' A n l) (hw : Wr C w p l0 false) (hb : l0.length + (l.flatMap enc).length ≤ M)
    (hf : ∀ x, x ∈ l → ∀ (l1 : BA) (w1 : World), l1.length + (enc x).length ≤ M → Wr C w1 p l1 false → Only C p w w1 → Calls Tryz.prog 88 #[ptr p, .int .i64 x] w1 fun e w2 => e = .returned (ptr p) ∧ Wrote C p w1 (l1 ++ enc x) false w2) :
    Calls Tryz.prog 87 #[.func (.func 88) #[ptr p] #[], .slice A n c] w fun e w' => e = .returned (.tuple #[]) ∧ Wrote C p w (l0 ++ l.flatMap enc) false w' := by
  have HN := Lib.hid hn
  have HF := Lib.hid hf
  have HR := Lib.hid hr
  have HBD := Lib.hid hb
  have H0 := Lib.hid (show Wrote C p w (l0 ++ (l.take 0).flatMap enc) false w from by simpa using Wrote.start hw)
  unfold maxLen at hmx
  have hN : (n : Int) ≤ 9223372036854775807 := by omega
  clear hn hf hr hb hw hmx
  go_enter Tryz.func87, Tryz.ntmps87
  go_wp2_with fail
  go_loopw [8] (fun x wr => ∃ k : Nat, k ≤ n ∧ x = .int .i64 k ∧ Hid (Wrote C p w (l0 ++ (l.take k).flatMap enc) false wr)) (fun x _ => n - (intOf x).toNat)
  case atStart => exact ⟨0, Nat.zero_le _, rfl, H0.out⟩
  case round =>
    obtain ⟨k, hk, rfl, hq⟩ := hrel
    have HQ := Lib.hid hq.out
    clear hq
    by_cases hlt : k < n
    · have hkl : k < l.length := by rw [HN.out]; exact hlt
      have c1 : (0 : Int) ≤ (k : Int) := by omega
      have c2 : (k : Int) < (n : Int) := by omega
      have HS := Lib.hid (flat_snoc (f := enc) l k 0 hkl)
      have HP := Lib.hid (flat_part (f := enc) l k 0 hkl)
      have HM := Lib.hid (getD_mem' 0 hkl)
      obtain ⟨b, off, rfl, hb, hcell, _⟩ := (HR.out wr HQ.out.2).2.2 k hlt
      have HW := Lib.hid (HF.out _ HM.out _ wr (by have := HP.out; have := HBD.out; simp only [List.length_append]; omega) HQ.out.1 HQ.out.2)
      generalize l.getD k 0 = x at *
      clear hb hkl
      go_wp2_with fail
      refine HW.out.mono ?_; rintro e w1 ⟨rfl, hw1⟩
      have H1 := Lib.hid (show Wrote C p w (l0 ++ (l.take (k + 1)).flatMap enc) false w1 from by rw [HS.out, ← List.append_assoc]; exact HQ.out.then hw1)
      clear hw1
      go_wp2_with fail
      go_roundw
      case rel => exact ⟨k + 1, by omega, by go_num, H1.out⟩
      case measure => simp [intOf]; omega
    · obtain rfl : n = k := by omega
      go_wp2_with fail
      go_end0
      exact ⟨rfl, by have := HQ.out; rwa [List.take_of_length_le (by rw [HN.out]; omega)] at this⟩
set_option maxHeartbeats 1000000 in
theorem eachS_is {C p n c M : Nat} {A : Option Addr} {l : List ByteArray} (enc : ByteArray → BA) (l0 : BA) (w : World) (hn : l.length = n) (hmx : n ≤ maxLen) (hr : ∀ w', Only C p w w' → StrsM w'.heap.size w' A n l) (hw : Wr C w p l0 false) (hb : l0.length + (l.flatMap enc).length ≤ M)
    (hf : ∀ x, x ∈ l → ∀ (l1 : BA) (w1 : World), l1.length + (enc x).length ≤ M → Wr C w1 p l1 false → Only C p w w1 → Calls Tryz.prog 90 #[ptr p, .string x] w1 fun e w2 => e = .returned (ptr p) ∧ Wrote C p w1 (l1 ++ enc x) false w2) :
    Calls Tryz.prog 92 #[.func (.func 90) #[ptr p] #[], .slice A n c] w fun e w' => e = .returned (.tuple #[]) ∧ Wrote C p w (l0 ++ l.flatMap enc) false w' := by
  have HN := Lib.hid hn
  have HF := Lib.hid hf
  have HR := Lib.hid hr
  have HBD := Lib.hid hb
  have H0 := Lib.hid (show Wrote C p w (l0 ++ (l.take 0).flatMap enc) false w from by simpa using Wrote.start hw)
  unfold maxLen at hmx
  have hN : (n : Int) ≤ 9223372036854775807 := by omega
  clear hn hf hr hb hw hmx
  go_enter Tryz.func92, Tryz.ntmps92
  go_wp2_with fail
  go_loopw [8] (fun x wr => ∃ k : Nat, k ≤ n ∧ x = .int .i64 k ∧ Hid (Wrote C p w (l0 ++ (l.take k).flatMap enc) false wr)) (fun x _ => n - (intOf x).toNat)
  case atStart => exact ⟨0, Nat.zero_le _, rfl, H0.out⟩
  case round =>
    obtain ⟨k, hk, rfl, hq⟩ := hrel
    have HQ := Lib.hid hq.out
    clear hq
    by_cases hlt : k < n
    · have hkl : k < l.length := by rw [HN.out]; exact hlt
      have c1 : (0 : Int) ≤ (k : Int) := by omega
      have c2 : (k : Int) < (n : Int) := by omega
      have HS := Lib.hid (flat_snoc (f := enc) l k ⟨#[]⟩ hkl)
      have HP := Lib.hid (flat_part (f := enc) l k ⟨#[]⟩ hkl)
      have HM := Lib.hid (getD_mem' ⟨#[]⟩ hkl)
      obtain ⟨b, off, rfl, hb, hcell⟩ := (HR.out wr HQ.out.2).2.2 k hlt
      have HW := Lib.hid (HF.out _ HM.out _ wr (by have := HP.out; have := HBD.out; simp only [List.length_append]; omega) HQ.out.1 HQ.out.2)
      generalize l.getD k ⟨#[]⟩ = x at *
      clear hb hkl
      go_wp2_with fail
      refine HW.out.mono ?_; rintro e w1 ⟨rfl, hw1⟩
      have H1 := Lib.hid (show Wrote C p w (l0 ++ (l.take (k + 1)).flatMap enc) false w1 from by rw [HS.out, ← List.append_assoc]; exact HQ.out.then hw1)
      clear hw1
      go_wp2_with fail
      go_roundw
      case rel => exact ⟨k + 1, by omega, by go_num, H1.out⟩
      case measure => simp [intOf]; omega
    · obtain rfl : n = k := by omega
      go_wp2_with fail
      go_end0
      exact ⟨rfl, by have := HQ.out; rwa [List.take_of_length_le (by rw [HN.out]; omega)] at this⟩
set_option maxHeartbeats 1000000 in
theorem eachP_is {C p n c M : Nat} {A : Option Addr} {l : List Pt} (enc : Pt → BA) (l0 : BA) (w : World) (hn : l.length = n) (hmx : n ≤ maxLen) (hp : C ≤ p) (hr : PtsM C w A n l) (hw : Wr C w p l0 false) (hb : l0.length + (l.flatMap enc).length ≤ M)
    (hf : ∀ x, x ∈ l → ∀ (l1 : BA) (w1 : World), l1.length + (enc x).length ≤ M → Wr C w1 p l1 false → Only C p w w1 → Calls Tryz.prog 95 #[ptr p, ptv x] w1 fun e w2 => e = .returned (ptr p) ∧ Wrote C p w1 (l1 ++ enc x) false w2) :
    Calls Tryz.prog 142 #[.func (.func 95) #[ptr p] #[], .slice A n c] w fun e w' => e = .returned (.tuple #[]) ∧ Wrote C p w (l0 ++ l.flatMap enc) false w' := by
  have HN := Lib.hid hn
  have HF := Lib.hid hf
  have HR := Lib.hid hr
  have HBD := Lib.hid hb
  have H0 := Lib.hid (show Wrote C p w (l0 ++ (l.take 0).flatMap enc) false w from by simpa using Wrote.start hw)
  unfold maxLen at hmx
  have hN : (n : Int) ≤ 9223372036854775807 := by omega
  clear hn hf hr hb hw hmx
  go_enter Tryz.func142, Tryz.ntmps142
  go_wp2_with fail
  go_loopw [8] (fun x wr => ∃ k : Nat, k ≤ n ∧ x = .int .i64 k ∧ Hid (Wrote C p w (l0 ++ (l.take k).flatMap enc) false wr)) (fun x _ => n - (intOf x).toNat)
  case atStart => exact ⟨0, Nat.zero_le _, rfl, H0.out⟩
  case round =>
    obtain ⟨k, hk, rfl, hq⟩ := hrel
    have HQ := Lib.hid hq.out
    clear hq
    by_cases hlt : k < n
    · have hkl : k < l.length := by rw [HN.out]; exact hlt
      have c1 : (0 : Int) ≤ (k : Int) := by omega
      have c2 : (k : Int) < (n : Int) := by omega
      have HS := Lib.hid (flat_snoc (f := enc) l k nilP hkl)
      have HP := Lib.hid (flat_part (f := enc) l k nilP hkl)
      have HM := Lib.hid (getD_mem' nilP hkl)
      obtain ⟨b, off, rfl, hb, hp', _⟩ := (HR.out.kept (w' := wr) (HQ.out.2.below hp)).2.2 k hlt
      obtain ⟨x0, x1, x2⟩ := hp'
      have HA := Lib.hid (fun (o : Obj) => HQ.out.alloc o)
      have HW := Lib.hid (fun (o : Obj) => HF.out _ HM.out _ (wr.alloc o) (by have := HP.out; have := HBD.out; simp only [List.length_append]; omega) (HA.out o).1 (HA.out o).2)
      unfold ptv at HW
      generalize l.getD k nilP = x at *
      clear hb hkl
      go_wp2_with fail
      refine (HW.out _).mono ?_; rintro e w1 ⟨rfl, hw1⟩
      have H1 := Lib.hid (show Wrote C p w (l0 ++ (l.take (k + 1)).flatMap enc) false w1 from by rw [HS.out, ← List.append_assoc]; exact (HA.out _).then hw1)
      clear hw1
      go_wp2_with fail
      go_roundw
      case rel => exact ⟨k + 1, by omega, by go_num, H1.out⟩
      case measure => simp [intOf]; omega
    · obtain rfl : n = k := by omega
      go_wp2_with fail
      go_end0
      exact ⟨rfl, by have := HQ.out; rwa [List.take_of_length_le (by rw [HN.out]; omega)] at this⟩
set_option maxHeartbeats 1000000 in
theorem eachD_is {C p n c M : Nat} {A : Option Addr} {l : List Dy} (enc : Dy → BA) (l0 : BA) (w : World) (hn : l.length = n) (hmx : n ≤ maxLen) (hp : C ≤ p) (hr : DysM C w A n l) (hw : Wr C w p l0 false) (hb : l0.length + (l.flatMap enc).length ≤ M)
    (hf : ∀ x, x ∈ l → ∀ (l1 : BA) (w1 : World), l1.length + (enc x).length ≤ M → Wr C w1 p l1 false → Only C p w w1 → Calls Tryz.prog 99 #[ptr p, dyv x] w1 fun e w2 => e = .returned (ptr p) ∧ Wrote C p w1 (l1 ++ enc x) false w2) :
    Calls Tryz.prog 144 #[.func (.func 99) #[ptr p] #[], .slice A n c] w fun e w' => e = .returned (.tuple #[]) ∧ Wrote C p w (l0 ++ l.flatMap enc) false w' := by
  have HN := Lib.hid hn
  have HF := Lib.hid hf
  have HR := Lib.hid hr
  have HBD := Lib.hid hb
  have H0 := Lib.hid (show Wrote C p w (l0 ++ (l.take 0).flatMap enc) false w from by simpa using Wrote.start hw)
  unfold maxLen at hmx
  have hN : (n : Int) ≤ 9223372036854775807 := by omega
  clear hn hf hr hb hw hmx
  go_enter Tryz.func144, Tryz.ntmps144
  go_wp2_with fail
  go_loopw [8] (fun x wr => ∃ k : Nat, k ≤ n ∧ x = .int .i64 k ∧ Hid (Wrote C p w (l0 ++ (l.take k).flatMap enc) false wr)) (fun x _ => n - (intOf x).toNat)
  case atStart => exact ⟨0, Nat.zero_le _, rfl, H0.out⟩
  case round =>
    obtain ⟨k, hk, rfl, hq⟩ := hrel
    have HQ := Lib.hid hq.out
    clear hq
    by_cases hlt : k < n
    · have hkl : k < l.length := by rw [HN.out]; exact hlt
      have c1 : (0 : Int) ≤ (k : Int) := by omega
      have c2 : (k : Int) < (n : Int) := by omega
      have HS := Lib.hid (flat_snoc (f := enc) l k nilD hkl)
      have HP := Lib.hid (flat_part (f := enc) l k nilD hkl)
      have HM := Lib.hid (getD_mem' nilD hkl)
      obtain ⟨b, off, rfl, hb, hp', _⟩ := (HR.out.kept (w' := wr) (HQ.out.2.below hp)).2.2 k hlt
      obtain ⟨x0, x1⟩ := hp'
      have HA := Lib.hid (fun (o : Obj) => HQ.out.alloc o)
      have HW := Lib.hid (fun (o : Obj) => HF.out _ HM.out _ (wr.alloc o) (by have := HP.out; have := HBD.out; simp only [List.length_append]; omega) (HA.out o).1 (HA.out o).2)
      unfold dyv at HW
      generalize l.getD k nilD = x at *
      clear hb hkl
      go_wp2_with fail
      refine (HW.out _).mono ?_; rintro e w1 ⟨rfl, hw1⟩
      have H1 := Lib.hid (show Wrote C p w (l0 ++ (l.take (k + 1)).flatMap enc) false w1 from by rw [HS.out, ← List.append_assoc]; exact (HA.out _).then hw1)
      clear hw1
      go_wp2_with fail
      go_roundw
      case rel => exact ⟨k + 1, by omega, by go_num, H1.out⟩
      case measure => simp [intOf]; omega
    · obtain rfl : n = k := by omega
      go_wp2_with fail
      go_end0
      exact ⟨rfl, by have := HQ.out; rwa [List.take_of_length_le (by rw [HN.out]; omega)] at this⟩
set_option maxHeartbeats 1000000 in
theorem eachT_is {C p n c M : Nat} {A : Option Addr} {l : List Tx} (enc : Tx → BA) (l0 : BA) (w : World) (hn : l.length = n) (hmx : n ≤ maxLen) (hp : C ≤ p) (hr : TxsM C w A n l) (hw : Wr C w p l0 false) (hb : l0.length + (l.flatMap enc).length ≤ M)
    (hf : ∀ x, x ∈ l → ∀ (l1 : BA) (w1 : World), l1.length + (enc x).length ≤ M → Wr C w1 p l1 false → Only C p w w1 → ∀ (A1 : Option Addr) (n1 c1 : Nat), IntsM C w1 A1 n1 x.pages → Calls Tryz.prog 97 #[ptr p, txv x A1 n1 c1] w1 fun e w2 => e = .returned (ptr p) ∧ Wrote C p w1 (l1 ++ enc x) false w2) :
    Calls Tryz.prog 143 #[.func (.func 97) #[ptr p] #[], .slice A n c] w fun e w' => e = .returned (.tuple #[]) ∧ Wrote C p w (l0 ++ l.flatMap enc) false w' := by
  have HN := Lib.hid hn
  have HF := Lib.hid hf
  have HR := Lib.hid hr
  have HBD := Lib.hid hb
  have H0 := Lib.hid (show Wrote C p w (l0 ++ (l.take 0).flatMap enc) false w from by simpa using Wrote.start hw)
  unfold maxLen at hmx
  have hN : (n : Int) ≤ 9223372036854775807 := by omega
  clear hn hf hr hb hw hmx
  go_enter Tryz.func143, Tryz.ntmps143
  go_wp2_with fail
  go_loopw [8] (fun x wr => ∃ k : Nat, k ≤ n ∧ x = .int .i64 k ∧ Hid (Wrote C p w (l0 ++ (l.take k).flatMap enc) false wr)) (fun x _ => n - (intOf x).toNat)
  case atStart => exact ⟨0, Nat.zero_le _, rfl, H0.out⟩
  case round =>
    obtain ⟨k, hk, rfl, hq⟩ := hrel
    have HQ := Lib.hid hq.out
    clear hq
    by_cases hlt : k < n
    · have hkl : k < l.length := by rw [HN.out]; exact hlt
      have c1 : (0 : Int) ≤ (k : Int) := by omega
      have c2 : (k : Int) < (n : Int) := by omega
      have HS := Lib.hid (flat_snoc (f := enc) l k nilT hkl)
      have HP := Lib.hid (flat_part (f := enc) l k nilT hkl)
      have HM := Lib.hid (getD_mem' nilT hkl)
      obtain ⟨b, off, rfl, hb, hp', _⟩ := (HR.out.kept (w' := wr) (HQ.out.2.below hp)).2.2 k hlt
      obtain ⟨x0, x1, x2, A1, n1, c1', x3, hin⟩ := hp'
      have HA := Lib.hid (fun (o : Obj) => HQ.out.alloc o)
      have HW := Lib.hid (fun (o : Obj) => HF.out _ HM.out _ (wr.alloc o) (by have := HP.out; have := HBD.out; simp only [List.length_append]; omega) (HA.out o).1 (HA.out o).2 A1 n1 c1' (hin.kept ((Below.refl _ _).alloc (Nat.le_trans HQ.out.1.1 (Nat.le_refl _)) _)))
      unfold txv at HW
      generalize l.getD k nilT = x at *
      clear hb hkl hin
      go_wp2_with fail
      refine (HW.out _).mono ?_; rintro e w1 ⟨rfl, hw1⟩
      have H1 := Lib.hid (show Wrote C p w (l0 ++ (l.take (k + 1)).flatMap enc) false w1 from by rw [HS.out, ← List.append_assoc]; exact (HA.out _).then hw1)
      clear hw1
      go_wp2_with fail
      go_roundw
      case rel => exact ⟨k + 1, by omega, by go_num, H1.out⟩
      case measure => simp [intOf]; omega
    · obtain rfl : n = k := by omega
      go_wp2_with fail
      go_end0
      exact ⟨rfl, by have := HQ.out; rwa [List.take_of_length_le (by rw [HN.out]; omega)] at this⟩
set_option maxHeartbeats 1000000 in
theorem eachIL_is {C p n c M : Nat} {A : Option Addr} {l : List Int} (enc : Int → BA) (l0 : BA) (w : World) (hn : l.length = n) (hmx : n ≤ maxLen) (hr : ∀ w', Only C p w w' → IntsM w'.heap.size w' A n l) (hw : Wr C w p l0 false) (hb : l0.length + (l.flatMap enc).length ≤ M)
    (hf : ∀ x, x ∈ l → ∀ (l1 : BA) (w1 : World), l1.length + (enc x).length ≤ M → Wr C w1 p l1 false → Only C p w w1 → Calls Tryz.prog 89 #[ptr p, .int .i64 x] w1 fun e w2 => e = .returned (ptr p) ∧ Wrote C p w1 (l1 ++ enc x) false w2) :
    Calls Tryz.prog 87 #[.func (.func 89) #[ptr p] #[], .slice A n c] w fun e w' => e = .returned (.tuple #[]) ∧ Wrote C p w (l0 ++ l.flatMap enc) false w' := by
  have HN := Lib.hid hn
  have HF := Lib.hid hf
  have HR := Lib.hid hr
  have HBD := Lib.hid hb
  have H0 := Lib.hid (show Wrote C p w (l0 ++ (l.take 0).flatMap enc) false w from by simpa using Wrote.start hw)
  unfold maxLen at hmx
  have hN : (n : Int) ≤ 9223372036854775807 := by omega
  clear hn hf hr hb hw hmx
  go_enter Tryz.func87, Tryz.ntmps87
  go_wp2_with fail
  go_loopw [8] (fun x wr => ∃ k : Nat, k ≤ n ∧ x = .int .i64 k ∧ Hid (Wrote C p w (l0 ++ (l.take k).flatMap enc) false wr)) (fun x _ => n - (intOf x).toNat)
  case atStart => exact ⟨0, Nat.zero_le _, rfl, H0.out⟩
  case round =>
    obtain ⟨k, hk, rfl, hq⟩ := hrel
    have HQ := Lib.hid hq.out
    clear hq
    by_cases hlt : k < n
    · have hkl : k < l.length := by rw [HN.out]; exact hlt
      have c1 : (0 : Int) ≤ (k : Int) := by omega
      have c2 : (k : Int) < (n : Int) := by omega
      have HS := Lib.hid (flat_snoc (f := enc) l k 0 hkl)
      have HP := Lib.hid (flat_part (f := enc) l k 0 hkl)
      have HM := Lib.hid (getD_mem' 0 hkl)
      obtain ⟨b, off, rfl, hb, hcell, _⟩ := (HR.out wr HQ.out.2).2.2 k hlt
      have HW := Lib.hid (HF.out _ HM.out _ wr (by have := HP.out; have := HBD.out; simp only [List.length_append]; omega) HQ.out.1 HQ.out.2)
      generalize l.getD k 0 = x at *
      clear hb hkl
      go_wp2_with fail
      refine HW.out.mono ?_; rintro e w1 ⟨rfl, hw1⟩
      have H1 := Lib.hid (show Wrote C p w (l0 ++ (l.take (k + 1)).flatMap enc) false w1 from by rw [HS.out, ← List.append_assoc]; exact HQ.out.then hw1)
      clear hw1
      go_wp2_with fail
      go_roundw
      case rel => exact ⟨k + 1, by omega, by go_num, H1.out⟩
      case measure => simp [intOf]; omega
    · obtain rfl : n = k := by omega
      go_wp2_with fail
      go_end0
      exact ⟨rfl, by have := HQ.out; rwa [List.take_of_length_le (by rw [HN.out]; omega)] at this⟩
theorem countedI_is {C p n c M : Nat} {A : Option Addr} {l : List Int} (enc : Int → BA) (l0 : BA) (w : World) (hn : l.length = n) (hmx : n ≤ 65535) (hr : ∀ w', Only C p w w' → IntsM w'.heap.size w' A n l) (hw : Wr C w p l0 false) (hM : M ≤ 500000) (hb : l0.length + (encL enc l).length ≤ M)
    (hf : ∀ x, x ∈ l → ∀ (l1 : BA) (w1 : World), l1.length + (enc x).length ≤ M → Wr C w1 p l1 false → Only C p w w1 → Calls Tryz.prog 88 #[ptr p, .int .i64 x] w1 fun e w2 => e = .returned (ptr p) ∧ Wrote C p w1 (l1 ++ enc x) false w2) :
    Calls Tryz.prog 141 #[ptr p, .func (.func 88) #[ptr p] #[], .slice A n c] w fun e w' => e = .returned (ptr p) ∧ Wrote C p w (l0 ++ encL enc l) false w' := by
  rw [encL_length] at hb
  have NU := Lib.hid (num_w C p (n : Int) l0 w (two_nat hmx) (by omega) hw)
  have EA := Lib.hid (fun w1 (h1 : Wrote C p w (l0 ++ w2 (n : Int)) false w1) => eachI_is (c := c) enc (l0 ++ w2 (n : Int)) w1 hn (Nat.le_trans hmx (by unfold maxLen; omega)) (fun w2 h2 => hr w2 (h1.2.trans h2)) h1.1 (by simp only [List.length_append, w2_length]; omega) (fun x hx l1 w2 a b d => hf x hx l1 w2 a b (h1.2.trans d)))
  have HE := Lib.hid (show l0 ++ encL enc l = (l0 ++ w2 (n : Int)) ++ l.flatMap enc from by unfold encL; rw [hn, List.append_assoc])
  rw [HE.out]
  clear hn hmx hr hw hb hf hM
  go_enter Tryz.func141, Tryz.ntmps141
  go_wp2_with fail
  refine NU.out.mono ?_; rintro e w1 ⟨rfl, hw1⟩
  have H1 := Lib.hid hw1
  clear hw1
  go_wp2_with fail
  refine (EA.out _ H1.out).mono ?_; rintro e w2 ⟨rfl, hw2⟩
  have H2 := Lib.hid (H1.out.then hw2)
  clear hw2
  go_wp2_with fail
  go_ret
  exact ⟨rfl, H2.out⟩
theorem countedP_is {C p n c M : Nat} {A : Option Addr} {l : List Pt} (enc : Pt → BA) (l0 : BA) (w : World) (hn : l.length = n) (hmx : n ≤ 65535) (hp : C ≤ p) (hr : PtsM C w A n l) (hw : Wr C w p l0 false) (hM : M ≤ 500000) (hb : l0.length + (encL enc l).length ≤ M)
    (hf : ∀ x, x ∈ l → ∀ (l1 : BA) (w1 : World), l1.length + (enc x).length ≤ M → Wr C w1 p l1 false → Only C p w w1 → Calls Tryz.prog 95 #[ptr p, ptv x] w1 fun e w2 => e = .returned (ptr p) ∧ Wrote C p w1 (l1 ++ enc x) false w2) :
    Calls Tryz.prog 94 #[ptr p, .func (.func 95) #[ptr p] #[], .slice A n c] w fun e w' => e = .returned (ptr p) ∧ Wrote C p w (l0 ++ encL enc l) false w' := by
  rw [encL_length] at hb
  have NU := Lib.hid (num_w C p (n : Int) l0 w (two_nat hmx) (by omega) hw)
  have EA := Lib.hid (fun w1 (h1 : Wrote C p w (l0 ++ w2 (n : Int)) false w1) => eachP_is (c := c) enc (l0 ++ w2 (n : Int)) w1 hn (Nat.le_trans hmx (by unfold maxLen; omega)) hp (hr.kept (h1.2.below hp)) h1.1 (by simp only [List.length_append, w2_length]; omega) (fun x hx l1 w2 a b d => hf x hx l1 w2 a b (h1.2.trans d)))
  have HE := Lib.hid (show l0 ++ encL enc l = (l0 ++ w2 (n : Int)) ++ l.flatMap enc from by unfold encL; rw [hn, List.append_assoc])
  rw [HE.out]
  clear hn hmx hr hw hb hf hM
  go_enter Tryz.func94, Tryz.ntmps94
  go_wp2_with fail
  refine NU.out.mono ?_; rintro e w1 ⟨rfl, hw1⟩
  have H1 := Lib.hid hw1
  clear hw1
  go_wp2_with fail
  refine (EA.out _ H1.out).mono ?_; rintro e w2 ⟨rfl, hw2⟩
  have H2 := Lib.hid (H1.out.then hw2)
  clear hw2
  go_wp2_with fail
  go_ret
  exact ⟨rfl, H2.out⟩
theorem countedD_is {C p n c M : Nat} {A : Option Addr} {l : List Dy} (enc : Dy → BA) (l0 : BA) (w : World) (hn : l.length = n) (hmx : n ≤ 65535) (hp : C ≤ p) (hr : DysM C w A n l) (hw : Wr C w p l0 false) (hM : M ≤ 500000) (hb : l0.length + (encL enc l).length ≤ M)
    (hf : ∀ x, x ∈ l → ∀ (l1 : BA) (w1 : World), l1.length + (enc x).length ≤ M → Wr C w1 p l1 false → Only C p w w1 → Calls Tryz.prog 99 #[ptr p, dyv x] w1 fun e w2 => e = .returned (ptr p) ∧ Wrote C p w1 (l1 ++ enc x) false w2) :
    Calls Tryz.prog 98 #[ptr p, .func (.func 99) #[ptr p] #[], .slice A n c] w fun e w' => e = .returned (ptr p) ∧ Wrote C p w (l0 ++ encL enc l) false w' := by
  rw [encL_length] at hb
  have NU := Lib.hid (num_w C p (n : Int) l0 w (two_nat hmx) (by omega) hw)
  have EA := Lib.hid (fun w1 (h1 : Wrote C p w (l0 ++ w2 (n : Int)) false w1) => eachD_is (c := c) enc (l0 ++ w2 (n : Int)) w1 hn (Nat.le_trans hmx (by unfold maxLen; omega)) hp (hr.kept (h1.2.below hp)) h1.1 (by simp only [List.length_append, w2_length]; omega) (fun x hx l1 w2 a b d => hf x hx l1 w2 a b (h1.2.trans d)))
  have HE := Lib.hid (show l0 ++ encL enc l = (l0 ++ w2 (n : Int)) ++ l.flatMap enc from by unfold encL; rw [hn, List.append_assoc])
  rw [HE.out]
  clear hn hmx hr hw hb hf hM
  go_enter Tryz.func98, Tryz.ntmps98
  go_wp2_with fail
  refine NU.out.mono ?_; rintro e w1 ⟨rfl, hw1⟩
  have H1 := Lib.hid hw1
  clear hw1
  go_wp2_with fail
  refine (EA.out _ H1.out).mono ?_; rintro e w2 ⟨rfl, hw2⟩
  have H2 := Lib.hid (H1.out.then hw2)
  clear hw2
  go_wp2_with fail
  go_ret
  exact ⟨rfl, H2.out⟩
theorem countedT_is {C p n c M : Nat} {A : Option Addr} {l : List Tx} (enc : Tx → BA) (l0 : BA) (w : World) (hn : l.length = n) (hmx : n ≤ 65535) (hp : C ≤ p) (hr : TxsM C w A n l) (hw : Wr C w p l0 false) (hM : M ≤ 500000) (hb : l0.length + (encL enc l).length ≤ M)
    (hf : ∀ x, x ∈ l → ∀ (l1 : BA) (w1 : World), l1.length + (enc x).length ≤ M → Wr C w1 p l1 false → Only C p w w1 → ∀ (A1 : Option Addr) (n1 c1 : Nat), IntsM C w1 A1 n1 x.pages → Calls Tryz.prog 97 #[ptr p, txv x A1 n1 c1] w1 fun e w2 => e = .returned (ptr p) ∧ Wrote C p w1 (l1 ++ enc x) false w2) :
    Calls Tryz.prog 96 #[ptr p, .func (.func 97) #[ptr p] #[], .slice A n c] w fun e w' => e = .returned (ptr p) ∧ Wrote C p w (l0 ++ encL enc l) false w' := by
  rw [encL_length] at hb
  have NU := Lib.hid (num_w C p (n : Int) l0 w (two_nat hmx) (by omega) hw)
  have EA := Lib.hid (fun w1 (h1 : Wrote C p w (l0 ++ w2 (n : Int)) false w1) => eachT_is (c := c) enc (l0 ++ w2 (n : Int)) w1 hn (Nat.le_trans hmx (by unfold maxLen; omega)) hp (hr.kept (h1.2.below hp)) h1.1 (by simp only [List.length_append, w2_length]; omega) (fun x hx l1 w2 a b d => hf x hx l1 w2 a b (h1.2.trans d)))
  have HE := Lib.hid (show l0 ++ encL enc l = (l0 ++ w2 (n : Int)) ++ l.flatMap enc from by unfold encL; rw [hn, List.append_assoc])
  rw [HE.out]
  clear hn hmx hr hw hb hf hM
  go_enter Tryz.func96, Tryz.ntmps96
  go_wp2_with fail
  refine NU.out.mono ?_; rintro e w1 ⟨rfl, hw1⟩
  have H1 := Lib.hid hw1
  clear hw1
  go_wp2_with fail
  refine (EA.out _ H1.out).mono ?_; rintro e w2 ⟨rfl, hw2⟩
  have H2 := Lib.hid (H1.out.then hw2)
  clear hw2
  go_wp2_with fail
  go_ret
  exact ⟨rfl, H2.out⟩
theorem pages_w {C p n c : Nat} {A : Option Addr} {l : List Int} (l0 : BA) (w : World) (hp : C ≤ p) (hr : IntsM C w A n l) (h : rightPs l = true) (hw : Wr C w p l0 false) (hb : l0.length ≤ 490000) :
    Calls Tryz.prog 93 #[ptr p, .slice A n c] w fun e w' => e = .returned (ptr p) ∧ Wrote C p w (l0 ++ encL w2 l) false w' := by
  obtain ⟨h1, h2⟩ := everyB_iff.1 h
  have CO := Lib.hid (countedI_is (c := c) (M := 500000) w2 l0 w hr.1 (by rw [← hr.1]; omega) (fun w' h' => (hr.kept (h'.below hp)).more (Nat.le_trans hw.1 h'.size)) hw (Nat.le_refl _) (by rw [encL_length, flat_const w2_length]; omega) (fun x hx l1 w1 a b _ => num_w C p x l1 w1 (h2 x hx) (by omega) b))
  clear hp hr h hw hb h1 h2
  go_enter Tryz.func93, Tryz.ntmps93
  go_wp2_with fail
  refine CO.out.mono ?_; rintro e w1 ⟨rfl, hw1⟩
  have H1 := Lib.hid hw1
  clear hw1
  go_wp2_with fail
  go_ret
  exact ⟨rfl, H1.out⟩
end Go.Proofs.YtbmnagfjpenemaaGreatDoor
