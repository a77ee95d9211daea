/- Lists of which each may be; transactions, dirty pages, records that may be. -/
import Derived.Test.YtbmnagfjpenemaaGreatDoorRight
namespace Go.Proofs.YtbmnagfjpenemaaGreatDoor
open Go.ChangeShapes Go.WideShapes Go.ChangeAt Go.RowKit
set_option linter.unusedVariables false
set_option linter.unusedSimpArgs false
set_option maxRecDepth 100000
theorem all_next {α : Type} {l : List α} {p : α → Bool} {d : α} {k : Nat} (hk : k < l.length) (h : ∀ i, i < k → p (l.getD i d) = true) (e : p (l.getD k d) = true) : ∀ i, i < k + 1 → p (l.getD i d) = true := fun i hi => by
  by_cases h2 : i = k
  · rw [h2]; exact e
  · exact h i (by omega)
theorem every_yes {α : Type} {l : List α} {m : Nat} {p : α → Bool} {d : α} (hm : l.length ≤ m) (h : ∀ i, i < l.length → p (l.getD i d) = true) : everyB l m p = true :=
  everyB_iff.2 ⟨hm, fun x hx => by
    obtain ⟨i, hi, rfl⟩ := List.getElem_of_mem hx
    rw [← getD_at (d := d) hi]
    exact h i hi⟩
theorem every_no {α : Type} {l : List α} {m : Nat} {p : α → Bool} {d : α} {k : Nat} (hk : k < l.length) (h : p (l.getD k d) = false) : everyB l m p = false := by
  rw [Bool.eq_false_iff]
  intro hh
  have := (everyB_iff.1 hh).2 _ (getD_mem' d hk)
  rw [h] at this
  cases this
theorem every_many {α : Type} {l : List α} {m : Nat} {p : α → Bool} (h : m < l.length) : everyB l m p = false := by
  rw [Bool.eq_false_iff]
  intro hh
  have := (everyB_iff.1 hh).1
  omega
set_option maxHeartbeats 1000000 in
theorem everyI_is {C n c m : Nat} {A : Option Addr} {l : List Int} (M : Int) (w : World) (h : IntsM C w A n l) (hC : C ≤ w.heap.size) (hm : M = (m : Nat)) :
    Calls Tryz.prog 109 #[.slice A n c, .int .i64 M, .func (.func 32) #[] #[]] w fun e w' => e = .returned (.bool (everyB l m two)) ∧ Below w.heap.size w w' := by
  subst hm
  have HN := Lib.hid h.1
  have hmx := h.2.1
  unfold maxLen at hmx
  have hN : (n : Int) ≤ 9223372036854775807 := by omega
  by_cases hnm : n ≤ m
  · have b0 : ¬ (n : Int) > (m : Int) := by omega
    have b1 : ¬ (m : Int) < (n : Int) := by omega
    have HM := Lib.hid (show l.length ≤ m from by rw [h.1]; exact hnm)
    have HP := Lib.hid h
    have HC := Lib.hid hC
    clear h hC hmx hnm
    go_enter Tryz.func109, Tryz.ntmps109
    go_wp2_with fail
    go_loopw [15] (fun x wr => ∃ k : Nat, k ≤ n ∧ x = .int .i64 k ∧ Hid (Below w.heap.size w wr ∧ ∀ i, i < k → two (l.getD i 0) = true)) (fun x _ => n - (intOf x).toNat)
    case atStart => exact ⟨0, Nat.zero_le _, rfl, Below.refl _ _, fun i hi => absurd hi (Nat.not_lt_zero _)⟩
    case round =>
      obtain ⟨k, hk, rfl, hq⟩ := hrel
      have HQ := Lib.hid hq.out
      clear hq
      by_cases hlt : k < n
      · have hkl : k < l.length := by rw [HN.out]; exact hlt
        obtain ⟨b, off, rfl, hb, hp, hwf⟩ := HP.out.2.2 k hlt
        have c1 : (0 : Int) ≤ (k : Int) := by omega
        have c2 : (k : Int) < (n : Int) := by omega
        have HT := Lib.hid (all_next (d := 0) hkl HQ.out.2)
        have HF := Lib.hid (fun (e : two (l.getD k 0) = false) => every_no (m := m) hkl e)
        have hbw : b < w.heap.size := Nat.lt_of_lt_of_le hb HC.out
        have hcell := cell_kept HQ.out.1 hbw hp
        have HW := Lib.hid (fun w => number_is (l.getD k 0) hwf w)
        clear hb hp hwf hbw hkl
        generalize l.getD k 0 = x at *
        cases g : two x with
        | true =>
          have HG := Lib.hid (HT.out g)
          rw [g] at HW
          clear HT HF g
          go_wp2_with fail
          refine (HW.out _).mono ?_; rintro e w1 ⟨rfl, rfl⟩
          go_wp2_with fail
          go_roundw
          case rel => exact ⟨k + 1, by omega, by go_num, HQ.out.1, HG.out⟩
          case measure => simp [intOf]; omega
        | false =>
          have HG := Lib.hid (HF.out g)
          rw [g] at HW
          clear HT HF g
          go_wp2_with fail
          refine (HW.out _).mono ?_; rintro e w1 ⟨rfl, rfl⟩
          go_wp2_with fail
          go_ret
          exact ⟨by rw [HG.out]; rfl, HQ.out.1⟩
      · obtain rfl : n = k := by omega
        have HG := Lib.hid (every_yes (d := 0) HM.out (fun i hi => HQ.out.2 i (by rw [← HN.out]; exact hi)))
        go_wp2_with fail
        go_ret
        exact ⟨by rw [HG.out]; rfl, HQ.out.1⟩
  · have b0 : (n : Int) > (m : Int) := by omega
    have HG := Lib.hid (every_many (m := m) (p := two) (l := l) (by rw [HN.out]; omega))
    rw [HG.out]
    clear h hC hmx hnm
    go_enter Tryz.func109, Tryz.ntmps109
    go_wp2_with fail
    go_ret
    exact ⟨rfl, Below.refl _ _⟩
set_option maxHeartbeats 1000000 in
theorem everyP_is {C n c m : Nat} {A : Option Addr} {l : List Pt} (M : Int) (w : World) (h : PtsM C w A n l) (hC : C ≤ w.heap.size) (hm : M = (m : Nat)) :
    Calls Tryz.prog 36 #[.slice A n c, .int .i64 M, .func (.func 37) #[] #[]] w fun e w' => e = .returned (.bool (everyB l m rightP)) ∧ Below w.heap.size w w' := by
  subst hm
  have HN := Lib.hid h.1
  have hmx := h.2.1
  unfold maxLen at hmx
  have hN : (n : Int) ≤ 9223372036854775807 := by omega
  by_cases hnm : n ≤ m
  · have b0 : ¬ (n : Int) > (m : Int) := by omega
    have b1 : ¬ (m : Int) < (n : Int) := by omega
    have HM := Lib.hid (show l.length ≤ m from by rw [h.1]; exact hnm)
    have HP := Lib.hid h
    have HC := Lib.hid hC
    clear h hC hmx hnm
    go_enter Tryz.func36, Tryz.ntmps36
    go_wp2_with fail
    go_loopw [15] (fun x wr => ∃ k : Nat, k ≤ n ∧ x = .int .i64 k ∧ Hid (Below w.heap.size w wr ∧ ∀ i, i < k → rightP (l.getD i nilP) = true)) (fun x _ => n - (intOf x).toNat)
    case atStart => exact ⟨0, Nat.zero_le _, rfl, Below.refl _ _, fun i hi => absurd hi (Nat.not_lt_zero _)⟩
    case round =>
      obtain ⟨k, hk, rfl, hq⟩ := hrel
      have HQ := Lib.hid hq.out
      clear hq
      by_cases hlt : k < n
      · have hkl : k < l.length := by rw [HN.out]; exact hlt
        obtain ⟨b, off, rfl, hb, hp, hwf⟩ := HP.out.2.2 k hlt
        have c1 : (0 : Int) ≤ (k : Int) := by omega
        have c2 : (k : Int) < (n : Int) := by omega
        have HT := Lib.hid (all_next (d := nilP) hkl HQ.out.2)
        have HF := Lib.hid (fun (e : rightP (l.getD k nilP) = false) => every_no (m := m) hkl e)
        have hbw : b < w.heap.size := Nat.lt_of_lt_of_le hb HC.out
        obtain ⟨x0, x1, x2⟩ := hp.kept (w' := wr) hbw HQ.out.1
        have HW := Lib.hid (fun w => pt_is (l.getD k nilP) hwf w)
        unfold ptv at HW
        clear hb hp hwf hbw hkl
        generalize l.getD k nilP = x at *
        have HA := Lib.hid ((Below.refl wr.heap.size wr).alloc (Nat.le_refl _) (.cells #[.int .i64 x.pg, .int .i64 x.ofs, .string x.bs] 59))
        cases g : rightP x with
        | true =>
          have HG := Lib.hid (HT.out g)
          rw [g] at HW
          clear HT HF g
          go_wp2_with fail
          refine (HW.out _).mono ?_; rintro e w1 ⟨rfl, hb⟩
          have H1 := Lib.hid (HQ.out.1.trans ((HA.out.trans (hb.mono HA.out.size)).mono (Below.size HQ.out.1)))
          clear hb
          go_wp2_with fail
          go_roundw
          case rel => exact ⟨k + 1, by omega, by go_num, H1.out, HG.out⟩
          case measure => simp [intOf]; omega
        | false =>
          have HG := Lib.hid (HF.out g)
          rw [g] at HW
          clear HT HF g
          go_wp2_with fail
          refine (HW.out _).mono ?_; rintro e w1 ⟨rfl, hb⟩
          have H1 := Lib.hid (HQ.out.1.trans ((HA.out.trans (hb.mono HA.out.size)).mono (Below.size HQ.out.1)))
          clear hb
          go_wp2_with fail
          go_ret
          exact ⟨by rw [HG.out]; rfl, H1.out⟩
      · obtain rfl : n = k := by omega
        have HG := Lib.hid (every_yes (d := nilP) HM.out (fun i hi => HQ.out.2 i (by rw [← HN.out]; exact hi)))
        go_wp2_with fail
        go_ret
        exact ⟨by rw [HG.out]; rfl, HQ.out.1⟩
  · have b0 : (n : Int) > (m : Int) := by omega
    have HG := Lib.hid (every_many (m := m) (p := rightP) (l := l) (by rw [HN.out]; omega))
    rw [HG.out]
    clear h hC hmx hnm
    go_enter Tryz.func36, Tryz.ntmps36
    go_wp2_with fail
    go_ret
    exact ⟨rfl, Below.refl _ _⟩
theorem pages_is {C n c : Nat} {A : Option Addr} {l : List Int} (w : World) (h : IntsM C w A n l) (hC : C ≤ w.heap.size) : Calls Tryz.prog 35 #[.slice A n c] w fun e w' => e = .returned (.bool (rightPs l)) ∧ Below w.heap.size w w' := by
  have EV := Lib.hid (everyI_is (c := c) (m := 64) 64 w h hC rfl)
  unfold rightPs
  clear h hC
  go_enter Tryz.func35, Tryz.ntmps35
  go_wp2_with fail
  refine EV.out.mono ?_; rintro e w1 ⟨rfl, hb⟩
  have HB := Lib.hid hb
  clear hb
  go_wp2_with fail
  go_ret
  exact ⟨rfl, HB.out⟩
set_option maxHeartbeats 1000000 in
theorem dy_is (d : Dy) (hd : DyW d) (w : World) : Calls Tryz.prog 41 #[dyv d] w fun e w' => e = .returned (.bool (rightD d)) ∧ Below w.heap.size w w' := by
  unfold dyv rightD
  have NU := Lib.hid (fun w => number_is d.page hd.1 w)
  have LS := Lib.hid (fun w => lsn_is d.lsn hd.2 w)
  clear hd
  have HA := Lib.hid ((Below.refl w.heap.size w).alloc (Nat.le_refl _) (.cells #[.int .i64 d.page, .int .i64 d.lsn] 74))
  have HX := Bx.new w #[.int .i64 d.page, .int .i64 d.lsn] 74
  have x0 := HX.cell 0
  have x1 := HX.cell 1
  clear HX
  simp at x0 x1
  cases g : two d.page with
  | true =>
    rw [g] at NU
    go_enter Tryz.func41, Tryz.ntmps41
    go_wp2_with fail
    refine (NU.out _).mono ?_; rintro e w1 ⟨rfl, rfl⟩
    go_wp2_with fail
    refine (LS.out _).mono ?_; rintro e w1 ⟨rfl, rfl⟩
    go_wp2_with fail
    go_ret
    exact ⟨rfl, HA.out⟩
  | false =>
    rw [g] at NU
    go_enter Tryz.func41, Tryz.ntmps41
    go_wp2_with fail
    refine (NU.out _).mono ?_; rintro e w1 ⟨rfl, rfl⟩
    go_wp2_with fail
    go_ret
    exact ⟨rfl, HA.out⟩
set_option maxHeartbeats 1000000 in
theorem tx_is {C n c : Nat} {A : Option Addr} (t : Tx) (ht : TxW t) (w : World) (h : IntsM C w A n t.pages) (hC : C ≤ w.heap.size) : Calls Tryz.prog 39 #[txv t A n c] w fun e w' => e = .returned (.bool (rightT t)) ∧ Below w.heap.size w w' := by
  unfold txv rightT
  have NU := Lib.hid (fun w => number_is t.id ht.1 w)
  have LS := Lib.hid (fun w => lsn_is t.last ht.2 w)
  have PG := Lib.hid (fun w' (hb : Below w.heap.size w w') => pages_is (c := c) w' (h.kept (hb.mono hC)) (Nat.le_trans hC hb.size))
  clear ht h hC
  have HA := Lib.hid ((Below.refl w.heap.size w).alloc (Nat.le_refl _) (.cells #[.int .i64 t.id, .int .i64 t.last, .bool t.com, .slice A n c] 61))
  have HX := Bx.new w #[.int .i64 t.id, .int .i64 t.last, .bool t.com, .slice A n c] 61
  have x0 := HX.cell 0
  have x1 := HX.cell 1
  have x2 := HX.cell 2
  have x3 := HX.cell 3
  clear HX
  simp at x0 x1 x2 x3
  cases g : two t.id with
  | true =>
    rw [g] at NU
    cases g2 : four t.last with
    | true =>
      rw [g2] at LS
      go_enter Tryz.func39, Tryz.ntmps39
      go_wp2_with fail
      refine (NU.out _).mono ?_; rintro e w1 ⟨rfl, rfl⟩
      go_wp2_with fail
      refine (LS.out _).mono ?_; rintro e w1 ⟨rfl, rfl⟩
      go_wp2_with fail
      refine (PG.out _ HA.out).mono ?_; rintro e w1 ⟨rfl, hb⟩
      have HB := Lib.hid (HA.out.trans (hb.mono HA.out.size))
      clear hb
      go_wp2_with fail
      go_ret
      exact ⟨rfl, HB.out⟩
    | false =>
      rw [g2] at LS
      go_enter Tryz.func39, Tryz.ntmps39
      go_wp2_with fail
      refine (NU.out _).mono ?_; rintro e w1 ⟨rfl, rfl⟩
      go_wp2_with fail
      refine (LS.out _).mono ?_; rintro e w1 ⟨rfl, rfl⟩
      go_wp2_with fail
      go_ret
      exact ⟨rfl, HA.out⟩
  | false =>
    rw [g] at NU
    go_enter Tryz.func39, Tryz.ntmps39
    go_wp2_with fail
    refine (NU.out _).mono ?_; rintro e w1 ⟨rfl, rfl⟩
    go_wp2_with fail
    go_ret
    exact ⟨rfl, HA.out⟩
set_option maxHeartbeats 1000000 in
theorem everyD_is {C n c m : Nat} {A : Option Addr} {l : List Dy} (M : Int) (w : World) (h : DysM C w A n l) (hC : C ≤ w.heap.size) (hm : M = (m : Nat)) :
    Calls Tryz.prog 40 #[.slice A n c, .int .i64 M, .func (.func 41) #[] #[]] w fun e w' => e = .returned (.bool (everyB l m rightD)) ∧ Below w.heap.size w w' := by
  subst hm
  have HN := Lib.hid h.1
  have hmx := h.2.1
  unfold maxLen at hmx
  have hN : (n : Int) ≤ 9223372036854775807 := by omega
  by_cases hnm : n ≤ m
  · have b0 : ¬ (n : Int) > (m : Int) := by omega
    have b1 : ¬ (m : Int) < (n : Int) := by omega
    have HM := Lib.hid (show l.length ≤ m from by rw [h.1]; exact hnm)
    have HP := Lib.hid h
    have HC := Lib.hid hC
    clear h hC hmx hnm
    go_enter Tryz.func40, Tryz.ntmps40
    go_wp2_with fail
    go_loopw [15] (fun x wr => ∃ k : Nat, k ≤ n ∧ x = .int .i64 k ∧ Hid (Below w.heap.size w wr ∧ ∀ i, i < k → rightD (l.getD i nilD) = true)) (fun x _ => n - (intOf x).toNat)
    case atStart => exact ⟨0, Nat.zero_le _, rfl, Below.refl _ _, fun i hi => absurd hi (Nat.not_lt_zero _)⟩
    case round =>
      obtain ⟨k, hk, rfl, hq⟩ := hrel
      have HQ := Lib.hid hq.out
      clear hq
      by_cases hlt : k < n
      · have hkl : k < l.length := by rw [HN.out]; exact hlt
        obtain ⟨b, off, rfl, hb, hp, hwf⟩ := HP.out.2.2 k hlt
        have c1 : (0 : Int) ≤ (k : Int) := by omega
        have c2 : (k : Int) < (n : Int) := by omega
        have HT := Lib.hid (all_next (d := nilD) hkl HQ.out.2)
        have HF := Lib.hid (fun (e : rightD (l.getD k nilD) = false) => every_no (m := m) hkl e)
        have hbw : b < w.heap.size := Nat.lt_of_lt_of_le hb HC.out
        obtain ⟨x0, x1⟩ := hp.kept (w' := wr) hbw HQ.out.1
        have HW := Lib.hid (fun w => dy_is (l.getD k nilD) hwf w)
        unfold dyv at HW
        clear hb hp hwf hbw hkl
        generalize l.getD k nilD = x at *
        have HA := Lib.hid ((Below.refl wr.heap.size wr).alloc (Nat.le_refl _) (.cells #[.int .i64 x.page, .int .i64 x.lsn] 74))
        cases g : rightD x with
        | true =>
          have HG := Lib.hid (HT.out g)
          rw [g] at HW
          clear HT HF g
          go_wp2_with fail
          refine (HW.out _).mono ?_; rintro e w1 ⟨rfl, hb⟩
          have H1 := Lib.hid (HQ.out.1.trans ((HA.out.trans (hb.mono HA.out.size)).mono (Below.size HQ.out.1)))
          clear hb
          go_wp2_with fail
          go_roundw
          case rel => exact ⟨k + 1, by omega, by go_num, H1.out, HG.out⟩
          case measure => simp [intOf]; omega
        | false =>
          have HG := Lib.hid (HF.out g)
          rw [g] at HW
          clear HT HF g
          go_wp2_with fail
          refine (HW.out _).mono ?_; rintro e w1 ⟨rfl, hb⟩
          have H1 := Lib.hid (HQ.out.1.trans ((HA.out.trans (hb.mono HA.out.size)).mono (Below.size HQ.out.1)))
          clear hb
          go_wp2_with fail
          go_ret
          exact ⟨by rw [HG.out]; rfl, H1.out⟩
      · obtain rfl : n = k := by omega
        have HG := Lib.hid (every_yes (d := nilD) HM.out (fun i hi => HQ.out.2 i (by rw [← HN.out]; exact hi)))
        go_wp2_with fail
        go_ret
        exact ⟨by rw [HG.out]; rfl, HQ.out.1⟩
  · have b0 : (n : Int) > (m : Int) := by omega
    have HG := Lib.hid (every_many (m := m) (p := rightD) (l := l) (by rw [HN.out]; omega))
    rw [HG.out]
    clear h hC hmx hnm
    go_enter Tryz.func40, Tryz.ntmps40
    go_wp2_with fail
    go_ret
    exact ⟨rfl, Below.refl _ _⟩
set_option maxHeartbeats 1000000 in
theorem everyT_is {C n c m : Nat} {A : Option Addr} {l : List Tx} (M : Int) (w : World) (h : TxsM C w A n l) (hC : C ≤ w.heap.size) (hm : M = (m : Nat)) :
    Calls Tryz.prog 38 #[.slice A n c, .int .i64 M, .func (.func 39) #[] #[]] w fun e w' => e = .returned (.bool (everyB l m rightT)) ∧ Below w.heap.size w w' := by
  subst hm
  have HN := Lib.hid h.1
  have hmx := h.2.1
  unfold maxLen at hmx
  have hN : (n : Int) ≤ 9223372036854775807 := by omega
  by_cases hnm : n ≤ m
  · have b0 : ¬ (n : Int) > (m : Int) := by omega
    have b1 : ¬ (m : Int) < (n : Int) := by omega
    have HM := Lib.hid (show l.length ≤ m from by rw [h.1]; exact hnm)
    have HP := Lib.hid h
    have HC := Lib.hid hC
    clear h hC hmx hnm
    go_enter Tryz.func38, Tryz.ntmps38
    go_wp2_with fail
    go_loopw [15] (fun x wr => ∃ k : Nat, k ≤ n ∧ x = .int .i64 k ∧ Hid (Below w.heap.size w wr ∧ ∀ i, i < k → rightT (l.getD i nilT) = true)) (fun x _ => n - (intOf x).toNat)
    case atStart => exact ⟨0, Nat.zero_le _, rfl, Below.refl _ _, fun i hi => absurd hi (Nat.not_lt_zero _)⟩
    case round =>
      obtain ⟨k, hk, rfl, hq⟩ := hrel
      have HQ := Lib.hid hq.out
      clear hq
      by_cases hlt : k < n
      · have hkl : k < l.length := by rw [HN.out]; exact hlt
        obtain ⟨b, off, rfl, hb, hp, hwf⟩ := HP.out.2.2 k hlt
        have c1 : (0 : Int) ≤ (k : Int) := by omega
        have c2 : (k : Int) < (n : Int) := by omega
        have HT := Lib.hid (all_next (d := nilT) hkl HQ.out.2)
        have HF := Lib.hid (fun (e : rightT (l.getD k nilT) = false) => every_no (m := m) hkl e)
        have hbw : b < w.heap.size := Nat.lt_of_lt_of_le hb HC.out
        obtain ⟨x0, x1, x2, A1, n1, c1', x3, hin⟩ := (hp.more HC.out).kept (w' := wr) hbw HQ.out.1
        have HW := Lib.hid (fun w' (hb : Below wr.heap.size wr w') => tx_is (l.getD k nilT) hwf w' (C := w.heap.size) (A := A1) (n := n1) (c := c1') (hin.kept (hb.mono (Below.size HQ.out.1))) (Nat.le_trans (Below.size HQ.out.1) (Below.size hb)))
        unfold txv at HW
        clear hin
        clear hb hp hwf hbw hkl
        generalize l.getD k nilT = x at *
        have HA := Lib.hid ((Below.refl wr.heap.size wr).alloc (Nat.le_refl _) (.cells #[.int .i64 x.id, .int .i64 x.last, .bool x.com, .slice A1 n1 c1'] 61))
        cases g : rightT x with
        | true =>
          have HG := Lib.hid (HT.out g)
          rw [g] at HW
          clear HT HF g
          go_wp2_with fail
          refine (HW.out _ HA.out).mono ?_; rintro e w1 ⟨rfl, hb⟩
          have H1 := Lib.hid (HQ.out.1.trans ((HA.out.trans (hb.mono HA.out.size)).mono (Below.size HQ.out.1)))
          clear hb
          go_wp2_with fail
          go_roundw
          case rel => exact ⟨k + 1, by omega, by go_num, H1.out, HG.out⟩
          case measure => simp [intOf]; omega
        | false =>
          have HG := Lib.hid (HF.out g)
          rw [g] at HW
          clear HT HF g
          go_wp2_with fail
          refine (HW.out _ HA.out).mono ?_; rintro e w1 ⟨rfl, hb⟩
          have H1 := Lib.hid (HQ.out.1.trans ((HA.out.trans (hb.mono HA.out.size)).mono (Below.size HQ.out.1)))
          clear hb
          go_wp2_with fail
          go_ret
          exact ⟨by rw [HG.out]; rfl, H1.out⟩
      · obtain rfl : n = k := by omega
        have HG := Lib.hid (every_yes (d := nilT) HM.out (fun i hi => HQ.out.2 i (by rw [← HN.out]; exact hi)))
        go_wp2_with fail
        go_ret
        exact ⟨by rw [HG.out]; rfl, HQ.out.1⟩
  · have b0 : (n : Int) > (m : Int) := by omega
    have HG := Lib.hid (every_many (m := m) (p := rightT) (l := l) (by rw [HN.out]; omega))
    rw [HG.out]
    clear h hC hmx hnm
    go_enter Tryz.func38, Tryz.ntmps38
    go_wp2_with fail
    go_ret
    exact ⟨rfl, Below.refl _ _⟩
set_option maxHeartbeats 4000000 in
/-- A record's parts, one by one. -/
theorem right_is {C : Nat} (r : Rc) (h : Hd) (w : World) (hr : RcM C w r h) (hC : C ≤ w.heap.size) : Calls Tryz.prog 10 #[rcv r h] w fun e w' => e = .returned (.bool (rightR r)) ∧ Below w.heap.size w w' := by
  obtain ⟨kind, tx, prev, next, key, had, ⟨ok, ov, ob, oz⟩, pages, pts, txs, dys⟩ := r
  obtain ⟨⟨A1, n1, c1⟩, ⟨A2, n2, c2⟩, ⟨A3, n3, c3⟩, ⟨A4, n4, c4⟩⟩ := h
  obtain ⟨r1, r2, r3, r4, r5, r6, m1, m2, m3, m4⟩ := hr
  simp only at r1 r2 r3 r4 r5 r6 m1 m2 m3 m4
  unfold rcv rightR
  dsimp only
  have HA := Lib.hid ((Below.refl w.heap.size w).alloc (Nat.le_refl _) (.cells #[.int .i64 kind, .int .i64 tx, .int .i64 prev, .int .i64 next, .string key, .bool had, .string ok, .string ov, .int .i64 ob, .int .i64 oz, .slice A1 n1 c1, .slice A2 n2 c2, .slice A3 n3 c3, .slice A4 n4 c4] 29))
  have HX := Lib.hid (Bx.new w #[.int .i64 kind, .int .i64 tx, .int .i64 prev, .int .i64 next, .string key, .bool had, .string ok, .string ov, .int .i64 ob, .int .i64 oz, .slice A1 n1 c1, .slice A2 n2 c2, .slice A3 n3 c3, .slice A4 n4 c4] 29)
  have F1 := Lib.hid (fun w => kind_is kind w)
  have F2 := Lib.hid (fun w => number_is tx r2 w)
  have F3 := Lib.hid (fun w => lsn_is prev r3 w)
  have F4 := Lib.hid (fun w => lsn_is next r4 w)
  have F6 := Lib.hid (fun w => old_is ok ov ob oz w)
  have F7 := Lib.hid (fun w' (hb : Below w.heap.size w w') => pages_is (c := c1) w' (m1.kept (hb.mono hC)) (Nat.le_trans hC hb.size))
  have F8 := Lib.hid (fun w' (hb : Below w.heap.size w w') => everyP_is (c := c2) (m := 40) 40 w' (m2.kept (hb.mono hC)) (Nat.le_trans hC hb.size) rfl)
  have F9 := Lib.hid (fun w' (hb : Below w.heap.size w w') => everyT_is (c := c3) (m := 8) 8 w' (m3.kept (hb.mono hC)) (Nat.le_trans hC hb.size) rfl)
  have F10 := Lib.hid (fun w' (hb : Below w.heap.size w w') => everyD_is (c := c4) (m := 64) 64 w' (m4.kept (hb.mono hC)) (Nat.le_trans hC hb.size) rfl)
  unfold maxLen at r5
  have hks : (key.size : Int) ≤ 281474976710656 ∨ True := Or.inr trivial
  clear r1 r2 r3 r4 r6 m1 m2 m3 m4 hks
  obtain ⟨z5, hz5⟩ : ∃ z, z = decide (key.size ≤ 255) := ⟨_, rfl⟩
  rw [← hz5]
  have HZ5 := Lib.hid hz5
  clear hz5
  generalize rightK kind = z1 at *
  generalize two tx = z2 at *
  generalize four prev = z3 at *
  generalize four next = z4 at *
  generalize rightO ⟨ok, ov, ob, oz⟩ = z6 at *
  generalize rightPs pages = z7 at *
  generalize everyB pts 40 rightP = z8 at *
  generalize everyB txs 8 rightT = z9 at *
  generalize everyB dys 64 rightD = z10 at *
  have HX0 := HX
  have HA0 := HA
  have x0 := HX0.out.cell 0
  have x1 := HX0.out.cell 1
  have x2 := HX0.out.cell 2
  have x3 := HX0.out.cell 3
  have x4 := HX0.out.cell 4
  have x5 := HX0.out.cell 5
  have x6 := HX0.out.cell 6
  have x7 := HX0.out.cell 7
  have x8 := HX0.out.cell 8
  have x9 := HX0.out.cell 9
  have x10 := HX0.out.cell 10
  have x11 := HX0.out.cell 11
  have x12 := HX0.out.cell 12
  have x13 := HX0.out.cell 13
  simp only [List.getElem?_toArray, List.getElem?_cons_zero, List.getElem?_cons_succ] at x0 x1 x2 x3 x4 x5 x6 x7 x8 x9 x10 x11 x12 x13
  clear HX HA HX0
  go_enter Tryz.func10, Tryz.ntmps10
  go_wp2_with fail
  refine (F1.out _).mono ?_; rintro e u ⟨rfl, rfl⟩
  cases z1 with
  | false =>
    as_aux_lemma =>
      go_wp2_with fail
      go_ret
      exact ⟨rfl, HA0.out⟩
  | true =>
    go_wp2_with fail
    refine (F2.out _).mono ?_; rintro e u ⟨rfl, rfl⟩
    cases z2 with
    | false =>
      as_aux_lemma =>
        go_wp2_with fail
        go_ret
        exact ⟨rfl, HA0.out⟩
    | true =>
      go_wp2_with fail
      refine (F3.out _).mono ?_; rintro e u ⟨rfl, rfl⟩
      cases z3 with
      | false =>
        as_aux_lemma =>
          go_wp2_with fail
          go_ret
          exact ⟨rfl, HA0.out⟩
      | true =>
        go_wp2_with fail
        refine (F4.out _).mono ?_; rintro e u ⟨rfl, rfl⟩
        cases z4 with
        | false =>
          as_aux_lemma =>
            go_wp2_with fail
            go_ret
            exact ⟨rfl, HA0.out⟩
        | true =>
          by_cases hkey : key.size ≤ 255
          · have bk : (key.size : Int) ≤ 255 := by omega
            obtain rfl : z5 = true := HZ5.out.trans (decide_eq_true hkey)
            clear hkey HZ5
            go_wp2_with fail
            have HL0 := Lib.hid (show w.heap.size < (w.alloc (.cells #[.int .i64 kind, .int .i64 tx, .int .i64 prev, .int .i64 next, .string key, .bool had, .string ok, .string ov, .int .i64 ob, .int .i64 oz, .slice A1 n1 c1, .slice A2 n2 c2, .slice A3 n3 c3, .slice A4 n4 c4] 29)).heap.size from by simp)
            refine (F6.out _).mono ?_; rintro e w1 ⟨rfl, hb⟩
            have HA1 := Lib.hid (HA0.out.trans (hb.mono HA0.out.size))
            replace x10 := (hb.cell HL0.out).trans x10
            replace x11 := (hb.cell HL0.out).trans x11
            replace x12 := (hb.cell HL0.out).trans x12
            replace x13 := (hb.cell HL0.out).trans x13
            have HL1 := Lib.hid (Nat.lt_of_lt_of_le HL0.out hb.size)
            clear hb
            cases z6 with
            | false =>
              as_aux_lemma =>
                go_wp2_with fail
                go_ret
                exact ⟨rfl, HA1.out⟩
            | true =>
              go_wp2_with fail
              refine (F7.out _ HA1.out).mono ?_; rintro e w2 ⟨rfl, hb⟩
              have HA2 := Lib.hid (HA1.out.trans (hb.mono HA1.out.size))
              replace x10 := (hb.cell HL1.out).trans x10
              replace x11 := (hb.cell HL1.out).trans x11
              replace x12 := (hb.cell HL1.out).trans x12
              replace x13 := (hb.cell HL1.out).trans x13
              have HL2 := Lib.hid (Nat.lt_of_lt_of_le HL1.out hb.size)
              clear hb
              cases z7 with
              | false =>
                as_aux_lemma =>
                  go_wp2_with fail
                  go_ret
                  exact ⟨rfl, HA2.out⟩
              | true =>
                go_wp2_with fail
                refine (F8.out _ HA2.out).mono ?_; rintro e w3 ⟨rfl, hb⟩
                have HA3 := Lib.hid (HA2.out.trans (hb.mono HA2.out.size))
                replace x10 := (hb.cell HL2.out).trans x10
                replace x11 := (hb.cell HL2.out).trans x11
                replace x12 := (hb.cell HL2.out).trans x12
                replace x13 := (hb.cell HL2.out).trans x13
                have HL3 := Lib.hid (Nat.lt_of_lt_of_le HL2.out hb.size)
                clear hb
                cases z8 with
                | false =>
                  as_aux_lemma =>
                    go_wp2_with fail
                    go_ret
                    exact ⟨rfl, HA3.out⟩
                | true =>
                  go_wp2_with fail
                  refine (F9.out _ HA3.out).mono ?_; rintro e w4 ⟨rfl, hb⟩
                  have HA4 := Lib.hid (HA3.out.trans (hb.mono HA3.out.size))
                  replace x10 := (hb.cell HL3.out).trans x10
                  replace x11 := (hb.cell HL3.out).trans x11
                  replace x12 := (hb.cell HL3.out).trans x12
                  replace x13 := (hb.cell HL3.out).trans x13
                  have HL4 := Lib.hid (Nat.lt_of_lt_of_le HL3.out hb.size)
                  clear hb
                  cases z9 with
                  | false =>
                    as_aux_lemma =>
                      go_wp2_with fail
                      go_ret
                      exact ⟨rfl, HA4.out⟩
                  | true =>
                    go_wp2_with fail
                    refine (F10.out _ HA4.out).mono ?_; rintro e w5 ⟨rfl, hb⟩
                    have HA5 := Lib.hid (HA4.out.trans (hb.mono HA4.out.size))
                    have HL5 := Lib.hid (Nat.lt_of_lt_of_le HL4.out hb.size)
                    clear hb
                    go_wp2_with fail
                    go_ret
                    exact ⟨rfl, HA5.out⟩
          · have bk : ¬ (key.size : Int) ≤ 255 := by omega
            obtain rfl : z5 = false := HZ5.out.trans (decide_eq_false hkey)
            clear hkey HZ5
            go_wp2_with fail
            go_ret
            exact ⟨rfl, HA0.out⟩
end Go.Proofs.YtbmnagfjpenemaaGreatDoor
