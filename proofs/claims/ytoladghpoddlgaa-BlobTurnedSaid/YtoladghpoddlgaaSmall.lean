/- The small calls: Pages, enough, next, blank, Contains, right, holds. -/
import Derived.Test.YtoladghpoddlgaaMath
import Derived.Test.YtoladghpoddlgaaShelf
import Derived.Test.YtoladghpoddlgaaNums
import Derived.Deep.RegionHeld3
namespace Go.Proofs.Ytoladghpoddlgaa
open Go.ChangeShapes Go.WideShapes Go.ChangeAt Go.RowKit
set_option linter.unusedVariables false
set_option linter.unusedSimpArgs false
set_option maxRecDepth 100000
theorem below_drewN {C : Nat} {w0 w : World} (h : Below C w0 w) (q : Nat) : Below C w0 (w.drewN q) := h.trans ⟨rfl, rfl, rfl, Nat.le_refl _, fun _ _ => rfl⟩
theorem pages_any (n : Int) (w : World) : Calls Try.prog 17 #[.int .i64 n] w fun e w' => e = .returned (.int .i64 (pagesN n)) ∧ w = w' := by
  by_cases h1 : n ≤ 40
  · rw [pagesN_small h1]
    go_enter Try.func17, Try.ntmps17
    go_wp2_with fail
    go_ret
    exact ⟨rfl, rfl⟩
  · by_cases h2 : n > 400
    · rw [pagesN_big h2]
      go_enter Try.func17, Try.ntmps17
      go_wp2_with fail
      go_ret
      exact ⟨rfl, rfl⟩
    · have e1 : IntKind.i64.wrap (n + 200) = n + 200 := IntWalk.i64_in _ (by omega)
      have e2 : IntKind.i64.wrap (n + 200 - 1) = n + 200 - 1 := IntWalk.i64_in _ (by omega)
      have E3 := Lib.hid (show ((n + 200 - 1) / 200 : Int) = ((pagesN n : Nat) : Int) from by
        rcases pagesN_is n with ⟨e, _⟩ | ⟨e, _, _⟩ | ⟨e, _, _⟩ <;> omega)
      go_enter Try.func17, Try.ntmps17
      go_wp2_with fail
      go_ret
      exact ⟨by rw [← E3.out]; rfl, rfl⟩
theorem rpages_any (n : Int) (w : World) : Calls Try.prog 18 #[.int .i64 n] w fun e w' => e = .returned (.int .i64 (pagesN n)) ∧ w = w' := by
  by_cases h1 : n ≤ 40
  · rw [pagesN_small h1]
    go_enter Try.func18, Try.ntmps18
    go_wp2_with fail
    go_ret
    exact ⟨rfl, rfl⟩
  · by_cases h2 : n > 400
    · rw [pagesN_big h2]
      go_enter Try.func18, Try.ntmps18
      go_wp2_with fail
      go_ret
      exact ⟨rfl, rfl⟩
    · have e1 : IntKind.i64.wrap (n + 200) = n + 200 := IntWalk.i64_in _ (by omega)
      have e2 : IntKind.i64.wrap (n + 200 - 1) = n + 200 - 1 := IntWalk.i64_in _ (by omega)
      have E3 := Lib.hid (show ((n + 200 - 1) / 200 : Int) = ((pagesN n : Nat) : Int) from by
        rcases pagesN_is n with ⟨e, _⟩ | ⟨e, _, _⟩ | ⟨e, _, _⟩ <;> omega)
      go_enter Try.func18, Try.ntmps18
      go_wp2_with fail
      go_ret
      exact ⟨by rw [← E3.out]; rfl, rfl⟩
theorem enough_any (n : Int) (k : Nat) (w : World) : Calls Try.prog 25 #[.int .i64 n, .int .i64 k] w fun e w' => e = .returned (.bool (fitN n k)) ∧ w = w' := by
  have PG := Lib.hid (fun w => pages_any n w)
  by_cases h0 : 0 < k
  · have b0 : (k : Int) > 0 := by omega
    by_cases h1 : pagesN n = k
    · rw [fitN_iff.2 ⟨h0, h1⟩]
      rw [h1] at PG
      go_enter Try.func25, Try.ntmps25
      go_wp2_with fail
      refine (PG.out _).mono ?_; rintro q w1 ⟨rfl, rfl⟩
      go_wp2_with fail
      go_ret
      exact ⟨rfl, rfl⟩
    · have HF := Lib.hid (show fitN n k = false from by unfold fitN; rw [decide_eq_false h1, Bool.and_false])
      rw [HF.out]
      have b1 : ((pagesN n : Int) == (k : Int)) = false := by rw [beq_eq_false_iff_ne]; omega
      generalize ((pagesN n : Nat) : Int) = r at *
      go_enter Try.func25, Try.ntmps25
      go_wp2_with fail
      refine (PG.out _).mono ?_; rintro q w1 ⟨rfl, rfl⟩
      go_wp2_with fail
      go_ret
      exact ⟨rfl, rfl⟩
  · obtain rfl : k = 0 := by omega
    have HF := Lib.hid (show fitN n 0 = false from rfl)
    rw [HF.out]
    go_enter Try.func25, Try.ntmps25
    go_wp2_with fail
    go_ret
    exact ⟨rfl, rfl⟩
theorem next_any {n₀ : Nat} {A : Option Addr} {n c : Nat} {l : List Int} (i : Nat) (w : World) (h : I.Nums n₀ w (.slice A n c) l) (hi : i < n) (hn : n ≤ 1000) : Calls Try.prog 27 #[.slice A n c, .int .i64 i] w fun e w' => e = .returned (.int .i64 (nextN l i)) ∧ w = w' := by
  have hl := h.len
  have b3 : IntKind.i64.wrap ((n : Int) - 1) = (n : Int) - 1 := IntWalk.i64_in _ (by omega)
  have b4 : IntKind.i64.wrap ((i : Int) + 1) = (i : Int) + 1 := IntWalk.i64_in _ (by omega)
  by_cases e : i + 1 = n
  · have HN := Lib.hid (show nextN l i = 0 from if_pos (by omega))
    rw [HN.out]
    have b1 : (i : Int) = (n : Int) - 1 := by omega
    have b2 : ((i : Int) == (n : Int) - 1) = true := by rw [beq_iff_eq]; exact b1
    clear h hl hi hn e
    go_enter Try.func27, Try.ntmps27
    go_wp2_with fail
    go_ret
    exact ⟨rfl, rfl⟩
  · have HN := Lib.hid (show nextN l i = l.getD (i + 1) 0 from if_neg (by omega))
    rw [HN.out]
    have b2 : ((i : Int) == (n : Int) - 1) = false := by rw [beq_eq_false_iff_ne]; omega
    have b1 : ¬ (i : Int) = (n : Int) - 1 := by omega
    obtain ⟨b, off, rfl, _, hc⟩ := h.at (i := i + 1) (by omega)
    have b5 : (i : Int) + 1 < (n : Int) := by omega
    have b6 : (0 : Int) ≤ (i : Int) + 1 := by omega
    have b7 : ((i : Int) + 1).toNat = i + 1 := by omega
    generalize l.getD (i + 1) 0 = x at *
    clear h hl hi hn e
    go_enter Try.func27, Try.ntmps27
    go_wp2_with fail
    go_ret
    exact ⟨rfl, rfl⟩
theorem blank_any (n : Nat) (hn : n ≤ 1000) (w : World) : Calls Try.prog 28 #[.int .i64 n] w fun e w' => e = .returned (.string (str (zs n))) ∧ Below w.heap.size w w' := by
  have RE := Lib.hid (fun w => repeat_any n hn w)
  generalize str (zs n) = s at *
  go_enter Try.func28, Try.ntmps28
  go_wp2_with fail
  refine (RE.out _).mono ?_; rintro q w1 ⟨rfl, hb⟩
  go_wp2_with fail
  go_ret
  exact ⟨rfl, hb⟩
/-- Where v first stands in l. -/
def idxI (l : List Int) (v : Int) : Int := if l.contains v then l.idxOf v else -1
theorem index_any {n₀ : Nat} {A : Option Addr} {n c : Nat} {l : List Int} (v : Int) (w : World) (h : I.Nums n₀ w (.slice A n c) l) (hn : n ≤ 1000) : Calls Try.prog 90 #[.slice A n c, .int .i64 v] w fun e w' => (∃ r : Int, e = .returned (.int .i64 r) ∧ decide (0 ≤ r) = l.contains v) ∧ ∃ q, w' = w.drewN q := by
  have hl := h.len
  have H := Lib.hid h
  have HL := Lib.hid hl
  have hN : (n : Int) ≤ 1000 := by omega
  clear h hl
  go_enter Try.func90, Try.ntmps90
  go_wp2_with fail
  go_loopw [8] (fun x wr => ∃ j : Nat, j ≤ n ∧ x = .int .i64 j ∧ Hid (∀ i, i < j → l.getD i 0 ≠ v) ∧ ∃ q, wr = w.drewN q) (fun x _ => n - (intOf x).toNat)
  case atStart => exact ⟨0, Nat.zero_le _, rfl, fun i hi => absurd hi (Nat.not_lt_zero _), 0, rfl⟩
  case round =>
    obtain ⟨j, hj, rfl, hall, q, rfl⟩ := hrel
    have b0 : (0 : Int) ≤ (j : Int) := by omega
    by_cases hlt : j < n
    · obtain ⟨b, off, rfl, hb, hc⟩ := H.out.at hlt
      have b1 : (j : Int) < (n : Int) := by omega
      have HST := Lib.hid (fun (e : l.getD j 0 ≠ v) => (show ∀ i, i < j + 1 → l.getD i 0 ≠ v from fun i hi => by
        by_cases h : i = j
        · rw [h]; exact e
        · exact hall.out i (by omega)))
      have HYE := Lib.hid (fun (e : l.getD j 0 = v) => (show l.contains v = true from by
        rw [List.contains_iff_mem, ← e, List.getD, List.getElem?_eq_getElem (by rw [← HL.out]; exact hlt)]
        exact List.getElem_mem _))
      clear hb
      by_cases hxy : l.getD j 0 = v
      · have HY := Lib.hid (HYE.out hxy)
        rw [hxy] at hc
        clear HST HYE hxy hall
        go_wp2_with fail
        go_ret
        exact ⟨⟨(j : Int), rfl, by rw [HY.out]; exact decide_eq_true (by omega)⟩, q, rfl⟩
      · have HN := Lib.hid (HST.out hxy)
        have hb : (v == l.getD j 0) = false := by rw [beq_eq_false_iff_ne]; exact fun e => hxy e.symm
        have hb2 : ¬ v = l.getD j 0 := fun e => hxy e.symm
        generalize l.getD j 0 = x at *
        clear HST HYE hxy hall
        go_wp2_with fail
        go_roundw
        case rel => exact ⟨j + 1, by omega, by go_num, HN.out, q, rfl⟩
        case measure => simp [intOf]; omega
    · obtain rfl : n = j := by omega
      have HY := Lib.hid (show l.contains v = false from by
        cases g : l.contains v with
        | false => rfl
        | true =>
          rw [List.contains_iff_mem] at g
          obtain ⟨i, hi, e⟩ := List.getElem_of_mem g
          have := hall.out i (by rw [HL.out]; exact hi)
          rw [List.getD, List.getElem?_eq_getElem hi] at this
          exact absurd e this)
      clear hall
      go_wp2_with fail
      go_ret
      exact ⟨⟨-1, rfl, by rw [HY.out]; rfl⟩, q, rfl⟩
theorem contains_any {n₀ : Nat} {A : Option Addr} {n c : Nat} {l : List Int} (v : Int) (w : World) (h : I.Nums n₀ w (.slice A n c) l) (hn : n ≤ 1000) : Calls Try.prog 71 #[.slice A n c, .int .i64 v] w fun e w' => e = .returned (.bool (l.contains v)) ∧ ∃ q, w' = w.drewN q := by
  have IX := Lib.hid (index_any v w h hn)
  generalize l.contains v = r at *
  clear h
  go_enter Try.func71, Try.ntmps71
  go_wp2_with fail
  refine IX.out.mono ?_; rintro e w1 ⟨⟨x, rfl, hx⟩, q, rfl⟩
  have HX := Lib.hid hx
  clear hx
  go_wp2_with fail
  go_ret
  exact ⟨by rw [← HX.out]; rfl, q, rfl⟩
set_option maxHeartbeats 1000000 in
theorem right_any {n₀ : Nat} {A : Option Addr} {n c : Nat} {l : List Int} (w : World) (h : I.Nums n₀ w (.slice A n c) l) (hn : n ≤ 1000) (hc : n ≤ c) : Calls Try.prog 26 #[.slice A n c] w fun e w' => e = .returned (.bool (rightL l)) ∧ ∃ q, w' = w.drewN q := by
  have hl := h.len
  have HL := Lib.hid hl
  have hN : (n : Int) ≤ 1000 := by omega
  have hC : (n : Int) ≤ (c : Int) := by omega
  have HP := Lib.hid (fun (b off j q : Nat) (e : A = some ⟨b, off, none⟩) (hj : j < n) => show I.Nums n₀ (w.drewN q) (.slice (some ⟨b, off, none⟩) j c) (l.take j) from by
    subst e
    have := h.part 0 j c (by omega)
    rw [Nat.add_zero, List.drop_zero] at this
    exact this)
  have H := Lib.hid h
  clear h hl
  go_enter Try.func26, Try.ntmps26
  go_wp2_with fail
  go_loopw [7] (fun x wr => ∃ j : Nat, j ≤ n ∧ x = .int .i64 j ∧ Hid (∀ i, i < j → rightN (l.getD i 0) = true ∧ (l.take i).contains (l.getD i 0) = false) ∧ ∃ q, wr = w.drewN q) (fun x _ => n - (intOf x).toNat)
  case atStart => exact ⟨0, Nat.zero_le _, rfl, fun i hi => absurd hi (Nat.not_lt_zero _), 0, rfl⟩
  case round =>
    obtain ⟨j, hj, rfl, hall, q, rfl⟩ := hrel
    have b0 : (0 : Int) ≤ (j : Int) := by omega
    by_cases hlt : j < n
    · obtain ⟨b, off, hA, hb, hcell⟩ := H.out.at hlt
      have b1 : (j : Int) < (n : Int) := by omega
      have b2 : (j : Int) ≤ (c : Int) := by omega
      have HSL := Lib.hid (HP.out b off j q hA hlt)
      subst hA
      have CO := Lib.hid (contains_any (l.getD j 0) (w.drewN q) HSL.out (by omega))
      have HST := Lib.hid (fun (e1 : rightN (l.getD j 0) = true) (e2 : (l.take j).contains (l.getD j 0) = false) => (show ∀ i, i < j + 1 → rightN (l.getD i 0) = true ∧ (l.take i).contains (l.getD i 0) = false from fun i hi => by
        by_cases h : i = j
        · rw [h]; exact ⟨e1, e2⟩
        · exact hall.out i (by omega)))
      have HNO := Lib.hid (fun (e : rightN (l.getD j 0) = false ∨ (l.take j).contains (l.getD j 0) = true) => rightL_no (l := l) (i := j) (by rw [← HL.out]; exact hlt) e)
      have HRN := Lib.hid (show rightN (l.getD j 0) = decide (2 ≤ l.getD j 0 ∧ l.getD j 0 < 64) from rfl)
      clear hb hall
      generalize (l.take j).contains (l.getD j 0) = k at *
      generalize rightN (l.getD j 0) = r at *
      generalize l.getD j 0 = x at *
      by_cases h1 : x < 2
      · have HR := Lib.hid (HNO.out (.inl (by rw [HRN.out]; exact decide_eq_false (by omega))))
        go_wp2_with fail
        go_ret
        exact ⟨by rw [HR.out]; rfl, q, rfl⟩
      · by_cases h2 : x ≥ 64
        · have HR := Lib.hid (HNO.out (.inl (by rw [HRN.out]; exact decide_eq_false (by omega))))
          go_wp2_with fail
          go_ret
          exact ⟨by rw [HR.out]; rfl, q, rfl⟩
        · have HR := Lib.hid (show r = true from by rw [HRN.out]; exact decide_eq_true (by omega))
          cases k with
          | true =>
            have HR2 := Lib.hid (HNO.out (.inr rfl))
            go_wp2_with fail
            refine CO.out.mono ?_; rintro e w1 ⟨rfl, q1, rfl⟩
            go_wp2_with fail
            go_ret
            exact ⟨by rw [HR2.out]; rfl, _, rfl⟩
          | false =>
            have HR2 := Lib.hid (HST.out HR.out rfl)
            go_wp2_with fail
            refine CO.out.mono ?_; rintro e w1 ⟨rfl, q1, rfl⟩
            go_wp2_with fail
            go_roundw
            case rel => exact ⟨j + 1, by omega, by go_num, HR2.out, _, rfl⟩
            case measure => simp [intOf]; omega
    · obtain rfl : n = j := by omega
      have HR := Lib.hid (rightL_iff.2 fun i hi => hall.out i (by rw [HL.out]; exact hi))
      clear hall
      go_wp2_with fail
      go_ret
      exact ⟨by rw [HR.out]; rfl, q, rfl⟩
theorem holdB_no {p : Pg} {m : Nat} (h : ¬ (p.k = 5 ∧ p.b.size = 240 ∧ p.b.data.toList.drop m = zs (240 - m))) : holdB p m = false := decide_eq_false h
set_option maxHeartbeats 1000000 in
theorem holds_any (k d x : Int) (s : ByteArray) (m : Nat) (hm : m ≤ 240) (w : World) : Calls Try.prog 31 #[pv k d x s, .int .i64 m] w fun e w' => e = .returned (.bool (holdB ⟨k, d, x, s⟩ m)) ∧ Below w.heap.size w w' := by
  have HB := Lib.hid ((Below.refl w.heap.size w).alloc (Nat.le_refl _) (.cells #[.int .i64 k, .int .i64 d, .int .i64 x, .string s] 26))
  have HP := Lib.hid (PBox.new w k d x s)
  unfold pv
  by_cases h1 : k = 5
  · subst h1
    by_cases h2 : s.size = 240
    · have hs : (s.size : Int) = 240 := by omega
      have e1 : IntKind.i64.wrap (240 - (m : Int)) = ((240 - m : Nat) : Int) := by rw [IntWalk.i64_in _ (by omega)]; omega
      have HSL := Lib.hid (fun (w : World) => (show (Instr.slice 9 (.string s) (some (.int .i64 (m : Int))) none none).run Try.prog w = .ok (.string (str (s.data.toList.drop m))) w from by
        rw [run_slice_string_l (P := Try.prog) w 9 s Try.underlying9 .i64 (m : Int) (by omega) (by omega), extract_str, Int.toNat_natCast, List.take_of_length_le (by rw [List.length_drop, size_data]; omega)]))
      have HR := Lib.hid (show holdB ⟨5, d, x, s⟩ m = decide (s.data.toList.drop m = zs (240 - m)) from by
        unfold holdB
        simp [h2])
      rw [HR.out]
      have BL := Lib.hid (fun w => blank_any (240 - m) (by omega) w)
      have SB := Lib.hid (str_beq (s.data.toList.drop m) (zs (240 - m)))
      generalize decide (s.data.toList.drop m = zs (240 - m)) = r at *
      generalize str (s.data.toList.drop m) = u at *
      generalize str (zs (240 - m)) = z at *
      clear HR h2 hm
      go_enter Try.func31, Try.ntmps31
      go_upto_region 1 with fail
      generalize w.alloc (.cells #[.int .i64 5, .int .i64 d, .int .i64 x, .string s] 26) = W at *
      obtain ⟨P, hP⟩ : ∃ P, P = w.heap.size := ⟨_, rfl⟩
      rw [← hP] at HP ⊢
      clear hP
      obtain ⟨x0, x1, x2, x3⟩ := HP.out.cells
      have X0 := fun r (h : Held W r) => h.cell x0
      have X3 := fun r (h : Held W r) => h.cell x3
      have SL := HSL.out
      have sb := SB.out
      clear x0 x1 x2 x3
      go_region_held3 (fun w' => Held W w') (first | assumption | exact Held.start _ | exact Held.step (by assumption) (by assumption)) (first | (go_at_call 28; refine (BL.out _).mono ?_; rintro e u ⟨rfl, hb⟩))
      rename_i hHeld
      go_wp2_with fail
      go_ret
      exact ⟨rfl, HB.out.trans (Below.mono hHeld HB.out.size)⟩
    · have hs : ((s.size : Int) == 240) = false := by rw [beq_eq_false_iff_ne]; omega
      have hs2 : ¬ (s.size : Int) = 240 := by omega
      rw [holdB_no (p := ⟨5, d, x, s⟩) (m := m) (fun h => h2 h.2.1)]
      go_enter Try.func31, Try.ntmps31
      go_upto_region 1 with fail
      generalize w.alloc (.cells #[.int .i64 5, .int .i64 d, .int .i64 x, .string s] 26) = W at *
      obtain ⟨P, hP⟩ : ∃ P, P = w.heap.size := ⟨_, rfl⟩
      rw [← hP] at HP ⊢
      clear hP
      obtain ⟨x0, x1, x2, x3⟩ := HP.out.cells
      go_quiet (fail)
      go_wp2_with fail
      go_ret
      exact ⟨rfl, below_drewN HB.out nq⟩
  · have hk : (k == 5) = false := by rw [beq_eq_false_iff_ne]; exact h1
    rw [holdB_no (p := ⟨k, d, x, s⟩) (m := m) (fun h => h1 h.1)]
    go_enter Try.func31, Try.ntmps31
    go_upto_region 1 with fail
    generalize w.alloc (.cells #[.int .i64 k, .int .i64 d, .int .i64 x, .string s] 26) = W at *
    obtain ⟨P, hP⟩ : ∃ P, P = w.heap.size := ⟨_, rfl⟩
    rw [← hP] at HP ⊢
    clear hP
    obtain ⟨x0, x1, x2, x3⟩ := HP.out.cells
    go_quiet (fail)
    go_wp2_with fail
    go_ret
    exact ⟨rfl, below_drewN HB.out nq⟩
end Go.Proofs.Ytoladghpoddlgaa
