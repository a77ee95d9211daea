/- The contracts of ascending and of Fits. -/
import Derived.Test.YtljegjcajlkgiaaGreatSort
import Derived.Deep.RegionHeld3
namespace Go.Proofs.YtljegjcajlkgiaaGreat
open Go.ChangeShapes Go.WideShapes Go.ChangeAt Go.RowKit Go.Shelf
set_option linter.unusedVariables false
set_option linter.unusedSimpArgs false
set_option maxRecDepth 100000
theorem below_grow {w w' : World} (h : ∃ q os', w' = Sort.grow (w.drewN q) os') : Below w.heap.size w w' := by
  obtain ⟨q, os, rfl⟩ := h
  refine ⟨rfl, rfl, rfl, by simp [Sort.grow], fun k hk => ?_⟩
  exact Sort.heap_grow_old (w.drewN q) os (by simpa using hk)
theorem byKey_below (x y : Ce) (w : World) : Calls Tryz.prog 105 #[cvC x, cvC y] w fun e w' => e = .returned (.int .i64 (cmpK x y)) ∧ Below w.heap.size w w' :=
  (byKey_any x y w).mono fun e w' ⟨he, hw⟩ => ⟨he, below_grow hw⟩
theorem lt_of_cmp {x y : Ce} (h : cmpK x y < 0) : ltK x y = true := decide_eq_true h
theorem not_lt_of_cmp {x y : Ce} (h : ¬ cmpK x y < 0) : ltK x y = false := decide_eq_false h
set_option maxHeartbeats 1000000 in
theorem asc_walk {C n c : Nat} {A : Option Addr} {l : List Ce} (w : World) (h : Ces C w A l) (hn : l.length = n) (hm : n ≤ 1000000) (hC : C ≤ w.heap.size) :
    Calls Tryz.prog 81 #[.slice A n c] w fun e w' => e = .returned (.bool (risesB l)) ∧ Below w.heap.size w w' := by
  have HP := Lib.hid h
  have HN := Lib.hid hn
  have HC := Lib.hid hC
  have hN : (n : Int) ≤ 1000000 := by omega
  clear h hn hC
  go_enter Tryz.func81, Tryz.ntmps81
  go_wp2_with fail
  go_loopw [3] (fun x wr => ∃ k : Nat, (k + 1 ≤ n ∨ k = 0) ∧ x = .int .i64 ((k + 1 : Nat) : Int) ∧ Hid (Below w.heap.size w wr ∧ ∀ j, j < k → ltK (l.getD j nilC) (l.getD (j + 1) nilC) = true)) (fun x _ => n - (intOf x).toNat)
  case atStart => exact ⟨0, .inr rfl, rfl, Below.refl _ _, fun j hj => by omega⟩
  case round =>
    obtain ⟨k, hk, rfl, hq⟩ := hrel
    have HQ := Lib.hid hq
    clear hq
    by_cases hlt : k + 1 < n
    · obtain ⟨b, off, rfl, hb, hp⟩ := HP.out.1 k (by rw [HN.out]; omega)
      obtain ⟨b2, off2, e2, hb2, hp2⟩ := HP.out.1 (k + 1) (by rw [HN.out]; omega)
      simp only [Option.some.injEq, Addr.mk.injEq, and_true] at e2
      obtain ⟨rfl, rfl⟩ := e2
      have hbel := HQ.out.out.1
      obtain ⟨c0, c1, c2, c3⟩ := hp.kept (w' := wr) (Nat.lt_of_lt_of_le hb HC.out) hbel
      obtain ⟨d0, d1, d2, d3⟩ := hp2.kept (w' := wr) (Nat.lt_of_lt_of_le hb HC.out) hbel
      have C0 := fun r (h : Held wr r) => h.cell c0
      have C1 := fun r (h : Held wr r) => h.cell c1
      have C2 := fun r (h : Held wr r) => h.cell c2
      have C3 := fun r (h : Held wr r) => h.cell c3
      have D0 := fun r (h : Held wr r) => h.cell d0
      have D1 := fun r (h : Held wr r) => h.cell d1
      have D2 := fun r (h : Held wr r) => h.cell d2
      have D3 := fun r (h : Held wr r) => h.cell d3
      clear hbel c0 c1 c2 c3 d0 d1 d2 d3 hb hb2 hp hp2
      have BK := Lib.hid (fun r => byKey_below (l.getD k nilC) (l.getD (k + 1) nilC) r)
      have HL := Lib.hid (fun (h : cmpK (l.getD k nilC) (l.getD (k + 1) nilC) < 0) => show ∀ j, j < k + 1 → ltK (l.getD j nilC) (l.getD (j + 1) nilC) = true from fun j hj => by
        by_cases e : j < k
        · exact HQ.out.out.2 j e
        · obtain rfl : j = k := by omega
          exact lt_of_cmp h)
      have HNL := Lib.hid (fun h => rises_no (l := l) (j := k) (by rw [HN.out]; exact hlt) (not_lt_of_cmp h))
      generalize l.getD k nilC = x at *
      generalize l.getD (k + 1) nilC = y at *
      unfold cvC cv at BK
      generalize cmpK x y = r at *
      have b1 : ((k + 1 : Nat) : Int) < (n : Int) := by omega
      have b2 : (0 : Int) ≤ (k : Int) := by omega
      have b3 : IntKind.i64.wrap (((k + 1 : Nat) : Int) - 1) = (k : Int) := by rw [IntWalk.i64_in _ (by omega)]; omega
      have b4 : (k : Int) < (n : Int) := by omega
      have b5 : (0 : Int) ≤ ((k + 1 : Nat) : Int) := by omega
      have b6 : (((k + 1 : Nat) : Int)).toNat = k + 1 := by omega
      generalize ((k + 1 : Nat) : Int) = i at *
      go_wp2_with fail
      go_region_held3 (fun w' => Held wr w') (first | exact Held.start _ | exact Held.step (by assumption) (by assumption) | assumption) (first | (go_at_call 105; refine (BK.out _).mono ?_; rintro e u ⟨rfl, hb⟩))
      have HB2 := Lib.hid (HQ.out.out.1.trans (Below.mono ‹Held wr u› HQ.out.out.1.size))
      clear C0 C1 C2 C3 D0 D1 D2 D3 b3
      by_cases hr : r < 0
      · have hr' : ¬ 0 ≤ r := by omega
        go_wp2_with fail
        go_roundw
        case rel =>
          exact ⟨k + 1, by omega, by congr 1; omega, HB2.out, HL.out hr⟩
        case measure => simp [intOf]; omega
      · have hr' : 0 ≤ r := by omega
        go_wp2_with fail
        go_ret
        exact ⟨by rw [HNL.out (by omega)]; rfl, HB2.out⟩
    · have b1 : ¬ ((k + 1 : Nat) : Int) < (n : Int) := by omega
      generalize ((k + 1 : Nat) : Int) = i at *
      go_wp2_with fail
      go_ret
      exact ⟨by rw [rises_iff.2 (fun j hj => HQ.out.out.2 j (by rw [HN.out] at hj; omega))]; rfl, HQ.out.out.1⟩
theorem all_step {l : List Ce} {k : Nat} (hk : k < l.length) (h : ∀ c ∈ l.take k, c.Ok) (ho : (l.getD k nilC).Ok) : ∀ c ∈ l.take (k + 1), c.Ok := by
  rw [take_snoc l k hk]
  intro c hc
  rw [List.mem_append, List.mem_singleton] at hc
  rcases hc with hc | rfl
  · exact h c hc
  · exact ho
set_option maxHeartbeats 2000000 in
theorem fits_walk {C n c : Nat} {A : Option Addr} {l : List Ce} (w : World) (h : Ces C w A l) (hn : l.length = n) (hm : n ≤ 1000000) (hC : C ≤ w.heap.size) :
    Calls Tryz.prog 80 #[.slice A n c] w fun e w' => e = .returned (.bool (fitsB l)) ∧ Below w.heap.size w w' := by
  have HP := Lib.hid h
  have HN := Lib.hid hn
  have HC := Lib.hid hC
  have hN : (n : Int) ≤ 1000000 := by omega
  clear h hn hC
  go_enter Tryz.func80, Tryz.ntmps80
  go_wp2_with fail
  go_loopw [3, 9] (fun left x wr => ∃ k : Nat, k ≤ n ∧ x = .int .i64 k ∧ ∃ s : Nat, left = .int .i64 (239 - (s : Int)) ∧ Hid (s = sums (l.take k)) ∧ s ≤ 239 ∧ Hid (Below w.heap.size w wr ∧ ∀ c ∈ l.take k, c.Ok)) (fun _ x _ => n - (intOf x).toNat)
  case atStart => exact ⟨0, Nat.zero_le _, rfl, 0, rfl, rfl, by omega, Below.refl _ _, fun c hc => by simp at hc⟩
  case round =>
    obtain ⟨k, hk, rfl, s, rfl, hsum, hs, hq⟩ := hrel
    have HQ := Lib.hid hq
    have HS := Lib.hid hsum
    clear hq hsum
    by_cases hlt : k < n
    · obtain ⟨b, off, rfl, hb, hp⟩ := HP.out.1 k (by rw [HN.out]; omega)
      have hbel := HQ.out.out.1
      obtain ⟨c0, c1, c2, c3⟩ := hp.kept (w' := wr) (Nat.lt_of_lt_of_le hb HC.out) hbel
      clear hbel hb hp
      have RI := Lib.hid (fun r => right_any (l.getD k nilC).key (l.getD k nilC).val (l.getD k nilC).blob (l.getD k nilC).size r)
      have SI := Lib.hid (fun hk hv r => size_any (l.getD k nilC).key (l.getD k nilC).val (l.getD k nilC).blob (l.getD k nilC).size hk hv r)
      have HT := Lib.hid (sums_take l k (by rw [HN.out]; exact hlt))
      have HA := Lib.hid (fun ho => all_step (l := l) (k := k) (by rw [HN.out]; exact hlt) HQ.out.out.2 ho)
      have HNO := Lib.hid (fun (ho : ¬ (l.getD k nilC).Ok) => fits_no (l := l) fun h => ho (h.1 _ (getD_mem (by rw [HN.out]; exact hlt))))
      have HBIG := Lib.hid (fun (ho : 239 < sums (l.take (k + 1))) => fits_no (l := l) fun h => by have := sums_le l (k + 1); have := h.2.1; omega)
      unfold cv at RI SI
      generalize l.getD k nilC = x at *
      have b1 : (0 : Int) ≤ (k : Int) := by omega
      have b2 : (k : Int) < (n : Int) := by omega
      cases g : okC x with
      | false =>
        change Hid (∀ r, Calls _ _ _ _ (fun e w' => e = .returned (.bool (okC x)) ∧ _)) at RI
        rw [g] at RI
        have HG := Lib.hid (HNO.out (okC_no.1 g))
        clear HNO HBIG HA HT g
        have HB2 := Lib.hid (HQ.out.out.1.alloc HQ.out.out.1.size (.cells #[.string x.key, .string x.val, .int .i64 x.blob, .int .i64 x.size] 42))
        go_wp2_with fail
        refine (RI.out _).mono ?_; rintro e w1 ⟨rfl, hb⟩
        have HB3 := Lib.hid (HB2.out.trans (hb.mono HB2.out.size))
        clear hb HB2
        go_wp2_with fail
        go_ret
        exact ⟨by rw [HG.out]; rfl, HB3.out⟩
      | true =>
        change Hid (∀ r, Calls _ _ _ _ (fun e w' => e = .returned (.bool (okC x)) ∧ _)) at RI
        rw [g] at RI
        have ho := okC_iff.1 g
        have HO := Lib.hid (HA.out ho)
        have hz := size_ok ho
        have hkz : x.key.size ≤ maxLen / 4 := by have := ho.1; unfold maxLen; omega
        have hvz : x.val.size ≤ maxLen / 4 := by obtain ⟨_, h | h⟩ := ho <;> (unfold maxLen; omega)
        have SI2 := Lib.hid (SI.out hkz hvz)
        clear SI hkz hvz ho g HA HNO
        have HX := Lib.hid (Box.new wr (.string x.key) (.string x.val) (.int .i64 x.blob) (.int .i64 x.size))
        have HB2 := Lib.hid (HQ.out.out.1.alloc HQ.out.out.1.size (.cells #[.string x.key, .string x.val, .int .i64 x.blob, .int .i64 x.size] 42))
        change Hid (∀ r, Calls _ _ _ _ (fun e w' => e = .returned (.int .i64 (sizeC x : Nat)) ∧ _)) at SI2
        generalize sizeC x = z at *
        go_wp2_with fail
        obtain ⟨B, hB⟩ : ∃ B, B = wr.heap.size := ⟨_, rfl⟩
        rw [← hB] at HX ⊢
        clear hB
        generalize wr.alloc (.cells #[.string x.key, .string x.val, .int .i64 x.blob, .int .i64 x.size] 42) = W at *
        refine (RI.out _).mono ?_; rintro e w1 ⟨rfl, hb⟩
        have HX1 := Lib.hid (HX.out.kept hb)
        have HB3 := Lib.hid (HB2.out.trans (hb.mono HB2.out.size))
        clear hb HB2 HX c0 c1 c2 c3
        obtain ⟨x0, x1, x2, x3⟩ := HX1.out.cells
        go_wp2_with fail
        refine (SI2.out _).mono ?_; rintro e w2 ⟨rfl, hb⟩
        have HB4 := Lib.hid (HB3.out.trans (hb.mono HB3.out.size))
        clear hb HB3 HX1 x0 x1 x2 x3
        have e1 : IntKind.i64.wrap (239 - (s : Int) - (z : Int)) = 239 - (s : Int) - (z : Int) := IntWalk.i64_in _ (by omega)
        by_cases hs2 : s + z ≤ 239
        · have e2 : ¬ 239 - (s : Int) - (z : Int) < 0 := by omega
          go_wp2_with fail
          go_roundw
          case rel => exact ⟨k + 1, by omega, by go_num, s + z, by congr 1; omega, by rw [HT.out, HS.out]; rfl, hs2, HB4.out, HO.out⟩
          case measure => simp [intOf]; omega
        · have e2 : 239 - (s : Int) - (z : Int) < 0 := by omega
          have HG := Lib.hid (HBIG.out (by rw [HT.out, ← (show s = sums (l.take k) from HS.out)]; omega))
          go_wp2_with fail
          go_ret
          exact ⟨by rw [HG.out]; rfl, HB4.out⟩
    · obtain rfl : k = n := by omega
      have b1 : ¬ (k : Int) < (k : Int) := by omega
      have hall : l.take k = l := List.take_of_length_le (by rw [HN.out]; exact Nat.le_refl _)
      have hok : ∀ c ∈ l, c.Ok := by have := HQ.out.out.2; rwa [hall] at this
      have hsum : s = sums l := by have : s = sums (l.take k) := HS.out; rwa [hall] at this
      have HF := Lib.hid (show fitsB l = decide (keysOf l).Nodup from by
        unfold fitsB
        rw [List.all_eq_true.2 (fun c hc => okC_iff.2 (hok c hc)), decide_eq_true (show 1 + sums l ≤ 240 by omega)]
        rfl)
      have CL := Lib.hid (clone_cells (c := c) wr (HP.out.kept (HQ.out.out.1.mono HC.out)) HN.out hm (Nat.le_trans HC.out HQ.out.out.1.size))
      have HSZ := Lib.hid (show ∀ p ∈ l, p.key.size ≤ maxLen ∧ p.val.size ≤ maxLen from HP.out.2.1)
      clear hall hok hsum
      go_wp2_with fail
      refine (CL.out).mono ?_; rintro e w1 ⟨A2, c2, rfl, hown, hb⟩
      have HB2 := Lib.hid (HQ.out.out.1.trans (hb.mono HQ.out.out.1.size))
      have SO := Lib.hid (sort_any w1 hown HN.out HSZ.out hm hb.size)
      have HS2 := Lib.hid hb.size
      have HS1 := Lib.hid HQ.out.out.1.size
      clear hown hb
      go_wp2_with fail
      refine (SO.out).mono ?_; rintro e w2 ⟨rfl, ⟨m, hm1, hm2, hm3⟩, hb⟩
      have HB3 := Lib.hid (HB2.out.trans (hb.mono HS1.out))
      have HR := Lib.hid (rises_sorted hm1 hm2)
      have AS := Lib.hid (asc_walk (c := c2) w2 hm3 (hm1.length_eq.trans HN.out) hm (Nat.le_refl _))
      clear hb hm1 hm2 hm3
      go_wp2_with fail
      refine (AS.out).mono ?_; rintro e w3 ⟨rfl, hb⟩
      have HB4 := Lib.hid (HB3.out.trans (hb.mono HB3.out.size))
      clear hb
      go_wp2_with fail
      go_ret
      exact ⟨by rw [HF.out, ← HR.out]; rfl, HB4.out⟩
end Go.Proofs.YtljegjcajlkgiaaGreat
