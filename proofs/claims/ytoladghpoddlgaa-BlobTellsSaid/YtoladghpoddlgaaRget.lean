/- The contract of the document's own Get. -/
import Derived.Test.YtoladghpoddlgaaGet
import Derived.Test.YtoladghpoddlgaaZeros
namespace Go.Proofs.Ytoladghpoddlgaa
open Go.ChangeShapes Go.WideShapes Go.ChangeAt Go.RowKit
set_option linter.unusedVariables false
set_option linter.unusedSimpArgs false
set_option maxRecDepth 100000
theorem holdB_eq (p : Pg) (n : Nat) : holdB p n = ((p.k == 5) && ((((p.b.size : Nat) : Int) == 240) && decide (p.b.data.toList.drop n = zs (240 - n)))) := by
  unfold holdB
  by_cases h1 : p.k = 5
  · by_cases h2 : p.b.size = 240
    · have h3 : (((p.b.size : Nat) : Int) == 240) = true := by rw [beq_iff_eq]; omega
      rw [h3]
      simp [h1, h2]
    · have h3 : (((p.b.size : Nat) : Int) == 240) = false := by rw [beq_eq_false_iff_ne]; omega
      rw [h3]
      simp [h1, h2]
  · simp [h1]
theorem last_eq (i m : Nat) (x : Int) : (decide ((i + 1 = m) ↔ x = 0)) = ((x == 0) == ((i : Int) + 1 == (m : Int))) := by
  by_cases h1 : i + 1 = m
  · have h3 : ((i : Int) + 1 == (m : Int)) = true := by rw [beq_iff_eq]; omega
    rw [h3]
    by_cases h2 : x = 0 <;> simp [h1, h2]
  · have h3 : ((i : Int) + 1 == (m : Int)) = false := by rw [beq_eq_false_iff_ne]; omega
    rw [h3]
    by_cases h2 : x = 0 <;> simp [h1, h2]
def CutG (ok : Bool) (wr : World) (z : Value) (wx : World) : Prop := z = .bool (!ok) ∧ Below wr.heap.size wr wx
theorem CutG.mk {ok : Bool} {wr wx : World} {t : Bool} (h : ok = !t) (hb : Below wr.heap.size wr wx) : CutG ok wr (.bool t) wx := ⟨by rw [h, Bool.not_not], hb⟩
set_option maxHeartbeats 4000000 in
theorem rget_any {C : Nat} {A : Option Addr} {m c : Nat} {l : List Pg} (n : Int) (w : World) (h : Pgs C w A l) (hC : C ≤ w.heap.size) (hm : l.length = m) (hm2 : m ≤ 1000) (hn : -9223372036854775808 ≤ n ∧ n ≤ 9223372036854775807) : Calls Try.prog 14 #[.int .i64 n, .slice A m c] w fun e w' => GetP n l w e w' := by
  have EN := Lib.hid (fun w => rpages_any n w)
  cases hf : fitN n m with
  | false =>
    have HN := Lib.hid (fun w' (hb : Below w.heap.size w w') => GetP.no (getOk_fits (n := n) (l := l) (by rw [hm]; exact hf)) hb)
    by_cases h0 : pagesN n = 0
    · rw [h0] at EN
      clear h hf hm h0
      go_enter Try.func14, Try.ntmps14
      go_wp2_with fail
      refine (EN.out _).mono ?_; rintro q w1 ⟨rfl, rfl⟩
      go_wp2_with fail
      go_ret2
      exact HN.out _ (Below.refl _ _)
    · have h1 : pagesN n ≠ m := fun e => by
        rw [fitN_iff.2 ⟨by omega, e⟩] at hf
        cases hf
      have b1 : (((pagesN n : Nat) : Int) == 0) = false := by rw [beq_eq_false_iff_ne]; omega
      have b2 : (((pagesN n : Nat) : Int) != (m : Int)) = true := by rw [bne_iff_ne]; omega
      generalize ((pagesN n : Nat) : Int) = pn at *
      clear h hf hm h0 h1
      go_enter Try.func14, Try.ntmps14
      go_wp2_with fail
      refine (EN.out _).mono ?_; rintro q w1 ⟨rfl, rfl⟩
      go_wp2_with fail
      refine (EN.out _).mono ?_; rintro q w1 ⟨rfl, rfl⟩
      go_wp2_with fail
      go_ret2
      exact HN.out _ (Below.refl _ _)
  | true =>
    have HNO := Lib.hid (fun i (hi : i < m) (e : okAt n l i = false) w' (hb : Below w.heap.size w w') => GetP.no (getOk_not (n := n) (l := l) (i := i) (by rw [hm]; exact hi) e) hb)
    have HY := Lib.hid (fun w' (ho : ∀ j, j < m → okAt n l j = true) (hb : Below w.heap.size w w') => GetP.yes hm hf ho hb)
    have HP := Lib.hid (fun w' (hb : Below w.heap.size w w') => h.kept (hb.mono hC))
    have HBL := Lib.hid (fun i (hi : i ≤ m) (ho : ∀ j, j < i → okAt n l j = true) => bytesL_length (n := n) (l := l) (by rw [hm]; exact hf) i (by rw [hm]; exact hi) ho)
    have HM := Lib.hid hm
    have HFI := Lib.hid (fitN_is hf)
    have hpg : pagesN n = m := (fitN_iff.1 hf).2
    rw [hpg] at EN
    have b3 : ((m : Int) == 0) = false := by rw [beq_eq_false_iff_ne]; rcases HFI.out with ⟨e, _⟩ | ⟨e, _⟩ <;> omega
    clear h hf hm hpg
    have HB0 := Lib.hid (Below.refl w.heap.size w)
    have HS0 := Lib.hid (show (ByteArray.mk #[]) = str (bytesL n l 0) from rfl)
    go_enter Try.func14, Try.ntmps14
    go_wp2_with fail
    refine (EN.out _).mono ?_; rintro q w1 ⟨rfl, rfl⟩
    go_wp2_with fail
    refine (EN.out _).mono ?_; rintro q w1 ⟨rfl, rfl⟩
    go_wp2_with fail
    go_loopw [6, 7] (fun u y wr => ∃ i : Nat, i ≤ m ∧ u = .string (str (bytesL n l i)) ∧ y = .int .i64 i ∧ Hid (Below w.heap.size w wr ∧ ∀ j, j < i → okAt n l j = true)) (fun _ y _ => m - (intOf y).toNat)
    case atStart => exact ⟨0, Nat.zero_le _, by rw [← HS0.out], rfl, HB0.out, fun j hj => absurd hj (Nat.not_lt_zero _)⟩
    case round =>
      obtain ⟨i, hi, rfl, rfl, hq⟩ := hrel
      have HQ := Lib.hid hq.out
      clear hq
      have b0 : (0 : Int) ≤ (i : Int) := by omega
      by_cases hlt : i < m
      · have b1 : (i : Int) < (m : Int) := by omega
        obtain ⟨b, off, rfl, hb, p0, p1, p2, p3⟩ := (HP.out wr HQ.out.1).1 i (by rw [HM.out]; exact hlt)
        have HOK := Lib.hid (show okAt n l i = (decide ((i + 1 = m) ↔ (l.getD i nilP).x = 0) && holdB (l.getD i nilP) (hereN n i)) from by unfold okAt; rw [HM.out])
        have HNO1 := Lib.hid (HNO.out i hlt)
        have HST := Lib.hid (fun (e : okAt n l i = true) j (hj : j < i + 1) => show okAt n l j = true from by
          by_cases h : j = i
          · rw [h]; exact e
          · exact HQ.out.2 j (by omega))
        have HSU := Lib.hid (show str (bytesL n l (i + 1)) = str (bytesL n l i) ++ str ((l.getD i nilP).b.data.toList.take (hereN n i)) from by rw [bytesL_succ, str_join])
        have hlen := HBL.out i hi HQ.out.2
        have hhe : hereN n i = min (n.toNat - 200 * i) 200 := rfl
        have hx := HFI.out
        have HLE := Lib.hid (show hereN n i ≤ 200 from by omega)
        have e1 : IntKind.i64.wrap ((i : Int) * 200) = (i : Int) * 200 := IntWalk.i64_in _ (by omega)
        have e2 : IntKind.i64.wrap (n - (i : Int) * 200) = n - (i : Int) * 200 := IntWalk.i64_in _ (by omega)
        have e3 : min 200 (n - (i : Int) * 200) = ((hereN n i : Nat) : Int) := by omega
        have e4 : IntKind.i64.wrap ((i : Int) + 1) = (i : Int) + 1 := IntWalk.i64_in _ (by omega)
        have e5 : IntKind.i64.wrap (240 - ((hereN n i : Nat) : Int)) = ((240 - hereN n i : Nat) : Int) := by rw [IntWalk.i64_in _ (by omega)]; omega
        have hss : ¬ 9223372036854775807 < (str (bytesL n l i)).size + (str ((l.getD i nilP).b.data.toList.take (hereN n i))).size := by
          rw [str_size, str_size, List.length_take]; omega
        have ZE := Lib.hid (fun w => zeros_ok (240 - hereN n i) (by omega) w)
        clear HBL hx hlen hhe
        have HTK := Lib.hid (fun (hs : (l.getD i nilP).b.size = 240) => get_take (l.getD i nilP).b (hereN n i) (by have := HLE.out; omega))
        have HDR := Lib.hid (fun (hs : (l.getD i nilP).b.size = 240) (w : World) => (show (Instr.slice 9 (.string (l.getD i nilP).b) (some (.int .i64 (hereN n i : Nat))) none none).run Try.prog w = .ok (.string (str ((l.getD i nilP).b.data.toList.drop (hereN n i)))) w from by
          have := HLE.out
          rw [run_slice_string_l (P := Try.prog) w 9 (l.getD i nilP).b Try.underlying9 .i64 (hereN n i : Nat) (by omega) (by omega), extract_str, Int.toNat_natCast, List.take_of_length_le (by rw [List.length_drop, size_data]; omega)]))
        have HBQ := Lib.hid (str_beq ((l.getD i nilP).b.data.toList.drop (hereN n i)) (zs (240 - hereN n i)))
        have HHB := Lib.hid (show holdB (l.getD i nilP) (hereN n i) = (((l.getD i nilP).k == 5) && (((((l.getD i nilP).b.size : Nat) : Int) == 240) && decide ((l.getD i nilP).b.data.toList.drop (hereN n i) = zs (240 - hereN n i)))) from holdB_eq _ _)
        generalize str ((l.getD i nilP).b.data.toList.drop (hereN n i)) = sdr at *
        generalize decide ((l.getD i nilP).b.data.toList.drop (hereN n i) = zs (240 - hereN n i)) = te at *
        generalize str (zs (240 - hereN n i)) = sz at *
        obtain ⟨s2, hs2⟩ : ∃ s2, s2 = str (bytesL n l (i + 1)) := ⟨_, rfl⟩
        rw [← hs2] at HSU
        have HS2 := Lib.hid hs2
        clear hs2
        generalize str (bytesL n l i) = s1 at *
        generalize str ((l.getD i nilP).b.data.toList.take (hereN n i)) = stk at *
        generalize holdB (l.getD i nilP) (hereN n i) = hh at *
        generalize okAt n l i = ok at *
        generalize 240 - hereN n i = zr at *
        generalize hereN n i = r at *
        generalize (l.getD i nilP).k = pk at *
        generalize (l.getD i nilP).d = pd at *
        have HLX := Lib.hid (show (decide ((i + 1 = m) ↔ (l.getD i nilP).x = 0)) = (((l.getD i nilP).x == 0) == ((i : Int) + 1 == (m : Int))) from last_eq _ _ _)
        rw [HLX.out] at HOK
        clear HLX
        generalize (l.getD i nilP).x = px at *
        generalize (l.getD i nilP).b = pb at *
        clear hb
        go_upto_region 8 with fail
        go_cut [71] (fun z wx => CutG ok wr z wx)
        case first =>
          have HC1 := Lib.hid (fun wx (h : ok = false) (hb : Below wr.heap.size wr wx) => CutG.mk (ok := ok) (t := true) h hb)
          have HC2 := Lib.hid (fun wx (h : ok = true) (hb : Below wr.heap.size wr wx) => CutG.mk (ok := ok) (t := false) h hb)
          have HBR := Lib.hid (Below.refl wr.heap.size wr)
          by_cases h1 : pk = 5
          · subst h1
            by_cases h2 : pb.size = 240
            · have hs : (pb.size : Int) = 240 := by omega
              have HH2 := Lib.hid (show hh = te from by rw [HHB.out, hs]; rfl)
              have HS240 := Lib.hid h2
              obtain ⟨xa, hxa⟩ : ∃ xa, (px == 0) = xa := ⟨_, rfl⟩
              obtain ⟨la, hla⟩ : ∃ la, ((i : Int) + 1 == (m : Int)) = la := ⟨_, rfl⟩
              rw [hxa, hla] at HOK
              by_cases h3 : xa = la
              · have HOK3 := Lib.hid (show ok = te from by rw [HOK.out, h3, HH2.out]; simp)
                subst h3
                have SD := HDR.out h2
                have sb := HBQ.out
                have X0 := fun r (h : Held wr r) => h.cell p0
                have X2 := fun r (h : Held wr r) => h.cell p2
                have X3 := fun r (h : Held wr r) => h.cell p3
                clear h2 HNO1 HST HSU HS2 HTK HDR HHB HOK HH2 HQ HP HBQ p0 p1 p2 p3 hss
                go_region_held3 (fun w' => Held wr w') (first | assumption | exact Held.start _ | exact Held.step (by assumption) (by assumption)) (first | (go_at_call 22; refine (ZE.out _).mono ?_; rintro e u ⟨rfl, hb⟩))
                rename_i hHeld
                have HC3 := Lib.hid (show CutG ok wr (.bool (!te)) u from CutG.mk (by rw [HOK3.out, Bool.not_not]) hHeld)
                go_wp2_with fail
                go_meet
                exact HC3.out
              · have HOK3 := Lib.hid (show ok = false from by rw [HOK.out, beq_eq_false_iff_ne.2 h3]; rfl)
                have hlx2 : (xa != la) = true := bne_iff_ne.2 h3
                clear h2 HOK
                go_quiet (fail)
                go_wp2_with fail
                go_meet
                exact HC1.out _ HOK3.out (below_drewN HBR.out _)
            · have hs : ((pb.size : Int) == 240) = false := by rw [beq_eq_false_iff_ne]; omega
              have hs2 : ((pb.size : Int) != 240) = true := by rw [bne_iff_ne]; omega
              have HOK3 := Lib.hid (show ok = false from by rw [HOK.out, HHB.out, hs]; simp)
              clear HOK HHB
              go_quiet (fail)
              go_wp2_with fail
              go_meet
              exact HC1.out _ HOK3.out (below_drewN HBR.out _)
          · have h1' : (pk == 5) = false := beq_eq_false_iff_ne.2 h1
            have h1'' : (pk != 5) = true := bne_iff_ne.2 h1
            have HOK3 := Lib.hid (show ok = false from by rw [HOK.out, HHB.out, h1']; simp)
            clear HOK HHB
            go_quiet (fail)
            go_wp2_with fail
            go_meet
            exact HC1.out _ HOK3.out (below_drewN HBR.out _)
        case rest =>
          obtain ⟨rfl, hbc⟩ := hcut
          have HB1 := Lib.hid (HQ.out.1.trans (hbc.mono HQ.out.1.size))
          have q3 := (Held.cell (X := wr) (w := wc) hbc p3)
          clear hbc p0 p1 p2 p3
          cases ok with
          | false =>
            have HZ := Lib.hid (HNO1.out rfl wc HB1.out)
            go_wp2_with fail
            go_ret2
            exact HZ.out
          | true =>
            have HS1 := Lib.hid (HST.out rfl)
            have tk := HTK.out (by
              have h1 := HOK.out
              rw [HHB.out] at h1
              have h2 := h1.symm
              simp only [Bool.and_eq_true, beq_iff_eq] at h2
              have := h2.2.2.1
              omega)
            clear HOK HHB HTK HDR
            go_wp2_with fail
            go_roundw
            case rel => exact ⟨i + 1, by omega, by rw [← HS2.out, HSU.out], by go_num, HB1.out, HS1.out⟩
            case measure => simp [intOf]; omega
      · obtain rfl : m = i := by omega
        have HX := Lib.hid (HY.out wr HQ.out.2 HQ.out.1)
        go_wp2_with fail
        go_ret2
        exact HX.out
end Go.Proofs.Ytoladghpoddlgaa
