/- The contracts of eachSector and of Scan. -/
import Derived.Test.YtbdpmfgphhgigaaGreatSector
namespace Go.Proofs.YtbdpmfgphhgigaaGreat
open Go.ChangeShapes Go.WideShapes Go.ChangeAt Go.RowKit
set_option linter.unusedVariables false
set_option linter.unusedSimpArgs false
set_option maxRecDepth 100000
theorem RelS.relx {s : Sc} {r : Rd} {x : Sx} (h : RelS s r) (hf : x.fr = true ∨ s ≠ sc0) : RelX (startR x r) := by
  cases hfr : x.fr with
  | true =>
    unfold startR
    rw [hfr, if_pos rfl]
    exact ⟨r.out, [], false, rfl, .inl ⟨rfl, rfl, rfl⟩⟩
  | false =>
    unfold startR
    rw [hfr, if_neg (by simp)]
    rcases hf with hf | hf
    · rw [hfr] at hf; cases hf
    · rcases h.2.2 with ⟨h0, _⟩ | h0
      · exact absurd h0 hf
      · exact ⟨_, _, _, h0⟩
theorem RelS.out {s : Sc} {r : Rd} (h : RelS s r) : r.out = s.out := by
  rcases h.2.2 with ⟨rfl, rfl⟩ | h
  · rfl
  · exact h.1
theorem RdZ.held {n₀ B : Nat} {w w' : World} {x : Sx} {r : Rd} (h : RdZ n₀ w B x r) (hb : Below w.heap.size w w') : RdZ n₀ w' B x r := by
  obtain ⟨vr, vb, h1, h2, h3, h4⟩ := h
  exact ⟨vr, vb, h1.held hb, h2.kept hb, owns_kept2 h3 fun g hg => hb.block g (h3.lt g hg).2, h4⟩
theorem RdZ.lt {n₀ B : Nat} {w : World} {x : Sx} {r : Rd} (h : RdZ n₀ w B x r) : B < w.heap.size := by
  obtain ⟨vr, vb, h1, _⟩ := h
  exact h1.lt
theorem RdZ.other {n₀ B L : Nat} {w w' : World} {x p : Sx} {r : Rd} (h : RdZ n₀ w B x r) (hl : Sb w L p) (hb : But L w w') : RdZ n₀ w' B x r := by
  obtain ⟨vr, vb, h1, h2, h3, h4⟩ := h
  refine ⟨vr, vb, (hb.block B ?_).trans h1, owns_kept2 h2 fun g hg => hb.block g (row_other h2 hl (by decide) g hg), owns_kept2 h3 fun g hg => hb.block g (row_other h3 hl (by decide) g hg), h4⟩
  rintro rfl
  unfold Bx at h1
  unfold Sb Bx at hl
  rw [h1] at hl
  simp at hl
/-- Between two sectors. -/
def ScI (n₀ B L : Nat) (w : World) (l : List BA) (k : Nat) (wr : World) : Prop :=
  ∃ y r p, RdZ n₀ wr B y r ∧ RelS (scanX 0 sc0 (l.take k)) r ∧ AccTo 0 sc0 l k ∧ Sb wr L p ∧ p.ep = (scanX 0 sc0 (l.take k)).last ∧ r.out.length ≤ 56 * k ∧ Below n₀ w wr ∧ (0 < k → 1 ≤ (scanX 0 sc0 (l.take k)).last)
def EachP (n₀ B : Nat) (w : World) (l : List BA) (e : Ending) (w' : World) : Prop := e = .returned (.tuple #[]) ∧ ∃ y r, RdZ n₀ w' B y r ∧ RelS (scan l) r ∧ Below n₀ w w'
theorem EachP.stop {n₀ B L : Nat} {w wr w' : World} {l : List BA} {k : Nat} (h : ScI n₀ B L w l k wr) (hk : k < l.length) (ha : accX k (scanX 0 sc0 (l.take k)).last (l.getD k []) = false) (hb : Below wr.heap.size wr w') : EachP n₀ B w l (.returned (.tuple #[])) w' := by
  obtain ⟨y, r, p, h1, h2, h3, h4, h5, h6, h7, h8⟩ := h
  have e : scan l = scanX 0 sc0 (l.take k) := by
    have hs : scanX 0 sc0 (l.take k ++ l.drop k) = scanX (0 + (l.take k).length) (scanX 0 sc0 (l.take k)) (l.drop k) := scan_to (take_acc h3 (by omega))
    rw [List.take_append_drop] at hs
    unfold scan
    rw [hs, List.length_take, Nat.min_eq_left (by omega), Nat.zero_add]
    have hd : l.drop k = l.getD k [] :: l.drop (k + 1) := by
      rw [getD_at hk, List.drop_eq_getElem_cons hk]
    rw [hd]
    exact acc_stop ha
  refine ⟨rfl, y, r, h1.held hb, by rw [e]; exact h2, h7.trans (hb.mono ?_)⟩
  have := h1.lt
  obtain ⟨_, _, _, _, _, h9⟩ := h1
  omega
theorem EachP.fin {n₀ B L : Nat} {w wr : World} {l : List BA} (h : ScI n₀ B L w l l.length wr) : EachP n₀ B w l (.returned (.tuple #[])) wr := by
  obtain ⟨y, r, p, h1, h2, h3, h4, h5, h6, h7, h8⟩ := h
  rw [List.take_of_length_le (Nat.le_refl _)] at h2
  exact ⟨rfl, y, r, h1, h2, h7⟩
theorem ok_got {b : BA} (h : getOkX b = true) : okX (gotX b) = true := by
  unfold gotX
  rw [if_pos h]
  exact (getOkX_iff.1 h).1
theorem ScI.next {n₀ B L : Nat} {w wr w5 : World} {l : List BA} {k : Nat} {r : Rd} {p : Sx} (hk : k < l.length) (h2 : RelS (scanX 0 sc0 (l.take k)) r) (h3 : AccTo 0 sc0 l k) (h6 : r.out.length ≤ 56 * k)
    (ha : accX k (scanX 0 sc0 (l.take k)).last (l.getD k []) = true) (hf : (gotX (l.getD k [])).fr = true ∨ scanX 0 sc0 (l.take k) ≠ sc0) (hz : RdZ n₀ w5 B (gotX (l.getD k [])) (foldR (gotX (l.getD k [])) (startR (gotX (l.getD k [])) r) (gotX (l.getD k [])).pl)) (hs : Sb w5 L p) (hL : n₀ ≤ L) (hb : Below n₀ w w5) :
    ScI n₀ B L w l (k + 1) ((((w5.setCell ⟨L, 0, none⟩ (.int .i64 (gotX (l.getD k [])).ep)).setCell ⟨L, 1, none⟩ (.int .i64 (gotX (l.getD k [])).ix)).setCell ⟨L, 2, none⟩ (.bool (gotX (l.getD k [])).fr)).setCell ⟨L, 3, none⟩ (.string (str (gotX (l.getD k [])).pl))) := by
  have hacc : accX (0 + k) (scanX 0 sc0 (l.take k)).last (l.getD k []) = true := by rw [Nat.zero_add]; exact ha
  have e := scan_snoc h3 hk hacc
  have hg : getOkX (l.getD k []) = true := by unfold accX at ha; rw [Bool.and_eq_true] at ha; exact ha.1
  have hix : (gotX (l.getD k [])).ix = ((0 + k : Nat) : Int) := by
    unfold accX at ha
    simp only [Bool.and_eq_true, decide_eq_true_eq] at ha
    rw [Nat.zero_add]; exact ha.2.1
  have hx := okX_iff.1 (ok_got hg)
  generalize hbe : l.getD k [] = b at *
  have hbut := ((((But.refl L w5).set 0 (.int .i64 (gotX b).ep)).set 1 (.int .i64 (gotX b).ix)).set 2 (.bool (gotX b).fr)).set 3 (.string (str (gotX b).pl))
  refine ⟨gotX b, _, gotX b, hz.other hs hbut, by rw [e]; exact h2.feed hix hf, ?_, Bx.set4 hs _ _ _ _, by rw [e]; rfl, ?_, hb.trans (hbut.below hL), fun _ => by rw [e]; exact hx.1⟩
  · intro j hj
    by_cases hjk : j < k
    · exact h3 j hjk
    · obtain rfl : j = k := by omega
      rw [hbe]; exact hacc
  · have h9 := fold_out (gotX b) (gotX b).pl (startR (gotX b) r)
    have hso : (startR (gotX b) r).out = r.out := by unfold startR; split <;> rfl
    rw [hso] at h9
    have := hx.2.2.2.2.2
    omega
theorem acc_iff (k : Nat) (p : Sx) (s : Sc) (b : BA) (hp : p.ep = s.last) : accX k s.last b = (getOkX b && (decide ((gotX b).ix = k) && folB (gotX b) p)) := by
  unfold accX folB
  rw [hp]
  cases getOkX b <;> cases decide ((gotX b).ix = (k : Int)) <;> cases decide (s.last ≤ (gotX b).ep) <;> cases decide ((gotX b).ep = s.last) <;> cases (gotX b).fr <;> rfl
set_option maxHeartbeats 8000000 in
theorem each_any {C n₀ B n c : Nat} {A : Option Addr} {l : List BA} {w : World} {y : Sx} (h : Txt C w A n l) (hC : C ≤ n₀) (hn : n ≤ 1000) (hz : RdZ n₀ w B y rd0) : Calls Tryz.prog 36 #[.slice A n c, .func (.func 37) #[ptr B] #[]] w fun e w' => EachP n₀ B w l e w' := by
  have H1 := Lib.hid h
  have HN := Lib.hid h.1
  have hBl := hz.lt
  have hB : n₀ ≤ B := by obtain ⟨_, _, _, _, _, h9⟩ := hz; exact h9
  have HST := Lib.hid (show ScI n₀ B w.heap.size w l 0 (w.alloc (.cells (svs nilX) 23)) from ⟨y, rd0, nilX, hz.held ((Below.refl _ _).alloc (Nat.le_refl _) _), RelS.zero, fun j hj => absurd hj (Nat.not_lt_zero _), Sb.new w nilX, rfl, Nat.zero_le _, (Below.refl _ _).alloc (by omega) _, fun h => absurd h (Nat.lt_irrefl _)⟩)
  have HL := Lib.hid (show n₀ ≤ w.heap.size by omega)
  clear h hz
  go_enter Tryz.func36, Tryz.ntmps36
  go_wp2_with fail
  go_loopw [11] (fun i wr => ∃ k : Nat, k ≤ n ∧ i = .int .i64 k ∧ Hid (ScI n₀ B w.heap.size w l k wr)) (fun i _ => n - (intOf i).toNat)
  case atStart => exact ⟨0, Nat.zero_le _, rfl, HST.out⟩
  case round =>
    obtain ⟨k, hk, rfl, hq⟩ := hrel
    have HQ := Lib.hid hq.out
    clear hq HST
    have b0 : (0 : Int) ≤ (k : Int) := by omega
    by_cases hlt : k < n
    · have hkl : k < l.length := by rw [HN.out]; exact hlt
      have b1 : (k : Int) < (n : Int) := by omega
      obtain ⟨b, off, rfl, hbC, c00, hmx⟩ := H1.out.2.2 k hlt
      have HSTOP := Lib.hid (fun w' ha (hb : Below wr.heap.size wr w') => EachP.stop HQ.out hkl ha hb)
      obtain ⟨y1, r, p, q1, q2, q3, q4, q5, q6, q7, q8⟩ := HQ.out
      have c0 : wr.cell? ⟨b, off + k, none⟩ = _ := cell_kept q7 (by omega) c00
      have HACC := Lib.hid (acc_iff k p (scanX 0 sc0 (l.take k)) (l.getD k []) q5)
      have HNX := Lib.hid (fun w5 ha hf hz hs hb => ScI.next (w := w) (wr := wr) (B := B) (w5 := w5) (p := p) hkl q2 q3 q6 ha hf hz hs HL.out hb)
      have HFR := Lib.hid (show accX k (scanX 0 sc0 (l.take k)).last (l.getD k []) = true → (gotX (l.getD k [])).fr = true ∨ scanX 0 sc0 (l.take k) ≠ sc0 from fun ha => by
        by_cases h0 : 0 < k
        · right
          intro e
          have := q8 h0
          rw [e] at this
          exact absurd this (by decide)
        · left
          have hk0 : k = 0 := by omega
          subst hk0
          have hg : getOkX (l.getD 0 []) = true := by unfold accX at ha; rw [Bool.and_eq_true] at ha; exact ha.1
          have hx := okX_iff.1 (ok_got hg)
          unfold accX at ha
          simp only [Bool.and_eq_true, Bool.or_eq_true, decide_eq_true_eq] at ha
          rcases ha.2.2.2 with h | h
          · have e0 : (scanX 0 sc0 (l.take 0)).last = 0 := rfl
            omega
          · exact h)
      have HRX := Lib.hid (fun hf => RelS.relx (x := gotX (l.getD k [])) q2 hf)
      have HGO := Lib.hid (ok_got (b := l.getD k []))
      have hrl : r.out.length ≤ 900000 := by omega
      have GE := Lib.hid (fun w => get_any (l.getD k []) hmx w)
      have HZ := Lib.hid q1
      have HS := Lib.hid q4
      have HBW := Lib.hid q7
      unfold GetP at GE
      have FO := Lib.hid (follows_any (gotX (l.getD k [])) p)
      clear q1 q2 q3 q4 q5 q6 q7 q8 HQ c00 hmx
      generalize hbb : l.getD k [] = bb at *
      generalize hx : gotX bb = x at *
      generalize getOkX bb = ok at *
      generalize hsx : str bb = sbb at *
      have hne : wr.heap.size ≠ w.heap.size := by have := HS.out; have := Bx.lt this; omega
      have HSA := Lib.hid (show ∀ w3, Below wr.heap.size wr w3 → Sb w3 w.heap.size p from fun w3 hb => HS.out.held hb)
      unfold sv at GE FO
      cases ok with
      | false =>
        have HD := Lib.hid (fun w' hb => HSTOP.out w' (by rw [HACC.out]; rfl) hb)
        clear HSTOP HACC HNX HFR HRX HGO FO HZ HBW HSA hne
        go_wp2_with fail
        refine (GE.out _).mono ?_; rintro e w3 ⟨rfl, hb3⟩
        have HB3 := Lib.hid hb3
        clear hb3
        have HF := Lib.hid (fun w' (hb : Below w3.heap.size w3 w') => HD.out w' (HB3.out.trans (hb.mono HB3.out.size)))
        clear GE HD
        go_wp2_with fail
        refine bodyPost_ret (results_none rfl _ _ _) rfl ?_
        exact HF.out _ ((Below.refl _ _).alloc (Nat.le_refl _) _)
      | true =>
        rw [Bool.true_and] at HACC
        by_cases hix : x.ix = (k : Int)
        · rw [decide_eq_true hix, Bool.true_and] at HACC
          have HXC := Lib.hid (show svs x = #[.int .i64 x.ep, .int .i64 (k : Int), .bool x.fr, .string (str x.pl)] by unfold svs; rw [hix])
          rw [hix] at GE FO
          cases hf : folB x p with
          | false =>
            rw [hf] at FO
            have HD := Lib.hid (fun w' hb => HSTOP.out w' (by rw [HACC.out, hf]) hb)
            clear HSTOP HACC HNX HFR HRX HGO HZ HBW hne hf
            go_wp2_with fail
            refine (GE.out _).mono ?_; rintro e w3 ⟨rfl, hb3⟩
            have HS3 := Lib.hid (HSA.out w3 hb3)
            have HB3 := Lib.hid hb3
            clear hb3
            obtain ⟨d0, d1, d2, d3⟩ := Sb.cells (show Sb (w3.alloc (.cells #[.int .i64 x.ep, .int .i64 (k : Int), .bool x.fr, .string (str x.pl)] 23)) w.heap.size p from Bx.alloc HS3.out (.cells #[.int .i64 x.ep, .int .i64 (k : Int), .bool x.fr, .string (str x.pl)] 23))
            have HNE := Lib.hid (show Sb (w3.alloc (.cells #[.int .i64 x.ep, .int .i64 (k : Int), .bool x.fr, .string (str x.pl)] 23)) w3.heap.size x from by rw [← HXC.out]; exact Sb.new w3 x)
            have HPA := Lib.hid (show Sb (w3.alloc (.cells #[.int .i64 x.ep, .int .i64 (k : Int), .bool x.fr, .string (str x.pl)] 23)) w.heap.size p from Bx.alloc HS3.out (.cells #[.int .i64 x.ep, .int .i64 (k : Int), .bool x.fr, .string (str x.pl)] 23))
            have HB4 := Lib.hid (HB3.out.trans ((Below.refl w3.heap.size w3).alloc (Nat.le_refl _) (.cells #[.int .i64 x.ep, .int .i64 (k : Int), .bool x.fr, .string (str x.pl)] 23) |>.mono HB3.out.size))
            clear GE HS3
            go_wp2_with fail
            refine (FO.out _).mono ?_; rintro e w4 ⟨rfl, hb4⟩
            have HF := Lib.hid (HD.out w4 (HB4.out.trans (hb4.mono HB4.out.size)))
            clear d0 d1 d2 d3 hb4 HB4 HPA HNE HD FO HSA
            go_wp2_with fail
            refine bodyPost_ret (results_none rfl _ _ _) rfl ?_
            exact HF.out
          | true =>
            rw [hf] at FO
            have ha := HACC.out.trans hf
            have HNN := Lib.hid (fun w5 hz hs hb => HNX.out w5 ha (HFR.out ha) hz hs hb)
            have HRX2 := Lib.hid (HRX.out (HFR.out ha))
            have hxk := HGO.out rfl
            have SE := Lib.hid (fun wA (hz : RdZ n₀ wA B y1 r) => sector_any hz hxk HRX2.out hrl)
            unfold SecP sv at SE
            rw [hix] at SE
            clear HSTOP HACC HNX HFR HRX HGO hf ha
            go_wp2_with fail
            refine (GE.out _).mono ?_; rintro e w3 ⟨rfl, hb3⟩
            have HS3 := Lib.hid (HSA.out w3 hb3)
            have HB3 := Lib.hid hb3
            clear hb3
            obtain ⟨d0, d1, d2, d3⟩ := Sb.cells (show Sb (w3.alloc (.cells #[.int .i64 x.ep, .int .i64 (k : Int), .bool x.fr, .string (str x.pl)] 23)) w.heap.size p from Bx.alloc HS3.out (.cells #[.int .i64 x.ep, .int .i64 (k : Int), .bool x.fr, .string (str x.pl)] 23))
            have HNE := Lib.hid (show Sb (w3.alloc (.cells #[.int .i64 x.ep, .int .i64 (k : Int), .bool x.fr, .string (str x.pl)] 23)) w3.heap.size x from by rw [← HXC.out]; exact Sb.new w3 x)
            have HPA := Lib.hid (show Sb (w3.alloc (.cells #[.int .i64 x.ep, .int .i64 (k : Int), .bool x.fr, .string (str x.pl)] 23)) w.heap.size p from Bx.alloc HS3.out (.cells #[.int .i64 x.ep, .int .i64 (k : Int), .bool x.fr, .string (str x.pl)] 23))
            have HB4 := Lib.hid (HB3.out.trans ((Below.refl w3.heap.size w3).alloc (Nat.le_refl _) (.cells #[.int .i64 x.ep, .int .i64 (k : Int), .bool x.fr, .string (str x.pl)] 23) |>.mono HB3.out.size))
            clear GE HS3
            go_wp2_with fail
            refine (FO.out _).mono ?_; rintro e w4 ⟨rfl, hb4⟩
            have HB5 := Lib.hid (HB4.out.trans (hb4.mono HB4.out.size))
            have HN5 := Lib.hid (Sb.held HNE.out hb4)
            have HP5 := Lib.hid (Sb.held HPA.out hb4)
            clear d0 d1 d2 d3 hb4 HB4 HPA HNE FO HSA HB3
            obtain ⟨e0, e1, e2, e3⟩ := HN5.out.cells
            go_wp2_with fail
            refine (SE.out w4 (HZ.out.held HB5.out)).mono ?_; rintro e w5 ⟨rfl, hz5, hk5⟩
            have HN6 := Lib.hid (show Sb w5 w3.heap.size x from hk5.2 _ _ HN5.out)
            have HP6 := Lib.hid (show Sb w5 w.heap.size p from hk5.2 _ _ HP5.out)
            have HNEXT := Lib.hid (HNN.out w5 hz5 HP6.out (HBW.out.trans ((HB5.out.mono (Nat.le_trans HL.out HBW.out.size)).trans hk5.1)))
            rw [hix] at HNEXT
            clear e0 e1 e2 e3 SE HNN hz5 hk5 HN5 HP5 HB5 HBW HZ
            obtain ⟨e0, e1, e2, e3⟩ := HN6.out.cells
            obtain ⟨g0, g1, g2, g3⟩ := HP6.out.cells
            obtain ⟨t0, t1, t2, t3⟩ := HP6.out.free
            go_wp2_with fail
            go_roundw
            case rel => exact ⟨k + 1, by omega, by go_num, HNEXT.out⟩
            case measure => simp [intOf] <;> omega
        · rw [decide_eq_false hix, Bool.false_and] at HACC
          have HD := Lib.hid (fun w' hb => HSTOP.out w' HACC.out hb)
          have hixb : (x.ix == (k : Int)) = false := by rw [beq_eq_false_iff_ne]; exact hix
          clear HSTOP HACC HNX HFR HRX HGO FO HZ HBW HSA hne
          go_wp2_with fail
          refine (GE.out _).mono ?_; rintro e w3 ⟨rfl, hb3⟩
          have HB3 := Lib.hid hb3
          clear hb3
          have HF := Lib.hid (fun w' (hb : Below w3.heap.size w3 w') => HD.out w' (HB3.out.trans (hb.mono HB3.out.size)))
          clear GE HD
          go_wp2_with fail
          refine bodyPost_ret (results_none rfl _ _ _) rfl ?_
          exact HF.out _ ((Below.refl _ _).alloc (Nat.le_refl _) _)
    · obtain rfl : k = n := by omega
      have b1 : ¬ (k : Int) < (k : Int) := by omega
      have HE := Lib.hid (show EachP n₀ B w l (.returned (.tuple #[])) wr from by
        have := HQ.out
        rw [← HN.out] at this
        exact EachP.fin this)
      clear HQ
      go_wp2_with fail
      go_end0
      exact HE.out
/-- What Scan hands back. -/
def ScanP (w : World) (l : List BA) (e : Ending) (w' : World) : Prop := ∃ v, e = .returned (.tuple #[v, .int .i64 ((scan l).next : Nat), .int .i64 (scan l).ep]) ∧ OwnT w.heap.size w' v (scan l).out ∧ Below w.heap.size w w'
set_option maxHeartbeats 4000000 in
theorem scan_any {C n c : Nat} {A : Option Addr} {l : List BA} {w : World} (h : Txt C w A n l) (hC : C ≤ w.heap.size) (hn : n ≤ 1000) : Calls Tryz.prog 14 #[.slice A n c] w fun e w' => ScanP w l e w' := by
  have HZ : RdZ w.heap.size (w.alloc (.cells (rds nilX rd0 w.heap.size (.slice none 0 0) (.slice none 0 0)) 78)) w.heap.size nilX rd0 :=
    ⟨.slice none 0 0, .slice none 0 0, Bx.new _ _ _, OwnT.nil _ _, World.ownsRow_nil _ _ _ _, Nat.le_refl _⟩
  have HB := Lib.hid ((Below.refl w.heap.size w).alloc (Nat.le_refl _) (.cells (rds nilX rd0 w.heap.size (.slice none 0 0) (.slice none 0 0)) 78))
  have EA := Lib.hid (each_any (c := c) (h.kept ((Below.refl C w).alloc hC _)) hC hn HZ)
  have HR := Lib.hid (show ∀ w' vr ep, Below w.heap.size w w' → OwnT w.heap.size w' vr (scan l).out → ep = (scan l).ep → ScanP w l (.returned (.tuple #[vr, .int .i64 ((scan l).next : Nat), .int .i64 ep])) w' from fun w' vr ep hb ho he => ⟨vr, by rw [he], ho, hb⟩)
  rw [show rds nilX rd0 w.heap.size (.slice none 0 0) (.slice none 0 0) = #[.int .i64 0, .int .i64 0, .slice none 0 0, .int .i64 0, .int .i64 0, .bool false, .string ⟨#[]⟩, .nilFunc, .int .i64 0, .slice none 0 0] from rfl] at HB EA
  clear HZ h
  generalize ScanP w l = PP at *
  go_enter Tryz.func14, Tryz.ntmps14
  go_wp2_with fail
  refine EA.out.mono ?_; rintro e w2 ⟨rfl, y, r, hz, hrel, hb2⟩
  obtain ⟨vr, vb, h1, h2, h3, h4⟩ := hz
  have c0 : w2.cell? ⟨w.heap.size, 0, none⟩ = some (.int .i64 r.next) := h1.cell 0
  have c1 : w2.cell? ⟨w.heap.size, 1, none⟩ = some (.int .i64 r.ep) := h1.cell 1
  have c2 : w2.cell? ⟨w.heap.size, 2, none⟩ = some vr := h1.cell 2
  rw [hrel.1] at c0
  rw [hrel.out] at h2
  have HF := Lib.hid (fun q => HR.out (w2.drewN q) vr r.ep (below_drewN (HB.out.trans (hb2.mono (Nat.le_refl _))) q) h2 hrel.2.1)
  clear h1 h2 h3 h4 hrel hb2 HB HR EA
  go_wp2_with fail
  go_quiet (fail)
  go_wp2_with fail
  refine bodyPost_ret (v := .tuple #[vr, .int .i64 ((scan l).next : Nat), .int .i64 r.ep]) (by simp [results, Tryz.results14, go_sem]) rfl (HF.out nq)
end Go.Proofs.YtbdpmfgphhgigaaGreat
