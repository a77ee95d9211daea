/- The program's log: Open. -/
import Derived.Test.YtnjggoeahaglbaaGreatLwb
namespace Go.Proofs.YtnjggoeahaglbaaGreat.Wa
open Go.ChangeShapes Go.WideShapes Go.ChangeAt Go.RowKit
open Fr
set_option linter.unusedVariables false
set_option linter.unusedSimpArgs false
set_option maxRecDepth 100000
theorem scan_big {l : List BA} (h : l.length ≤ 4000) : (scan l).out.length ≤ 224000 ∧ ∀ x ∈ (scan l).out, x.length ≤ 224000 :=
  scanX_small 224000 l 0 0 sc0 (fun y hy => by cases hy) (Nat.le_refl _) (by omega)
def okO (S : List BA) (ep : Int) : Bool := (scan S).out.all Rc.getOk && decide ((scan S).ep < ep)
def opG (f s : Nat) (ep : Int) (S : List BA) : Lg := ⟨f, s, ep, (scan S).next, (scan S).out, (scan S).out.length⟩
set_option maxHeartbeats 1000000 in
theorem open_none (f s ep : Int) (w : World) : Calls Tryz.prog 14 #[.pointer none, .int .i64 f, .int .i64 s, .int .i64 ep] w fun e w' => e = .returned (.tuple #[.pointer none, .int .i64 1]) ∧ w = w' := by
  have SE := Lib.hid (Dk.sectors_nil)
  have WI := Lib.hid (fun u => within_is f s 0 (by omega) u)
  have hb : withinB f s 0 = false := decide_eq_false (by omega)
  rw [hb] at WI
  go_enter Tryz.func14, Tryz.ntmps14
  go_wp2_with fail
  refine (SE.out _).mono ?_; rintro q w2 ⟨rfl, rfl⟩
  go_wp2_with fail
  refine (WI.out _).mono ?_; rintro q w2 ⟨rfl, rfl⟩
  go_wp2_with fail
  go_ret2
  exact ⟨rfl, rfl⟩
set_option maxHeartbeats 2000000 in
theorem open_arg {C p : Nat} {D : Dk.St} (f s ep : Int) (w : World) (h : Dk.Disk C p D w) (hl : D.last.length ≤ 10000) (he : rng ep)
    (hno : withinB f s D.last.length = false ∨ ¬ (1 ≤ ep ∧ ep ≤ 4294967295)) :
    Calls Tryz.prog 14 #[.pointer (some ⟨p, 0, none⟩), .int .i64 f, .int .i64 s, .int .i64 ep] w fun e w' => e = .returned (.tuple #[.pointer none, .int .i64 1]) ∧ w = w' := by
  have SE := Lib.hid (show ∀ u, u = w → Calls Tryz.prog 38 #[.pointer (some ⟨p, 0, none⟩)] u fun e w' => e = .returned (.int .i64 D.last.length) ∧ u = w' from by
    rintro u rfl
    obtain ⟨a, b, c, ho⟩ := h
    exact Dk.sectors_o ho)
  have WI := Lib.hid (fun u => within_is f s D.last.length hl u)
  generalize D.last.length = dl at *
  clear h
  cases hw : withinB f s dl with
  | false =>
    rw [hw] at WI
    clear hno
    go_enter Tryz.func14, Tryz.ntmps14
    go_wp2_with fail
    refine (SE.out _ rfl).mono ?_; rintro q w2 ⟨rfl, rfl⟩
    go_wp2_with fail
    refine (WI.out _).mono ?_; rintro q w2 ⟨rfl, rfl⟩
    go_wp2_with fail
    go_ret2
    exact ⟨rfl, rfl⟩
  | true =>
    rw [hw] at WI
    have hne : ¬ (1 ≤ ep ∧ ep ≤ 4294967295) := by
      rcases hno with h1 | h1
      · rw [hw] at h1; cases h1
      · exact h1
    unfold rng at he
    clear hno hw
    by_cases h1 : ep < 1
    · go_enter Tryz.func14, Tryz.ntmps14
      go_wp2_with fail
      refine (SE.out _ rfl).mono ?_; rintro q w2 ⟨rfl, rfl⟩
      go_wp2_with fail
      refine (WI.out _).mono ?_; rintro q w2 ⟨rfl, rfl⟩
      go_wp2_with fail
      go_ret2
      exact ⟨rfl, rfl⟩
    · have e1 : IntKind.u64.wrap ep = ep := by rw [IntKind.wrap_u64]; omega
      have h2 : 4294967295 < ep := by omega
      go_enter Tryz.func14, Tryz.ntmps14
      go_wp2_with fail
      refine (SE.out _ rfl).mono ?_; rintro q w2 ⟨rfl, rfl⟩
      go_wp2_with fail
      refine (WI.out _).mono ?_; rintro q w2 ⟨rfl, rfl⟩
      go_wp2_with fail
      go_ret2
      exact ⟨rfl, rfl⟩
set_option maxHeartbeats 2000000 in
theorem open_dead {C p : Nat} {D : Dk.St} (f s : Nat) (ep : Int) (w : World) (h : Dk.Disk C p D w) (hl : D.last.length ≤ 10000) (hr : D.runs = false)
    (hw : withinB f s D.last.length = true) (he : 1 ≤ ep ∧ ep ≤ 4294967295) :
    Calls Tryz.prog 14 #[.pointer (some ⟨p, 0, none⟩), .int .i64 (f : Int), .int .i64 (s : Int), .int .i64 ep] w fun e w' => e = .returned (.tuple #[.pointer none, .int .i64 10]) ∧ Below w.heap.size w w' := by
  have SE := Lib.hid (show ∀ u, u = w → Calls Tryz.prog 38 #[.pointer (some ⟨p, 0, none⟩)] u fun e w' => e = .returned (.int .i64 D.last.length) ∧ u = w' from by
    rintro u rfl
    obtain ⟨a, b, c, ho⟩ := h
    exact Dk.sectors_o ho)
  have WI := Lib.hid (fun u => within_is f s D.last.length hl u)
  rw [hw] at WI
  have hs : (1 : Int) ≤ (s : Int) := (of_decide_eq_true hw).1
  have CO := Lib.hid (contents_dead (D := D) f s w h hr (by omega))
  obtain ⟨he1, he2⟩ := he
  have e1 : IntKind.u64.wrap ep = ep := by rw [IntKind.wrap_u64]; omega
  generalize D.last.length = dl at *
  clear h hw
  go_enter Tryz.func14, Tryz.ntmps14
  go_wp2_with fail
  refine (SE.out _ rfl).mono ?_; rintro q w2 ⟨rfl, rfl⟩
  go_wp2_with fail
  refine (WI.out _).mono ?_; rintro q w2 ⟨rfl, rfl⟩
  go_wp2_with fail
  refine CO.out.mono ?_; rintro q w2 ⟨rfl, hb⟩
  go_wp2_with fail
  go_ret2
  exact ⟨rfl, hb⟩
set_option maxHeartbeats 4000000 in
theorem open_it {C p : Nat} {D : Dk.St} (f s : Nat) (ep : Int) (w : World) (h : Dk.Disk C p D w) (hl : D.last.length ≤ 10000) (hr : D.runs = true)
    (hw : withinB f s D.last.length = true) (he : 1 ≤ ep ∧ ep ≤ 4294967295) :
    Calls Tryz.prog 14 #[.pointer (some ⟨p, 0, none⟩), .int .i64 (f : Int), .int .i64 (s : Int), .int .i64 ep] w fun e w' =>
      Below w.heap.size w w' ∧ ((okO (part f s (Dk.appl D.last D.pend)) ep = false ∧ e = .returned (.tuple #[.pointer none, .int .i64 2])) ∨
        (okO (part f s (Dk.appl D.last D.pend)) ep = true ∧ ∃ q v, e = .returned (.tuple #[.pointer (some ⟨q, 0, none⟩), .int .i64 0]) ∧ LgM w.heap.size q p v (opG f s ep (part f s (Dk.appl D.last D.pend))) w')) := by
  have SE := Lib.hid (show ∀ u, u = w → Calls Tryz.prog 38 #[.pointer (some ⟨p, 0, none⟩)] u fun e w' => e = .returned (.int .i64 D.last.length) ∧ u = w' from by
    rintro u rfl
    obtain ⟨a, b, c, ho⟩ := h
    exact Dk.sectors_o ho)
  have WI := Lib.hid (fun u => within_is f s D.last.length hl u)
  rw [hw] at WI
  have hw2 := of_decide_eq_true hw
  have CO := Lib.hid (contents_ok (D := D) f s w h hr (by omega) (by omega) hl)
  obtain ⟨he1, he2⟩ := he
  have e1 : IntKind.u64.wrap ep = ep := by rw [IntKind.wrap_u64]; omega
  have hpl : (part f s (Dk.appl D.last D.pend)).length = s := part_len _ _ _ (by rw [Dk.appl_length]; omega)
  have H64 := Lib.hid (show ∀ x ∈ part f s (Dk.appl D.last D.pend), x.length ≤ maxLen from fun x hx => by
    have h1 : x ∈ Dk.appl D.last D.pend := List.mem_of_mem_drop (List.mem_of_mem_take hx)
    rw [h.whole x h1]
    decide)
  obtain ⟨S, hS⟩ : ∃ S, part f s (Dk.appl D.last D.pend) = S := ⟨_, rfl⟩
  rw [hS] at CO hpl H64 ⊢
  generalize D.last.length = dl at *
  clear h hw hS
  obtain ⟨b1, b2⟩ := scan_big (l := S) (by omega)
  have B2 := Lib.hid b2
  have HPL := Lib.hid hpl
  have hs4 : s ≤ 4000 := by omega
  clear b2 hpl
  have HOK := Lib.hid (show okO S ep = ((scan S).out.all Rc.getOk && decide ((scan S).ep < ep)) from rfl)
  have HG := Lib.hid (show opG f s ep S = ⟨f, s, ep, (scan S).next, (scan S).out, (scan S).out.length⟩ from rfl)
  go_enter Tryz.func14, Tryz.ntmps14
  go_wp2_with fail
  refine (SE.out _ rfl).mono ?_; rintro q w2 ⟨rfl, rfl⟩
  go_wp2_with fail
  refine (WI.out _).mono ?_; rintro q w2 ⟨rfl, rfl⟩
  go_wp2_with fail
  refine CO.out.mono ?_; rintro q w2 ⟨A, c, rfl, ho, hb⟩
  have hn := HPL.out
  obtain ⟨hm, tx⟩ := ho.txt H64.out (by rw [hn]; unfold maxLen; omega)
  have SC := Lib.hid (scan_list (c := c) tx (Nat.le_refl _) (by omega))
  have HB2 := Lib.hid hb
  clear ho hb tx hm CO
  go_wp2_with fail
  refine SC.out.mono ?_; rintro q w3 ⟨A2, c2, rfl, ho, hb⟩
  have HB3 := Lib.hid (HB2.out.trans (hb.mono HB2.out.size))
  have tx2 := (ho.txt (fun x hx => Nat.le_trans (B2.out x hx) (by decide)) (Nat.le_trans b1 (by decide))).2
  have AR := Lib.hid (records_is (c := c2) w3 tx2 (Nat.le_refl _) (by omega) (fun x hx => Nat.le_trans (B2.out x hx) (by omega)))
  have HO3 := Lib.hid (ho.base HB2.out.size)
  generalize (scan S).out.all Rc.getOk = ar at *
  clear ho hb tx2 SC B2 HB2
  go_wp2_with fail
  refine AR.out.mono ?_; rintro q w4 ⟨rfl, hb⟩
  have HB4 := Lib.hid (HB3.out.trans (hb.mono HB3.out.size))
  have HO4 := Lib.hid (HO3.out.kept hb)
  clear hb AR HB3 HO3
  cases har : ar with
  | false =>
    rw [har] at HOK
    go_wp2_with fail
    go_ret2
    exact ⟨HB4.out, .inl ⟨HOK.out, rfl⟩⟩
  | true =>
    rw [har] at HOK
    by_cases hlt : (scan S).ep < ep
    · have HK := Lib.hid (show okO S ep = true from by rw [HOK.out, decide_eq_true hlt]; rfl)
      have HBX := Lib.hid (Bx.new w4 (gcs p (.slice A2 (scan S).out.length c2) (opG f s ep S)) 89)
      have HO5 := Lib.hid (HO4.out.alloc (.cells (gcs p (.slice A2 (scan S).out.length c2) (opG f s ep S)) 89))
      have HB5 := Lib.hid (HB4.out.alloc HB4.out.size (.cells (gcs p (.slice A2 (scan S).out.length c2) (opG f s ep S)) 89))
      have HLG := Lib.hid (show LgM w.heap.size w4.heap.size p (.slice A2 (scan S).out.length c2) (opG f s ep S) (w4.alloc (.cells (gcs p (.slice A2 (scan S).out.length c2) (opG f s ep S)) 89)) from ⟨HBX.out, HO5.out, HB4.out.size⟩)
      rw [show gcs p (.slice A2 (scan S).out.length c2) (opG f s ep S) = #[wfn p, sfn p, .int .i64 (f : Int), .int .i64 (s : Int), .int .i64 ep, .int .i64 (((scan S).next : Nat) : Int), .slice A2 (scan S).out.length c2, .int .i64 ((scan S).out.length : Int)] from rfl] at HLG HB5
      generalize (scan S).ep = se at *
      generalize (scan S).next = sn at *
      generalize (scan S).out.length = ol at *
      clear HG HOK HBX HO5 HO4 HPL H64
      go_wp2_with fail
      go_ret2
      exact ⟨HB5.out, .inr ⟨HK.out, w4.heap.size, _, rfl, HLG.out⟩⟩
    · have HK := Lib.hid (show okO S ep = false from by rw [HOK.out, decide_eq_false hlt]; rfl)
      have hlt2 : ep ≤ (scan S).ep := by omega
      generalize (scan S).ep = se at *
      go_wp2_with fail
      go_ret2
      exact ⟨HB4.out, .inl ⟨HK.out, rfl⟩⟩
end Go.Proofs.YtnjggoeahaglbaaGreat.Wa
