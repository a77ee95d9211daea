/- What is true of a log and its disk between the calls (plain). -/
import Derived.Test.YtnjggoeahaglbaaGreatLwf
namespace Go.Proofs.YtnjggoeahaglbaaGreat.Wa
open Go.RowKit
open Fr
set_option linter.unusedVariables false
set_option linter.unusedSimpArgs false
theorem ok_len {x : BA} (h : Rc.getOk x = true) : 1 ≤ x.length ∧ x.length ≤ 20000 := by
  unfold Rc.getOk at h
  rw [Bool.and_eq_true, decide_eq_true_eq] at h
  obtain ⟨h1, h2⟩ := h
  rw [← h2]
  exact ⟨Rc.encR_pos _, Rc.enc_small (Rc.rightR_iff.1 h1)⟩
theorem ok_put {r : Rc.Rc} (h : Rc.rightR r = true) : Rc.getOk (Rc.putS r) = true ∧ Rc.readR (Rc.putS r) = r := by
  have e : Rc.putS r = Rc.encR r := by unfold Rc.putS; rw [h]; rfl
  rw [e]
  exact ⟨Rc.getOk_enc h, Rc.readR_enc h⟩
theorem strm_ok {l : List BA} (h : ∀ x ∈ l, Rc.getOk x = true) (h0 : l ≠ []) : strmOk l = true := strmOk_iff.2 ⟨h0, fun x hx => by have := ok_len (h x hx); omega⟩
theorem strm_cnt {l : List BA} (h : ∀ x ∈ l, Rc.getOk x = true) : (strmB l).length ≤ 56 * cntB l := by
  by_cases h0 : l = []
  · subst h0; simp [strmB]
  · unfold cntB
    rw [if_pos (strm_ok h h0)]
    omega
theorem strm_many : ∀ l : List BA, l.length ≤ (strmB l).length
  | [] => Nat.zero_le _
  | x :: l => by
    rw [strmB_cons, List.length_append, recX_length, List.length_cons]
    have := strm_many l
    omega
theorem cnt_nil : cntB [] = 0 := rfl
/-- Between the calls of a log whose last flush was none, or went well. -/
structure Inv (A : Lg) (D : Dk.St) : Prop where
  fi : A.first ≤ 10000
  s1 : A.sectors ≤ 4000
  dn : A.dur ≤ A.recs.length
  e0 : 1 ≤ A.epoch
  e1 : A.epoch ≤ 4294967295
  dl : A.first + A.sectors ≤ D.last.length
  d1 : D.last.length ≤ 10000
  pe : D.pend = []
  out : (scan (part A.first A.sectors D.last)).out = A.recs.take A.dur
  nx : (scan (part A.first A.sectors D.last)).next = A.fin
  ep : (scan (part A.first A.sectors D.last)).ep ≤ A.epoch
  low : ∀ b ∈ part A.first A.sectors D.last, Low A.epoch b
  lowN : ∀ b ∈ (part A.first A.sectors D.last).drop A.fin, Low (A.epoch - 1) b
  ok : ∀ x ∈ A.recs, Rc.getOk x = true
  room : A.fin + cntB (A.recs.drop A.dur) ≤ A.sectors
theorem Inv.okD {A : Lg} {D : Dk.St} (h : Inv A D) : ∀ x ∈ A.recs.drop A.dur, Rc.getOk x = true := fun x hx => h.ok x (List.mem_of_mem_drop hx)
theorem Inv.durLe {A : Lg} {D : Dk.St} (h : Inv A D) : A.dur ≤ 224000 := by
  have h1 := scan_big (l := part A.first A.sectors D.last) (by rw [part_len _ _ _ h.dl]; exact h.s1)
  have h2 := congrArg List.length h.out
  rw [List.length_take, Nat.min_eq_left h.dn] at h2
  omega
theorem Inv.st {A : Lg} {D : Dk.St} (h : Inv A D) : (strmB (A.recs.drop A.dur)).length ≤ 224000 := by
  have h1 := strm_cnt h.okD
  have h2 := h.room
  have h3 := h.s1
  omega
theorem Inv.many {A : Lg} {D : Dk.St} (h : Inv A D) : A.recs.length ≤ 448000 := by
  have h1 := h.durLe
  have h2 := h.st
  have h3 := strm_many (A.recs.drop A.dur)
  rw [List.length_drop] at h3
  omega
theorem Inv.fits {A : Lg} {D : Dk.St} (h : Inv A D) : GFits A where
  fi := h.fi
  s1 := h.s1
  fn := by have := h.room; omega
  dn := h.dn
  bl := by have := h.many; omega
  st := by have := h.st; omega
  sz := fun x hx => by have := ok_len (h.ok x hx); omega
  e0 := h.e0
  e1 := h.e1
theorem cnt_np' {l : List BA} (h : strmOk l = true) : cntB l = npX (strmB l) := by unfold cntB npX; rw [if_pos h]
/-- What is to be flushed is a batch. -/
theorem Inv.bat {A : Lg} {D : Dk.St} (h : Inv A D) (hn : A.dur ≠ A.recs.length) : batOk A.epoch A.fin (A.recs.drop A.dur) = true ∧ (batB A.epoch A.fin (A.recs.drop A.dur)).length = cntB (A.recs.drop A.dur) := by
  have hs : strmOk (A.recs.drop A.dur) = true := strm_ok h.okD (fun e => by
    have := congrArg List.length e
    rw [List.length_drop, List.length_nil] at this
    have := h.dn
    omega)
  have hb := bat_in (e := A.epoch) (i := (A.fin : Int)) hs ⟨h.e0, h.e1⟩ (by omega) (by
    rw [← cnt_np' hs]
    have := h.room
    have := h.s1
    omega)
  exact ⟨hb, by rw [batB_length hb, cnt_np' hs]⟩
theorem Inv.batLe {A : Lg} {D : Dk.St} (h : Inv A D) : A.fin + (batB A.epoch A.fin (A.recs.drop A.dur)).length ≤ A.sectors := by
  by_cases hn : A.dur = A.recs.length
  · have e : A.recs.drop A.dur = [] := List.drop_eq_nil_of_le (by omega)
    rw [e]
    have : batB A.epoch A.fin [] = [] := rfl
    rw [this]
    have := h.room
    rw [e, cnt_nil] at this
    exact this
  · rw [(h.bat hn).2]; exact h.room
/-- A record appended. -/
theorem Inv.app {A : Lg} {D : Dk.St} {r : Rc.Rc} (h : Inv A D) (hr : Rc.rightR r = true) (hm : roomA A r = true) : Inv (appA A r) D := by
  unfold roomA at hm
  have hm2 := of_decide_eq_true hm
  exact { fi := h.fi, s1 := h.s1, e0 := h.e0, e1 := h.e1, dl := h.dl, d1 := h.d1, pe := h.pe, nx := h.nx, ep := h.ep, low := h.low, lowN := h.lowN
          dn := by show A.dur ≤ (A.recs ++ [Rc.putS r]).length; rw [List.length_append]; have := h.dn; omega
          out := by show _ = (A.recs ++ [Rc.putS r]).take A.dur; rw [List.take_append_of_le_length h.dn]; exact h.out
          ok := fun x hx => by
            rcases List.mem_append.1 hx with hx | hx
            · exact h.ok x hx
            · rw [List.mem_singleton.1 hx]; exact (ok_put hr).1
          room := by show A.fin + cntB ((A.recs ++ [Rc.putS r]).drop A.dur) ≤ A.sectors; omega }
/-- The sizes that Append reckons with. -/
theorem Inv.stApp {A : Lg} {D : Dk.St} (r : Rc.Rc) (h : Inv A D) : (strmB ((A.recs ++ [Rc.putS r]).drop A.dur)).length ≤ 1100000 := by
  rw [List.drop_append_of_le_length h.dn, strmB_append, List.length_append]
  have h1 := h.st
  have h2 : (strmB [Rc.putS r]).length ≤ 20002 := by
    rw [show [Rc.putS r] = Rc.putS r :: [] from rfl, strmB_cons, List.length_append, recX_length]
    have h3 : (Rc.putS r).length ≤ 20000 := by
      unfold Rc.putS
      cases hg : Rc.rightR r with
      | true => exact Rc.enc_small (Rc.rightR_iff.1 hg)
      | false => simp
    have h4 : strmB ([] : List BA) = [] := rfl
    rw [h4, List.length_nil]
    omega
  omega
/-- A disk that runs, and has no stop ahead, takes all. -/
theorem putW_free : ∀ (l : List BA) (D : Dk.St) (n : Nat), D.runs = true → D.left < 0 → (putW D n l).2 = true ∧ (putW D n l).1.left = D.left ∧ (putW D n l).1.runs = true
  | [], D, n, hr, _ => ⟨rfl, rfl, hr⟩
  | b :: l, D, n, hr, hl => by
    rw [putW_step hr (by omega)]
    have h1 : (Dk.wrote D n b).left = D.left := by show (if 0 < D.left then D.left - 1 else D.left) = D.left; rw [if_neg (by omega)]
    have h2 := putW_free l (Dk.wrote D n b) (n + 1) hr (by rw [h1]; exact hl)
    rw [h1] at h2
    exact h2
/-- A flush's ways: nothing to do; all written, and kept; or the disk has stopped, and the batch's first j sectors are pending. -/
theorem flush_ways {A : Lg} {D : Dk.St} (h : Inv A D) :
    (A.dur = A.recs.length ∧ flushG A D = (A, D, 0)) ∨
    (A.dur ≠ A.recs.length ∧ D.runs = true ∧ (flushG A D).2.2 = 0 ∧ (flushG A D).1 = { A with dur := A.recs.length, fin := A.fin + (batB A.epoch A.fin (A.recs.drop A.dur)).length } ∧ Inv (flushG A D).1 (flushG A D).2.1 ∧ (flushG A D).2.1.runs = true ∧ (flushG A D).2.1.last.length = D.last.length ∧ (D.left < 0 → (flushG A D).2.1.left = D.left)) ∨
    (A.dur ≠ A.recs.length ∧ (D.runs = true → ¬ D.left < 0) ∧ (flushG A D).2.2 = 10 ∧ (flushG A D).1 = A ∧ (flushG A D).2.1.runs = false ∧ (flushG A D).2.1.last = D.last ∧ ∃ j, j ≤ (batB A.epoch A.fin (A.recs.drop A.dur)).length ∧ (flushG A D).2.1.pend = wrs (A.first + A.fin) (batB A.epoch A.fin (A.recs.drop A.dur)) j) := by
  by_cases hn : A.dur = A.recs.length
  · exact .inl ⟨hn, by unfold flushG; rw [if_pos hn]⟩
  obtain ⟨hb, hbl⟩ := h.bat hn
  have hroom := h.room
  rw [← hbl] at hroom
  have hfr := fun (h1 : D.runs = true) (h2 : D.left < 0) => putW_free (batB A.epoch A.fin (A.recs.drop A.dur)) D (A.first + A.fin) h1 h2
  obtain ⟨j, j1, j2, j3, j4, j5⟩ := putW_is (batB A.epoch A.fin (A.recs.drop A.dur)) D (A.first + A.fin)
  rw [h.pe, List.nil_append] at j3
  have hF : flushG A D = if (flushW D (A.first + A.fin) (batB A.epoch A.fin (A.recs.drop A.dur))).2 then ({ A with dur := A.recs.length, fin := A.fin + (batB A.epoch A.fin (A.recs.drop A.dur)).length }, (flushW D (A.first + A.fin) (batB A.epoch A.fin (A.recs.drop A.dur))).1, 0) else (A, (flushW D (A.first + A.fin) (batB A.epoch A.fin (A.recs.drop A.dur))).1, 10) := by unfold flushG; rw [if_neg hn]
  obtain ⟨BL, hBL⟩ : ∃ BL, batB A.epoch A.fin (A.recs.drop A.dur) = BL := ⟨_, rfl⟩
  rw [hBL] at hF hroom hbl hfr j1 j2 j3 j4 j5
  right
  rw [hBL]
  cases hp : (putW D (A.first + A.fin) BL).2 with
  | false =>
    right
    have hW : flushW D (A.first + A.fin) BL = ((putW D (A.first + A.fin) BL).1, false) := by unfold flushW; rw [hp]; rfl
    rw [hW] at hF
    have hF2 : flushG A D = (A, (putW D (A.first + A.fin) BL).1, 10) := hF
    rw [hF2]
    exact ⟨hn, (fun h1 h2 => by have := (hfr h1 h2).1; rw [hp] at this; cases this), rfl, rfl, j5 hp, j2, j, j1, j3⟩
  | true =>
    obtain ⟨k1, k2⟩ := j4 hp
    cases hr : D.runs with
    | false =>
      right
      rw [hr] at k2
      have hW : flushW D (A.first + A.fin) BL = ((putW D (A.first + A.fin) BL).1, false) := by unfold flushW; rw [hp, k2]; rfl
      rw [hW] at hF
      have hF2 : flushG A D = (A, (putW D (A.first + A.fin) BL).1, 10) := hF
      rw [hF2]
      exact ⟨hn, (fun h1 => by cases h1), rfl, rfl, k2, j2, j, j1, j3⟩
    | true =>
      left
      rw [hr] at k2
      have hW : flushW D (A.first + A.fin) BL = (Dk.synced (putW D (A.first + A.fin) BL).1, true) := by unfold flushW; rw [hp, k2]; rfl
      rw [hW] at hF
      have hF2 : flushG A D = ({ A with dur := A.recs.length, fin := A.fin + BL.length }, Dk.synced (putW D (A.first + A.fin) BL).1, 0) := hF
      rw [hF2]
      have hlast : (Dk.synced (putW D (A.first + A.fin) BL).1).last = Dk.appl D.last (wrs (A.first + A.fin) BL BL.length) := by
        show Dk.appl (putW D (A.first + A.fin) BL).1.last (putW D (A.first + A.fin) BL).1.pend = _
        rw [j2, j3, k1]
      have hpl := part_len A.first A.sectors D.last h.dl
      have hpart : part A.first A.sectors (Dk.appl D.last (wrs (A.first + A.fin) BL BL.length)) = (part A.first A.sectors D.last).take A.fin ++ (BL ++ (part A.first A.sectors D.last).drop (A.fin + BL.length)) := part_write h.dl hroom
      have hnx := h.nx
      have hb2 := hb
      have hB2 := hBL
      have hlN := h.lowN
      rw [← hnx] at hb2 hB2 hlN
      have hD2 : part A.first A.sectors (Dk.appl D.last (wrs (A.first + A.fin) BL BL.length)) = (part A.first A.sectors D.last).take (scan (part A.first A.sectors D.last)).next ++ (batB A.epoch (scan (part A.first A.sectors D.last)).next (A.recs.drop A.dur) ++ (part A.first A.sectors D.last).drop ((scan (part A.first A.sectors D.last)).next + (batB A.epoch (scan (part A.first A.sectors D.last)).next (A.recs.drop A.dur)).length)) := by
        rw [hB2, hnx]; exact hpart
      obtain ⟨g1, g2, g3⟩ := scan_flush hD2 h.ep hb2 hlN
      rw [hnx, hBL] at g2
      have hD3 : part A.first A.sectors (Dk.appl D.last (wrs (A.first + A.fin) BL BL.length)) = (part A.first A.sectors D.last).take A.fin ++ (batB A.epoch (A.fin : Int) (A.recs.drop A.dur) ++ (part A.first A.sectors D.last).drop (A.fin + (batB A.epoch (A.fin : Int) (A.recs.drop A.dur)).length)) := by rw [hBL]; exact hpart
      obtain ⟨g4, g5, g6⟩ := flush_low (by rw [hBL, hpl]; exact hroom) hD3 h.low h.lowN
      rw [hBL] at g6
      have hll : (Dk.synced (putW D (A.first + A.fin) BL).1).last.length = D.last.length := by rw [hlast, Dk.appl_length]
      refine ⟨hn, rfl, rfl, rfl, ?_, k2, hll, fun hl => (hfr hr hl).2.1⟩
      exact { fi := h.fi, s1 := h.s1, e0 := h.e0, e1 := h.e1, ok := h.ok
              dn := Nat.le_refl _
              dl := by rw [hll]; exact h.dl
              d1 := by rw [hll]; exact h.d1
              pe := rfl
              out := by show (scan (part A.first A.sectors (Dk.synced (putW D (A.first + A.fin) BL).1).last)).out = A.recs.take A.recs.length; rw [hlast, g1, h.out, List.take_append_drop, List.take_length]
              nx := by show (scan (part A.first A.sectors (Dk.synced (putW D (A.first + A.fin) BL).1).last)).next = A.fin + BL.length; rw [hlast, g2]
              ep := by show (scan (part A.first A.sectors (Dk.synced (putW D (A.first + A.fin) BL).1).last)).ep ≤ A.epoch; rw [hlast, g3]; exact Int.le_refl _
              low := by show ∀ b ∈ part A.first A.sectors (Dk.synced (putW D (A.first + A.fin) BL).1).last, Low A.epoch b; rw [hlast]; exact g5
              lowN := by show ∀ b ∈ (part A.first A.sectors (Dk.synced (putW D (A.first + A.fin) BL).1).last).drop (A.fin + BL.length), Low (A.epoch - 1) b; rw [hlast]; exact g6
              room := by
                show A.fin + BL.length + cntB (A.recs.drop A.recs.length) ≤ A.sectors
                rw [List.drop_length, cnt_nil]
                omega }
/-- The log that is opened anew. -/
theorem open_inv {f s : Nat} {ep : Int} {D : Dk.St} (hf : f ≤ 10000) (hs : s ≤ 4000) (he : 1 ≤ ep ∧ ep ≤ 4294967295) (hd : f + s ≤ D.last.length) (h1 : D.last.length ≤ 10000) (hp : D.pend = []) (hlow : ∀ b ∈ part f s D.last, Low (ep - 1) b)
    (hok : ∀ x ∈ (scan (part f s D.last)).out, Rc.getOk x = true) : Inv (opG f s ep (part f s D.last)) D ∧ okO (part f s D.last) ep = true := by
  have he0 := scan_ep hlow (by omega)
  refine ⟨{ fi := hf, s1 := hs, e0 := he.1, e1 := he.2, dl := hd, d1 := h1, pe := hp, nx := rfl, ok := hok
            dn := Nat.le_refl _
            out := by show _ = (scan (part f s D.last)).out.take (scan (part f s D.last)).out.length; rw [List.take_length]; rfl
            ep := by show (scan (part f s D.last)).ep ≤ ep; omega
            low := fun b hb => (hlow b hb).mono (by show ep - 1 ≤ ep; omega)
            lowN := fun b hb => hlow b (List.mem_of_mem_drop hb)
            room := by
              show (scan (part f s D.last)).next + cntB ((scan (part f s D.last)).out.drop (scan (part f s D.last)).out.length) ≤ s
              rw [List.drop_length, cnt_nil]
              have := scan_next_le (part f s D.last)
              rw [part_len _ _ _ hd] at this
              omega }, ?_⟩
  unfold okO
  rw [Bool.and_eq_true, decide_eq_true_eq]
  exact ⟨List.all_eq_true.2 hok, by omega⟩
/-- Behind a crash that comes when the log was flushed, or had not been written since. -/
theorem crash_calm {D : Dk.St} (hp : D.pend = []) (keep : List Bool) : Dk.crashed D keep = ⟨D.last, [], true, -1⟩ := by
  unfold Dk.crashed
  rw [hp, Dk.kept_nil, Dk.appl_nil]
/-- Behind a crash amid a flush: the first ones of the records are there. -/
theorem crash_amid {A : Lg} {D D' : Dk.St} {j : Nat} (h : Inv A D) (hn : A.dur ≠ A.recs.length) (keep : List Bool) (hl : D'.last = D.last) (hj : j ≤ (batB A.epoch A.fin (A.recs.drop A.dur)).length) (hp : D'.pend = wrs (A.first + A.fin) (batB A.epoch A.fin (A.recs.drop A.dur)) j) :
    (∃ m c, A.recs.drop A.dur = m ++ c ∧ (scan (part A.first A.sectors (Dk.crashed D' keep).last)).out = A.recs.take A.dur ++ m) ∧ (∀ b ∈ part A.first A.sectors (Dk.crashed D' keep).last, Low A.epoch b) := by
  obtain ⟨hb, hbl⟩ := h.bat hn
  have hroom := h.room
  rw [← hbl] at hroom
  have hpl := part_len A.first A.sectors D.last h.dl
  have hlast : part A.first A.sectors (Dk.crashed D' keep).last = keptX (part A.first A.sectors D.last) (batB A.epoch A.fin (A.recs.drop A.dur)) A.fin (fun t => decide (t < j) && keep.getD t false) := by
    show part A.first A.sectors (Dk.appl D'.last (Dk.kept D'.pend keep)) = _
    rw [hl, hp]
    exact part_crash h.dl hroom hj
  rw [hlast]
  refine ⟨?_, keptX_low h.low (low_bat)⟩
  have hnx := h.nx
  have hb2 := hb
  have hlN := h.lowN
  have hr2 : (scan (part A.first A.sectors D.last)).next + (batB A.epoch (scan (part A.first A.sectors D.last)).next (A.recs.drop A.dur)).length ≤ (part A.first A.sectors D.last).length := by rw [hnx, hpl]; exact hroom
  rw [← hnx] at hb2 hlN
  obtain ⟨m, c, h1, h2⟩ := scan_crash (keep := fun t => decide (t < j) && keep.getD t false) h.ep hb2 hr2 hlN
  rw [hnx, h.out] at h2
  exact ⟨m, c, h1, h2⟩
end Go.Proofs.YtnjggoeahaglbaaGreat.Wa
