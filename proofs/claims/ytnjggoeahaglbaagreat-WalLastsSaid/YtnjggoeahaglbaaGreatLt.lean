/- What the law of what lasts needs: rows of records of a call's own; what a crash leaves of a log. -/
import Derived.Test.YtnjggoeahaglbaaGreatLe
import Derived.Deep.Grids
namespace Go.Proofs.YtnjggoeahaglbaaGreat.Fr
open Go.ChangeShapes Go.WideShapes Go.ChangeAt Go.RowKit
def Bools (W : World) (A : Option Addr) (n : Nat) (l : List Bool) : Prop := l.length = n ∧ ∀ i, i < n → ∃ b off, A = some ⟨b, off, none⟩ ∧ b < W.heap.size ∧ W.cell? ⟨b, off + i, none⟩ = some (.bool (l.getD i false))
theorem bools_read {H : Type} {enc : TypeId × Value → H} {W : World} {A : Option Addr} {len cap base fuel : Nat} {sp : Nat → Bool} {hd : Bool} {x : DataW H × List MemPlace}
    (h : DataW.trod enc Tryz.prog W base sp hd fuel 44 [.slice A len cap] = some x) (hsp : ∀ b, sp b = true) : ∃ l, Bools W A len l ∧ len ≤ cap ∧ cap ≤ maxLen := by
  obtain rfl : sp = fun _ => true := funext hsp
  rcases Go.Deep.open_bools Tryz.underlying44 Tryz.underlying4 (by kernel_rfl) h with ⟨hcs, _⟩ | ⟨a, len', cap', B, hcs, _, hl, hm, _, hcell⟩
  · simp at hcs
    obtain ⟨rfl, rfl, rfl⟩ := hcs
    exact ⟨[], ⟨rfl, fun i hi => by omega⟩, by omega, by unfold maxLen; omega⟩
  · simp at hcs
    obtain ⟨rfl, rfl, rfl⟩ := hcs
    refine ⟨(List.range len).map B, ⟨by simp, fun i hi => ?_⟩, hl, hm⟩
    have hc := hcell i (by omega)
    have h0 := hcell 0 (by omega)
    obtain ⟨b, off, spot⟩ := a
    have hspot : spot = none := by simpa [Addr.add] using World.cell?_spot h0
    subst hspot
    rw [add_plain] at hc
    refine ⟨b, off, rfl, World.block_lt_of_cell? W _ hc, ?_⟩
    rw [hc, List.getD_eq_getElem?_getD, List.getElem?_map, List.getElem?_range hi]
    rfl
end Go.Proofs.YtnjggoeahaglbaaGreat.Fr
namespace Go.Proofs.YtnjggoeahaglbaaGreat.Wa
open Go.ChangeShapes Go.WideShapes Go.ChangeAt Go.RowKit
open Fr
set_option linter.unusedVariables false
set_option linter.unusedSimpArgs false
set_option maxRecDepth 100000
abbrev RH := Rc.Rc × Rc.Hd
def rh0 : RH := (Rc.nilR, Rc.hd0)
def rhs (l : List RH) : List Value := l.flatMap fun x => (Rc.rcs x.1 x.2).toList
theorem rhs_length (l : List RH) : (rhs l).length = l.length * 14 := by
  unfold rhs
  induction l with
  | nil => rfl
  | cons x l ih => rw [List.flatMap_cons, List.length_append, ih, List.length_cons]; show 14 + _ = _; omega
theorem rhs_append (l m : List RH) : rhs (l ++ m) = rhs l ++ rhs m := by unfold rhs; rw [List.flatMap_append]
theorem rhs_at : ∀ (l : List RH) (k j : Nat), k < l.length → j < 14 → (rhs l)[k * 14 + j]? = (Rc.rcs (l.getD k rh0).1 (l.getD k rh0).2)[j]?
  | [], k, j, h, _ => absurd h (Nat.not_lt_zero _)
  | x :: l, k, j, h, hj => by
    have e : rhs (x :: l) = (Rc.rcs x.1 x.2).toList ++ rhs l := by unfold rhs; rw [List.flatMap_cons]
    have e14 : (Rc.rcs x.1 x.2).toList.length = 14 := rfl
    rw [e]
    cases k with
    | zero =>
      rw [Nat.zero_mul, Nat.zero_add, List.getElem?_append_left (by rw [e14]; exact hj)]
      simp
    | succ k =>
      rw [List.getElem?_append_right (by rw [e14]; omega), e14, show (k + 1) * 14 + j - 14 = k * 14 + j by omega, List.getD_cons_succ]
      exact rhs_at l k j (by simpa using h) hj
theorem rhs_one : ∀ (l : List RH), ∀ u ∈ rhs l, u.oneCell' = true := by
  intro l u hu
  obtain ⟨x, _, hx⟩ := List.mem_flatMap.1 hu
  unfold Rc.rcs at hx
  simp only [List.mem_cons, List.not_mem_nil, or_false] at hx
  rcases hx with rfl | rfl | rfl | rfl | rfl | rfl | rfl | rfl | rfl | rfl | rfl | rfl | rfl | rfl <;> rfl
def OwnR (B : Nat) (w : World) (v : Value) (l : List RH) : Prop := w.ownsRow B 43 14 v l.length (rhs l)
theorem OwnR.nil (B : Nat) (w : World) : OwnR B w (.slice none 0 0) [] := ⟨rfl, .inl ⟨rfl, rfl⟩⟩
theorem OwnR.shape {B : Nat} {w : World} {v : Value} {l : List RH} (h : OwnR B w v l) : ∃ A c, v = .slice A l.length c := own_shape h
theorem OwnR.kept {B : Nat} {w w' : World} {v : Value} {l : List RH} (h : OwnR B w v l) (hb : Below w.heap.size w w') : OwnR B w' v l := owns_kept2 h fun g hg => hb.block g (h.lt g hg).2
theorem OwnR.lv {B C : Nat} {w w' : World} {v : Value} {l : List RH} (h : OwnR B w v l) (hl : Lv C w w') : OwnR B w' v l := by
  refine owns_kept2 h fun g hg => ?_
  rcases h.2 with ⟨e, _⟩ | ⟨g', cap, cur, e, _, h3, _⟩
  · rw [e] at hg; simp [Value.ownBlock] at hg
  · rw [e] at hg
    simp only [Value.ownBlock, Option.some.injEq] at hg
    subst hg
    exact hl.other _ _ _ _ h3 (by decide) (by decide) (by decide) (by decide) (by decide)
theorem OwnR.at {B n c k : Nat} {w : World} {A : Option Addr} {l : List RH} (h : OwnR B w (.slice A n c) l) (hk : k < l.length) : ∃ g, A = some ⟨g, 0, none⟩ ∧ B ≤ g ∧ g < w.heap.size ∧ At14 w g (k * 14) (l.getD k rh0).1 (l.getD k rh0).2 := by
  have hh : w.ownsRow B 43 14 (.slice A n c) l.length (rhs l) := h
  rcases hh.2 with ⟨e, h0⟩ | ⟨g, cap, cur, e, hb, hg, _⟩
  · omega
  · simp only [Value.slice.injEq] at e
    obtain ⟨rfl, _, _⟩ := e
    have hc := hh.cells (g := g) rfl
    have hx : ∀ j u, j < 14 → (Rc.rcs (l.getD k rh0).1 (l.getD k rh0).2)[j]? = some u → w.cell? ⟨g, k * 14 + j, none⟩ = some u := fun j u hj hu => by
      have := hc (k * 14 + j) u (by rw [rhs_at l k j hk hj]; exact hu)
      rw [Rc.aplain, Nat.zero_add] at this
      exact this
    exact ⟨g, rfl, hb, (Array.getElem?_eq_some_iff.1 hg).1, hx 0 _ (by omega) rfl, hx 1 _ (by omega) rfl, hx 2 _ (by omega) rfl, hx 3 _ (by omega) rfl, hx 4 _ (by omega) rfl, hx 5 _ (by omega) rfl, hx 6 _ (by omega) rfl, hx 7 _ (by omega) rfl, hx 8 _ (by omega) rfl, hx 9 _ (by omega) rfl, hx 10 _ (by omega) rfl, hx 11 _ (by omega) rfl, hx 12 _ (by omega) rfl, hx 13 _ (by omega) rfl⟩
/-- A list of records that came in, with its handles. -/
theorem rl_src {C n : Nat} {w : World} {A : Option Addr} {l : List Rc.Rc} (h : Rc.RlM C w A n l) : ∃ P : List RH, P.length = n ∧ (∀ k, k < n → (P.getD k rh0).1 = l.getD k Rc.nilR) ∧ (∀ k, k < n → Rc.RcM C w (P.getD k rh0).1 (P.getD k rh0).2) ∧ (∀ u, Below C w u → Src u 14 A n (rhs P)) := by
  obtain ⟨P, hP, hk⟩ := Rc.choose_l (P := fun k (x : RH) => x.1 = l.getD k Rc.nilR ∧ Rc.RcM C w x.1 x.2 ∧ ∃ b off, A = some ⟨b, off, none⟩ ∧ b < C ∧ ∀ j u, (Rc.rcs x.1 x.2)[j]? = some u → w.cell? ⟨b, off + k * 14 + j, none⟩ = some u) rh0 (n := n) (fun k hk => by
    obtain ⟨b, off, hd, h1, h2, h3, h4⟩ := h.2.2 k hk
    exact ⟨(l.getD k Rc.nilR, hd), rfl, h4, b, off, h1, h2, h3⟩)
  refine ⟨P, hP, fun k hk' => (hk k hk').1, fun k hk' => (hk k hk').2.1, fun u hb => ⟨by rw [rhs_length, hP], fun h0 => ?_⟩⟩
  obtain ⟨_, _, b, off, h1, h2, _⟩ := hk 0 h0
  refine ⟨⟨b, off, none⟩, h1, fun j v hv => ?_⟩
  have hj : j < n * 14 := by
    have := (List.getElem?_eq_some_iff.1 hv).1
    rw [rhs_length, hP] at this
    exact this
  have hq : j / 14 < n := by omega
  obtain ⟨_, _, b', off', h1', h2', h3'⟩ := hk (j / 14) hq
  rw [h1] at h1'
  simp only [Option.some.injEq, Addr.mk.injEq, and_true] at h1'
  obtain ⟨rfl, rfl⟩ := h1'
  have hv2 := rhs_at P (j / 14) (j % 14) (by rw [hP]; exact hq) (by omega)
  rw [show j / 14 * 14 + j % 14 = j by omega, hv] at hv2
  have := h3' (j % 14) v hv2.symm
  rw [Rc.aplain]
  refine (hb.cell (p := ⟨b, off + j, none⟩) h2).trans ?_
  rw [show off + j = off + j / 14 * 14 + j % 14 by omega]
  exact this
theorem info_rec : (Tryz.prog.info? 43).map (fun i => (i.zero, i.size, i.bytes)) = some (some (.agg Rc.z14), 14, 200) := by kernel_rfl
/-! What the sectors hold, whatever it is that is asked of them. -/
def High (q : Int) (b : BA) : Prop := getOkX b = true → q ≤ (gotX b).ep
theorem high_bat {e i : Int} {l : List BA} : ∀ b ∈ batB e i l, High e b := fun b hb _ => by
  unfold batB at hb
  split at hb
  · rename_i hok
    obtain ⟨k, hk, rfl⟩ := List.mem_map.1 hb
    rw [gotX_enc ((batOk_iff.1 hok).2 k (List.mem_range.1 hk))]
    exact Int.le_refl _
  · simp at hb
theorem scan_high {D : List BA} {q : Int} (h : ∀ b ∈ D, High q b) (h0 : (scan D).out ≠ []) : q ≤ (scan D).ep := by
  rcases scan_stand D 0 sc0 with ⟨h1, _, _⟩ | ⟨k, h1, _, h3, _, h5⟩
  · exact absurd h1 h0
  · have hk := h3 k (by omega)
    have e := scan_snoc (h3.mono (by omega)) h1 hk
    have h5' : (scanX 0 sc0 (D.take (k + 1))).last = (scan D).ep := h5
    rw [← h5', e]
    show q ≤ (gotX (D.getD k [])).ep
    have hm : D.getD k [] ∈ D := by
      rw [List.getD_eq_getElem?_getD, List.getElem?_eq_getElem h1]
      exact List.getElem_mem h1
    refine h _ hm ?_
    unfold accX at hk
    rw [Bool.and_eq_true] at hk
    exact hk.1
theorem flush_sec {A : Lg} {D : Dk.St} (h : Inv A D) (hn : A.dur ≠ A.recs.length) (h0 : (flushG A D).2.2 = 0) (P : BA → Prop) (h1 : ∀ b ∈ part A.first A.sectors D.last, P b) (h2 : ∀ b ∈ batB A.epoch A.fin (A.recs.drop A.dur), P b) : ∀ b ∈ part A.first A.sectors (flushG A D).2.1.last, P b := by
  obtain ⟨hb, hbl⟩ := h.bat hn
  have hroom := h.room
  rw [← hbl] at hroom
  obtain ⟨j, j1, j2, j3, j4, j5⟩ := putW_is (batB A.epoch A.fin (A.recs.drop A.dur)) D (A.first + A.fin)
  rw [h.pe, List.nil_append] at j3
  have hF : flushG A D = if (flushW D (A.first + A.fin) (batB A.epoch A.fin (A.recs.drop A.dur))).2 then ({ A with dur := A.recs.length, fin := A.fin + (batB A.epoch A.fin (A.recs.drop A.dur)).length }, (flushW D (A.first + A.fin) (batB A.epoch A.fin (A.recs.drop A.dur))).1, 0) else (A, (flushW D (A.first + A.fin) (batB A.epoch A.fin (A.recs.drop A.dur))).1, 10) := by unfold flushG; rw [if_neg hn]
  obtain ⟨BL, hBL⟩ : ∃ BL, batB A.epoch A.fin (A.recs.drop A.dur) = BL := ⟨_, rfl⟩
  rw [hBL] at hF hroom h2 j1 j2 j3 j4 j5
  cases hW : (flushW D (A.first + A.fin) BL).2 with
  | false =>
    rw [hW] at hF
    have hF2 : (flushG A D).2.2 = 10 := by rw [hF]; rfl
    rw [hF2] at h0
    cases h0
  | true =>
    rw [hW] at hF
    have hF2 : (flushG A D).2.1 = (flushW D (A.first + A.fin) BL).1 := by rw [hF]; rfl
    cases hp : (putW D (A.first + A.fin) BL).2 with
    | false =>
      unfold flushW at hW
      rw [hp] at hW
      cases hW
    | true =>
      cases hr : (putW D (A.first + A.fin) BL).1.runs with
      | false =>
        unfold flushW at hW
        rw [hp, hr] at hW
        cases hW
      | true =>
        have hX : (flushW D (A.first + A.fin) BL).1 = Dk.synced (putW D (A.first + A.fin) BL).1 := by unfold flushW; rw [hp, hr]; rfl
        rw [hF2, hX]
        have hlast : (Dk.synced (putW D (A.first + A.fin) BL).1).last = Dk.appl D.last (wrs (A.first + A.fin) BL BL.length) := by
          show Dk.appl (putW D (A.first + A.fin) BL).1.last (putW D (A.first + A.fin) BL).1.pend = _
          rw [j2, j3, (j4 hp).1]
        rw [hlast, part_write h.dl hroom]
        intro b hb'
        rcases List.mem_append.1 hb' with h9 | h9
        · exact h1 b (List.mem_of_mem_take h9)
        · rcases List.mem_append.1 h9 with h9 | h9
          · exact h2 b h9
          · exact h1 b (List.mem_of_mem_drop h9)
theorem kept_all {D b : List BA} {n : Nat} {keep : Nat → Bool} (P : BA → Prop) (hL : ∀ x ∈ D, P x) (hB : ∀ x ∈ b, P x) : ∀ x ∈ keptX D b n keep, P x := by
  intro x hx
  obtain ⟨j, hj, rfl⟩ := List.mem_map.1 hx
  have hjl := List.mem_range.1 hj
  split
  · rename_i h
    rw [List.getD_eq_getElem?_getD, List.getElem?_eq_getElem (show j - n < b.length by omega)]
    exact hB _ (List.getElem_mem _)
  · rw [List.getD_eq_getElem?_getD, List.getElem?_eq_getElem hjl]
    exact hL _ (List.getElem_mem _)
theorem crash_sec {A : Lg} {D D' : Dk.St} {j : Nat} (h : Inv A D) (hn : A.dur ≠ A.recs.length) (keep : List Bool) (hl : D'.last = D.last) (hj : j ≤ (batB A.epoch A.fin (A.recs.drop A.dur)).length) (hp : D'.pend = wrs (A.first + A.fin) (batB A.epoch A.fin (A.recs.drop A.dur)) j) (P : BA → Prop) (h1 : ∀ b ∈ part A.first A.sectors D.last, P b) (h2 : ∀ b ∈ batB A.epoch A.fin (A.recs.drop A.dur), P b) : ∀ b ∈ part A.first A.sectors (Dk.crashed D' keep).last, P b := by
  obtain ⟨hb, hbl⟩ := h.bat hn
  have hroom := h.room
  rw [← hbl] at hroom
  have hlast : part A.first A.sectors (Dk.crashed D' keep).last = keptX (part A.first A.sectors D.last) (batB A.epoch A.fin (A.recs.drop A.dur)) A.fin (fun t => decide (t < j) && keep.getD t false) := by
    show part A.first A.sectors (Dk.appl D'.last (Dk.kept D'.pend keep)) = _
    rw [hl, hp]
    exact part_crash h.dl hroom hj
  rw [hlast]
  exact kept_all P h1 h2
/-- What stands behind a last flush, however it went, and a crash. -/
theorem lasts_end {A : Lg} {D : Dk.St} {L : List BA} (h : Inv A D) (hr : A.recs = L) (hh : ∀ b ∈ part A.first A.sectors D.last, High A.epoch b) (hru : D.runs = true) (keep : List Bool) :
    ∃ K, A.dur ≤ K ∧ K ≤ L.length ∧ ((flushG A D).2.2 = 0 ∧ K = L.length ∨ (flushG A D).2.2 = 10) ∧ (flushG A D).2.1.pend.length ≤ 100000 ∧ (Dk.crashed (flushG A D).2.1 keep).runs = true ∧ (Dk.crashed (flushG A D).2.1 keep).pend = [] ∧ (Dk.crashed (flushG A D).2.1 keep).last.length = D.last.length ∧
      (scan (part A.first A.sectors (Dk.crashed (flushG A D).2.1 keep).last)).out = L.take K ∧ (∀ b ∈ part A.first A.sectors (Dk.crashed (flushG A D).2.1 keep).last, Low A.epoch b) ∧ (∀ b ∈ part A.first A.sectors (Dk.crashed (flushG A D).2.1 keep).last, High A.epoch b) := by
  subst hr
  rcases flush_ways h with ⟨h1, h2⟩ | ⟨h1, h2, h3, h4, h5, h6, h7, h8⟩ | ⟨h1, h2, h3, h4, h5, h6, j, h7, h8⟩
  · rw [h2]
    dsimp only
    rw [crash_calm h.pe keep]
    refine ⟨A.recs.length, h.dn, Nat.le_refl _, .inl ⟨rfl, rfl⟩, by rw [h.pe]; exact Nat.zero_le _, rfl, rfl, rfl, ?_, h.low, hh⟩
    rw [← h1]
    exact h.out
  · have hsec := flush_sec h h1 h3 (High A.epoch) hh high_bat
    have e := crash_calm h5.pe keep
    rw [e]
    have hr7 : (flushG A D).1.recs = A.recs := by rw [h4]
    have hd7 : (flushG A D).1.dur = A.recs.length := by rw [h4]
    have hf7 : (flushG A D).1.first = A.first := by rw [h4]
    have hs7 : (flushG A D).1.sectors = A.sectors := by rw [h4]
    have he7 : (flushG A D).1.epoch = A.epoch := by rw [h4]
    have ho := h5.out
    have hlo := h5.low
    rw [hf7, hs7, hr7, hd7] at ho
    rw [hf7, hs7, he7] at hlo
    exact ⟨A.recs.length, h.dn, Nat.le_refl _, .inl ⟨h3, rfl⟩, by rw [h5.pe]; exact Nat.zero_le _, rfl, rfl, h7, ho, hlo, hsec⟩
  · obtain ⟨⟨m, c, c1, c2⟩, c3⟩ := crash_amid h h1 keep h6 h7 h8
    have c4 := crash_sec h h1 keep h6 h7 h8 (High A.epoch) hh high_bat
    have hlen : m.length ≤ (A.recs.drop A.dur).length := by rw [c1, List.length_append]; omega
    rw [List.length_drop] at hlen
    have hdn := h.dn
    have hbl := (h.bat h1).2
    have hroom := h.room
    have hs1 := h.s1
    refine ⟨A.dur + m.length, by omega, by omega, .inr h3, by rw [h8, wrs_length]; omega, rfl, rfl, ?_, ?_, c3, c4⟩
    · show (Dk.appl _ _).length = _
      rw [Dk.appl_length, h6]
    · rw [c2, List.take_add, c1, List.take_left]
/-- A flush, where no stop is ahead, and what the sectors hold behind it. -/
theorem ls_flush_all {C q p : Nat} {A : Lg} {D : Dk.St} (w : World) (h : LS C q p A D w) (hi : Inv A D) (hr : D.runs = true) (hl : D.left < 0) (hh : ∀ b ∈ part A.first A.sectors D.last, High A.epoch b) :
    ∃ D', Inv { A with dur := A.recs.length, fin := A.fin + cntB (A.recs.drop A.dur) } D' ∧ D'.runs = true ∧ D'.left < 0 ∧ D'.last.length = D.last.length ∧ (∀ b ∈ part A.first A.sectors D'.last, High A.epoch b) ∧
      Calls Tryz.prog 19 #[.pointer (some ⟨q, 0, none⟩)] w fun e w' => e = .returned (.int .i64 0) ∧ LS C q p { A with dur := A.recs.length, fin := A.fin + cntB (A.recs.drop A.dur) } D' w' ∧ Lv C w w' := by
  have hF := ls_flush w h hi
  rcases flush_ways hi with ⟨h1, h2⟩ | ⟨h1, h2, h3, h4, h5, h6, h7, h8⟩ | ⟨_, h2, _⟩
  · rw [h2] at hF
    have e : A.recs.drop A.dur = [] := List.drop_eq_nil_of_le (by omega)
    rw [e, cnt_nil, Nat.add_zero, ← h1]
    exact ⟨D, hi, hr, hl, rfl, hh, hF⟩
  · have hsec := flush_sec hi h1 h3 (High A.epoch) hh high_bat
    rw [(hi.bat h1).2] at h4
    rw [h3] at hF
    rw [h4] at hF h5
    exact ⟨_, h5, h6, by have := h8 hl; omega, h7, hsec, hF⟩
  · exact absurd hl (h2 hr)
/-- A log and its disk, when only rows of records have turned. -/
theorem ls_recs {C q p : Nat} {A : Lg} {D : Dk.St} {w w' : World} (h : LS C q p A D w) (hs : w.heap.size ≤ w'.heap.size) (hk : ∀ (k : Nat) (cs : Array Value) (t : TypeId) (fr : Nat × Nat), w.heap[k]? = some (.cells cs t fr) → t ≠ 43 → w'.heap[k]? = w.heap[k]?) : LS C q p A D w' := by
  obtain ⟨⟨v, h1⟩, ⟨s, c, pv, ho⟩, h3⟩ := h
  refine ⟨⟨v, (hk _ _ _ _ h1.1 (by decide)).trans h1.1, owns_kept2 h1.2.1 fun g hg => ?_, h1.2.2⟩, ⟨s, c, pv, ho.same fun k hk' => ?_⟩, Nat.le_trans h3 hs⟩
  · rcases h1.2.1.2 with ⟨e, _⟩ | ⟨g', cap, cur, e, _, g3, _⟩
    · rw [e] at hg; simp [Value.ownBlock] at hg
    · rw [e] at hg
      simp only [Value.ownBlock, Option.some.injEq] at hg
      subst hg
      exact hk _ _ _ _ g3 (by decide)
  · rcases hk' with rfl | rfl | hk'
    · exact hk _ _ _ _ ho.head (by decide)
    · obtain ⟨cur, g1, _⟩ := ho.secs
      exact hk _ _ _ _ g1 (by decide)
    · rcases ho.row.2 with ⟨e, _⟩ | ⟨g', cap, cur, e, _, g3, _⟩
      · rw [e] at hk'; simp [Value.ownBlock] at hk'
      · rw [e] at hk'
        simp only [Value.ownBlock, Option.some.injEq] at hk'
        subst hk'
        exact hk _ _ _ _ g3 (by decide)
/-- One record more in a row of records of the call's own. -/
theorem rec_app {C q p B : Nat} {A : Lg} {D : Dk.St} {w w' : World} {v : Value} {l : List RH} {o : Obj} (h : LS C q p A D w) (hv : OwnR B w v l) (hg : (w.alloc o).grownBy w' v.ownBlock) : LS C q p A D w' := by
  refine ls_recs h ?_ fun k cs t fr hk ht => ?_
  · have := hg.size
    rw [World.size_alloc] at this
    omega
  · have hlt := (Array.getElem?_eq_some_iff.1 hk).1
    refine (hg.block k (by rw [World.size_alloc]; omega) (fun e => ?_)).trans (Below.heap_alloc w o k hlt)
    rcases hv.2 with ⟨e0, _⟩ | ⟨g', cap, cur, e0, _, h3, _⟩
    · rw [e0] at e; simp [Value.ownBlock] at e
    · rw [e0] at e
      simp only [Value.ownBlock, Option.some.injEq] at e
      subst e
      rw [h3] at hk
      simp only [Option.some.injEq, Obj.cells.injEq] at hk
      exact ht hk.2.1.symm
theorem OwnR.aside {B : Nat} {w w' : World} {v v2 : Value} {l : List RH} {o : Obj} (h : OwnR B w v l) (hg : (w.alloc o).grownBy w' v2.ownBlock) (hne : ∀ g, v.ownBlock = some g → v2.ownBlock ≠ some g) : OwnR B w' v l :=
  owns_kept2 h fun g hg' => (hg.block g (by rw [World.size_alloc]; have := (h.lt g hg').2; omega) (fun e => hne g hg' e.symm)).trans (Below.heap_alloc w o g (h.lt g hg').2)
/-- The disk of a log told where to stop. -/
theorem ls_stop {C q p : Nat} {A : Lg} {D : Dk.St} (n : Int) (w : World) (h : LS C q p A D w) (hr : D.runs = true) (h1 : -9223372036854775808 ≤ n) (h2 : n ≤ 9223372036854775807) :
    Calls Tryz.prog 21 #[.pointer (some ⟨p, 0, none⟩), .int .i64 n] w fun e w' => e = .returned (.tuple #[]) ∧ LS C q p A { D with left := n } w' ∧ Lv C w w' := by
  obtain ⟨⟨v, g1⟩, g2, g3⟩ := h
  refine (Dk.stop_d g2 n h1 h2 hr).mono ?_
  rintro e w' ⟨a, b, c⟩
  exact ⟨a, ⟨⟨v, g1.disk c⟩, b, Nat.le_trans g3 c.size⟩, .of_d c⟩
theorem keeps_of {C : Nat} {w u : World} {A : Option Addr} {n : Nat} {l : List Bool} (h : Fr.Bools w A n l) (hb : Below w.heap.size w u) (hC : w.heap.size ≤ C) : Dk.Keeps C A l u := fun i hi => by
  obtain ⟨b, off, h1, h2, h3⟩ := h.2 i (by rw [← h.1]; exact hi)
  exact ⟨b, off, h1, (hb.cell (p := ⟨b, off + i, none⟩) h2).trans h3, .inl (by omega)⟩
end Go.Proofs.YtnjggoeahaglbaaGreat.Wa
