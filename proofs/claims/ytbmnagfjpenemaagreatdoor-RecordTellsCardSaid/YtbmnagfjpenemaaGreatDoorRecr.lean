/- Put and Get of a record. -/
import Derived.Test.YtbmnagfjpenemaaGreatDoorListr
namespace Go.Proofs.YtbmnagfjpenemaaGreatDoor
open Go.ChangeShapes Go.WideShapes Go.ChangeAt Go.RowKit
set_option linter.unusedVariables false
set_option linter.unusedSimpArgs false
set_option maxRecDepth 100000
/-- A record's lists in rows of a call's own. -/
def RcO (B : Nat) (w : World) (r : Rc) (h : Hd) : Prop := RowI B w h.g r.pages ∧ RowP B w h.p r.pts ∧ (∃ ss, RowT B w h.t r.txs ss) ∧ RowD B w h.d r.dys
theorem RcO.below {B : Nat} {w w' : World} {r : Rc} {h : Hd} (k : RcO B w r h) (hb : Below w.heap.size w w') : RcO B w' r h := by
  obtain ⟨a, b, ⟨ss, c⟩, d⟩ := k
  exact ⟨a.below hb, b.below hb, ⟨ss, c.below hb⟩, d.below hb⟩
theorem RcO.aside {B D : Nat} {w w' : World} {r : Rc} {h : Hd} {cs : Array Value} (k : RcO B w r h) (ha : Aside D w w') (hz : Bx w D cs 29) : RcO B w' r h := by
  obtain ⟨a, b, ⟨ss, c⟩, d⟩ := k
  exact ⟨a.aside ha hz (by decide), b.aside ha hz (by decide), ⟨ss, c.aside ha hz (by decide) (by decide)⟩, d.aside ha hz (by decide)⟩
/-- Its numbers and texts have room. -/
structure RcW (r : Rc) : Prop where
  kind : rng r.kind
  tx : rng r.tx
  prev : rng r.prev
  next : rng r.next
  key : r.key.size ≤ maxLen
  old : ClW r.old
  g : r.pages.length ≤ maxLen ∧ ∀ x ∈ r.pages, rng x
  p : r.pts.length ≤ maxLen ∧ ∀ x ∈ r.pts, PtW x
  t : r.txs.length ≤ maxLen ∧ ∀ x ∈ r.txs, TxW x ∧ x.pages.length ≤ maxLen ∧ ∀ y ∈ x.pages, rng y
  d : r.dys.length ≤ maxLen ∧ ∀ x ∈ r.dys, DyW x
theorem own_cell {w : World} {B e z n : Nat} {A : Option Addr} {c : Nat} {xs : List Value} (h : w.ownsRow B e z (.slice A n c) n xs) (hn : 0 < n) : ∃ g, A = some ⟨g, 0, none⟩ ∧ g < w.heap.size ∧ B ≤ g ∧ ∀ j u, xs[j]? = some u → w.cell? ⟨g, j, none⟩ = some u := by
  rcases h.2 with ⟨h1, h2⟩ | ⟨g, cap, cur, h1, h2, h3, _⟩
  · omega
  · have h0 := h1
    simp only [Value.slice.injEq] at h1
    obtain ⟨rfl, _, rfl⟩ := h1
    refine ⟨g, rfl, (Array.getElem?_eq_some_iff.1 h3).1, h2, fun j u hu => ?_⟩
    have := h.cells (g := g) rfl j u hu
    rw [add_plain, Nat.zero_add] at this
    exact this
theorem RowI.m {B : Nat} {w : World} {s : Sl} {l : List Int} (h : RowI B w s l) (hl : l.length ≤ maxLen) (hw : ∀ x ∈ l, rng x) : IntsM w.heap.size w s.A s.n l := by
  refine ⟨h.1.symm, by rw [h.1]; exact hl, fun k hk => ?_⟩
  have hkl : k < l.length := by rw [← h.1]; exact hk
  obtain ⟨g, e, hg, _, hc⟩ := own_cell h.2 (by omega)
  refine ⟨g, 0, e, hg, hc _ _ ?_, hw _ (getD_mem' 0 hkl)⟩
  unfold ics
  rw [Nat.zero_add, List.getElem?_map, List.getElem?_eq_getElem hkl, getD_at hkl]
  rfl
theorem flat_at {α : Type} {f : α → List Value} {z : Nat} (hf : ∀ x, (f x).length = z) : ∀ (l : List α) (k r : Nat) (d : α), k < l.length → r < z → (l.flatMap f)[k * z + r]? = (f (l.getD k d))[r]?
  | [], k, r, d, h, _ => by simp at h
  | x :: l, 0, r, d, _, hr => by
    rw [List.flatMap_cons, Nat.zero_mul, Nat.zero_add, List.getElem?_append_left (by rw [hf]; exact hr)]
    rfl
  | x :: l, k + 1, r, d, h, hr => by
    rw [List.flatMap_cons, List.getElem?_append_right (by rw [hf, Nat.succ_mul]; omega), hf, show (k + 1) * z + r - z = k * z + r by rw [Nat.succ_mul]; omega]
    exact flat_at hf l k r d (by simpa using h) hr
theorem RowP.m {B : Nat} {w : World} {s : Sl} {l : List Pt} (h : RowP B w s l) (hl : l.length ≤ maxLen) (hw : ∀ x ∈ l, PtW x) : PtsM w.heap.size w s.A s.n l := by
  refine ⟨h.1.symm, by rw [h.1]; exact hl, fun k hk => ?_⟩
  have hkl : k < l.length := by rw [← h.1]; exact hk
  obtain ⟨g, e, hg, _, hc⟩ := own_cell h.2 (by omega)
  have at_ := fun r (hr : r < 3) => flat_at (f := pcell) (z := 3) (fun _ => rfl) l k r nilP hkl hr
  refine ⟨g, 0, e, hg, ?_, hw _ (getD_mem' nilP hkl)⟩
  rw [Nat.zero_add]
  exact ⟨hc _ _ ((at_ 0 (by omega)).trans rfl), hc _ _ ((at_ 1 (by omega)).trans rfl), hc _ _ ((at_ 2 (by omega)).trans rfl)⟩
theorem RowD.m {B : Nat} {w : World} {s : Sl} {l : List Dy} (h : RowD B w s l) (hl : l.length ≤ maxLen) (hw : ∀ x ∈ l, DyW x) : DysM w.heap.size w s.A s.n l := by
  refine ⟨h.1.symm, by rw [h.1]; exact hl, fun k hk => ?_⟩
  have hkl : k < l.length := by rw [← h.1]; exact hk
  obtain ⟨g, e, hg, _, hc⟩ := own_cell h.2 (by omega)
  have at_ := fun r (hr : r < 2) => flat_at (f := dcell) (z := 2) (fun _ => rfl) l k r nilD hkl hr
  refine ⟨g, 0, e, hg, ?_, hw _ (getD_mem' nilD hkl)⟩
  rw [Nat.zero_add]
  exact ⟨hc _ _ ((at_ 0 (by omega)).trans rfl), hc _ _ ((at_ 1 (by omega)).trans rfl)⟩
theorem zip_at {l : List Tx} {ss : List Sl} {k : Nat} (h : ss.length = l.length) (hk : k < l.length) : (l.zip ss).getD k (nilT, sl0) = (l.getD k nilT, ss.getD k sl0) := by
  rw [getD_at (by rw [List.length_zip]; omega), List.getElem_zip, getD_at hk, getD_at (by omega)]
theorem RowT.m {B : Nat} {w : World} {s : Sl} {l : List Tx} {ss : List Sl} (h : RowT B w s l ss) (hl : l.length ≤ maxLen) (hw : ∀ x ∈ l, TxW x ∧ x.pages.length ≤ maxLen ∧ ∀ y ∈ x.pages, rng y) : TxsM w.heap.size w s.A s.n l := by
  obtain ⟨h1, h2, h3, h4⟩ := h
  refine ⟨h1.symm, by rw [h1]; exact hl, fun k hk => ?_⟩
  have hkl : k < l.length := by rw [← h1]; exact hk
  obtain ⟨g, e, hg, _, hc⟩ := own_cell h3 (by omega)
  have at_ := fun r (hr : r < 4) => (flat_at (f := tcell) (z := 4) (fun _ => rfl) (l.zip ss) k r (nilT, sl0) (by rw [List.length_zip]; omega) hr).trans (by rw [zip_at h2 hkl])
  obtain ⟨w1, w2, w3⟩ := hw _ (getD_mem' nilT hkl)
  refine ⟨g, 0, e, hg, ?_, w1⟩
  rw [Nat.zero_add]
  exact ⟨hc _ _ ((at_ 0 (by omega)).trans rfl), hc _ _ ((at_ 1 (by omega)).trans rfl), hc _ _ ((at_ 2 (by omega)).trans rfl), _, _, _, hc _ _ ((at_ 3 (by omega)).trans rfl), (h4 k hkl).m w2 w3⟩
theorem RcO.m {B : Nat} {w : World} {r : Rc} {h : Hd} (k : RcO B w r h) (hw : RcW r) : RcM w.heap.size w r h := by
  obtain ⟨a, b, ⟨ss, c⟩, d⟩ := k
  exact ⟨hw.kind, hw.tx, hw.prev, hw.next, hw.key, hw.old, a.m hw.g.1 hw.g.2, b.m hw.p.1 hw.p.2, c.m hw.t.1 hw.t.2, d.m hw.d.1 hw.d.2⟩
theorem listN_all {α : Type} {f : RS → α × RS} {P : α → Prop} (hf : ∀ s, Few s → P (f s).1) (hk : ∀ s, Few s → Few (f s).2) : ∀ (n : Nat) {s : RS}, Few s → ∀ x ∈ (listN f n s).1, P x
  | 0, s, _, x, hx => by simp [listN] at hx
  | n + 1, s, h, x, hx => by
    unfold listN at hx
    rcases List.mem_append.1 hx with hx | hx
    · exact listN_all hf hk n h x hx
    · rw [List.mem_singleton.1 hx]
      exact hf _ (few_listN hk n h)
theorem listR_len {α : Type} (f : RS → α × RS) (m : Nat) (s : RS) : (listR f m s).1.length ≤ m := by
  unfold listR
  rw [listN_length]
  omega
theorem num_rng (s : RS) : rng (numR s).1 := by have := numR_in s; unfold rng; omega
theorem long_rng (s : RS) : rng (longR s).1 := by have := longR_in s; unfold rng; omega
theorem few_s1 {s : RS} (h : Few s) : Few (s1 s) := few_num h
theorem few_s2 {s : RS} (h : Few s) : Few (s2 s) := few_num (few_s1 h)
theorem few_s3 {s : RS} (h : Few s) : Few (s3 s) := few_long (few_s2 h)
theorem few_s4 {s : RS} (h : Few s) : Few (s4 s) := few_long (few_s3 h)
theorem few_s5 {s : RS} (h : Few s) : Few (s5 s) := few_text (few_s4 h)
theorem few_s6 {s : RS} (h : Few s) : Few (s6 s) := few_flag (few_s5 h)
theorem few_c1 {s : RS} (h : Few s) : Few (textR s).2 := few_text h
theorem few_c2 {s : RS} (h : Few s) : Few (clR2 s) := few_text (few_text h)
theorem few_c3 {s : RS} (h : Few s) : Few (numR (clR2 s)).2 := few_num (few_c2 h)
theorem few_s7 {s : RS} (h : Few s) : Few (s7 s) := few_num (few_c3 (few_s6 h))
theorem few_s8 {s : RS} (h : Few s) : Few (s8 s) := few_pages (few_s7 h)
theorem few_s9 {s : RS} (h : Few s) : Few (s9 s) := few_list (fun _ h => few_pt h) 40 (few_s8 h)
theorem few_s10 {s : RS} (h : Few s) : Few (s10 s) := few_list (fun _ h => few_tx h) 8 (few_s9 h)
theorem text_max {s : RS} (h : Few s) : (textR s).1.size ≤ maxLen := Nat.le_trans (textR_in h) (by unfold maxLen; omega)
theorem pages_w' {s : RS} (h : Few s) : (pagesR s).1.length ≤ maxLen ∧ ∀ x ∈ (pagesR s).1, rng x :=
  ⟨Nat.le_trans (listR_len _ _ _) (by unfold maxLen; omega), listN_all (fun s _ => num_rng s) (fun s h => few_num h) _ (few_num h)⟩
set_option maxHeartbeats 1000000 in
theorem rec_w {s : RS} (h : Few s) : RcW (recR s).1 where
  kind := num_rng _
  tx := num_rng _
  prev := long_rng _
  next := long_rng _
  key := text_max (few_s4 h)
  old := ⟨num_rng _, num_rng _, text_max (few_s6 h), text_max (few_text (few_s6 h))⟩
  g := pages_w' (few_s7 h)
  p := ⟨Nat.le_trans (listR_len _ _ _) (by unfold maxLen; omega), listN_all (fun s h => ⟨num_rng _, num_rng _, text_max (few_num (few_num h))⟩) (fun s h => few_pt h) _ (few_num (few_s8 h))⟩
  t := ⟨Nat.le_trans (listR_len _ _ _) (by unfold maxLen; omega), listN_all (fun s h => ⟨⟨num_rng _, long_rng _⟩, pages_w' (few_flag (few_long (few_num h)))⟩) (fun s h => few_tx h) _ (few_num (few_s9 h))⟩
  d := ⟨Nat.le_trans (listR_len _ _ _) (by unfold maxLen; omega), listN_all (fun s h => ⟨num_rng _, long_rng _⟩) (fun s h => few_dy h) _ (few_num (few_s10 h))⟩
set_option maxHeartbeats 8000000 in
theorem record_r (C q : Nat) (s : RS) (w : World) (hs : Few s) (hC : C ≤ w.heap.size) (hr : RdS w q s) : Calls Tryz.prog 44 #[.agg #[ptr q]] w fun e w' => ∃ h, e = .returned (rcv (recR s).1 h) ∧ RcO w.heap.size w' (recR s).1 h ∧ ReadS C q w (recR s).2 w' := by
  have N1 := Lib.hid (fun u (hu : RdS u q (s)) (hc : C ≤ u.heap.size) => rnum_any C q (s) u hs hc hu)
  have N2 := Lib.hid (fun u (hu : RdS u q (s1 s)) (hc : C ≤ u.heap.size) => rnum_any C q (s1 s) u (few_s1 hs) hc hu)
  have N3 := Lib.hid (fun u (hu : RdS u q (s2 s)) (hc : C ≤ u.heap.size) => rlong_any C q (s2 s) u (few_s2 hs) hc hu)
  have N4 := Lib.hid (fun u (hu : RdS u q (s3 s)) (hc : C ≤ u.heap.size) => rlong_any C q (s3 s) u (few_s3 hs) hc hu)
  have N5 := Lib.hid (fun u (hu : RdS u q (s4 s)) (hc : C ≤ u.heap.size) => text_r C q (s4 s) u (few_s4 hs) hc hu)
  have N6 := Lib.hid (fun u (hu : RdS u q (s5 s)) (hc : C ≤ u.heap.size) => flag_r C q (s5 s) u (few_s5 hs) hc hu)
  have N7 := Lib.hid (fun u (hu : RdS u q (s6 s)) (hc : C ≤ u.heap.size) => text_r C q (s6 s) u (few_s6 hs) hc hu)
  have N8 := Lib.hid (fun u (hu : RdS u q ((textR (s6 s)).2)) (hc : C ≤ u.heap.size) => text_r C q ((textR (s6 s)).2) u (few_c1 (few_s6 hs)) hc hu)
  have N9 := Lib.hid (fun u (hu : RdS u q (clR2 (s6 s))) (hc : C ≤ u.heap.size) => rnum_any C q (clR2 (s6 s)) u (few_c2 (few_s6 hs)) hc hu)
  have N10 := Lib.hid (fun u (hu : RdS u q ((numR (clR2 (s6 s))).2)) (hc : C ≤ u.heap.size) => rnum_any C q ((numR (clR2 (s6 s))).2) u (few_c3 (few_s6 hs)) hc hu)
  have N11 := Lib.hid (fun u (hu : RdS u q (s7 s)) (hc : C ≤ u.heap.size) => pages_r C q (s7 s) u (few_s7 hs) hc hu)
  have N12 := Lib.hid (fun u (hu : RdS u q (s8 s)) (hc : C ≤ u.heap.size) => listP_r C q 40 40 rfl (by omega) (s8 s) u (few_s8 hs) hc hu)
  have N13 := Lib.hid (fun u (hu : RdS u q (s9 s)) (hc : C ≤ u.heap.size) => listT_r C q 8 8 rfl (by omega) (s9 s) u (few_s9 hs) hc hu)
  have N14 := Lib.hid (fun u (hu : RdS u q (s10 s)) (hc : C ≤ u.heap.size) => listD_r C q 64 64 rfl (by omega) (s10 s) u (few_s10 hs) hc hu)
  obtain ⟨v1, ev1⟩ : ∃ v, v = (numR s).1 := ⟨_, rfl⟩
  obtain ⟨v2, ev2⟩ : ∃ v, v = (numR (s1 s)).1 := ⟨_, rfl⟩
  obtain ⟨v3, ev3⟩ : ∃ v, v = (longR (s2 s)).1 := ⟨_, rfl⟩
  obtain ⟨v4, ev4⟩ : ∃ v, v = (longR (s3 s)).1 := ⟨_, rfl⟩
  obtain ⟨v5, ev5⟩ : ∃ v, v = (textR (s4 s)).1 := ⟨_, rfl⟩
  obtain ⟨v6, ev6⟩ : ∃ v, v = (flagR (s5 s)).1 := ⟨_, rfl⟩
  obtain ⟨v7, ev7⟩ : ∃ v, v = (textR (s6 s)).1 := ⟨_, rfl⟩
  obtain ⟨v8, ev8⟩ : ∃ v, v = (textR (textR (s6 s)).2).1 := ⟨_, rfl⟩
  obtain ⟨v9, ev9⟩ : ∃ v, v = (numR (clR2 (s6 s))).1 := ⟨_, rfl⟩
  obtain ⟨v10, ev10⟩ : ∃ v, v = (numR (numR (clR2 (s6 s))).2).1 := ⟨_, rfl⟩
  obtain ⟨v11, ev11⟩ : ∃ v, v = (pagesR (s7 s)).1 := ⟨_, rfl⟩
  obtain ⟨v12, ev12⟩ : ∃ v, v = (listR ptR 40 (s8 s)).1 := ⟨_, rfl⟩
  obtain ⟨v13, ev13⟩ : ∃ v, v = (listR txR 8 (s9 s)).1 := ⟨_, rfl⟩
  obtain ⟨v14, ev14⟩ : ∃ v, v = (listR dyR 64 (s10 s)).1 := ⟨_, rfl⟩
  obtain ⟨t1, et1⟩ : ∃ t, t = s1 s := ⟨_, rfl⟩
  obtain ⟨t2, et2⟩ : ∃ t, t = s2 s := ⟨_, rfl⟩
  obtain ⟨t3, et3⟩ : ∃ t, t = s3 s := ⟨_, rfl⟩
  obtain ⟨t4, et4⟩ : ∃ t, t = s4 s := ⟨_, rfl⟩
  obtain ⟨t5, et5⟩ : ∃ t, t = s5 s := ⟨_, rfl⟩
  obtain ⟨t6, et6⟩ : ∃ t, t = s6 s := ⟨_, rfl⟩
  obtain ⟨t7, et7⟩ : ∃ t, t = (textR (s6 s)).2 := ⟨_, rfl⟩
  obtain ⟨t8, et8⟩ : ∃ t, t = clR2 (s6 s) := ⟨_, rfl⟩
  obtain ⟨t9, et9⟩ : ∃ t, t = (numR (clR2 (s6 s))).2 := ⟨_, rfl⟩
  obtain ⟨t10, et10⟩ : ∃ t, t = s7 s := ⟨_, rfl⟩
  obtain ⟨t11, et11⟩ : ∃ t, t = s8 s := ⟨_, rfl⟩
  obtain ⟨t12, et12⟩ : ∃ t, t = s9 s := ⟨_, rfl⟩
  obtain ⟨t13, et13⟩ : ∃ t, t = s10 s := ⟨_, rfl⟩
  obtain ⟨t14, et14⟩ : ∃ t, t = (recR s).2 := ⟨_, rfl⟩
  rw [show (numR s).2 = t1 from by rw [et1]; rfl, ← ev1] at N1
  rw [show (numR (s1 s)).2 = t2 from by rw [et2]; rfl, ← ev2, ← et1] at N2
  rw [show (longR (s2 s)).2 = t3 from by rw [et3]; rfl, ← ev3, ← et2] at N3
  rw [show (longR (s3 s)).2 = t4 from by rw [et4]; rfl, ← ev4, ← et3] at N4
  rw [show (textR (s4 s)).2 = t5 from by rw [et5]; rfl, ← ev5, ← et4] at N5
  rw [show (flagR (s5 s)).2 = t6 from by rw [et6]; rfl, ← ev6, ← et5] at N6
  rw [show (textR (s6 s)).2 = t7 from by rw [et7], ← ev7, ← et6] at N7
  rw [show (textR (textR (s6 s)).2).2 = t8 from by rw [et8]; rfl, ← ev8, ← et7] at N8
  rw [show (numR (clR2 (s6 s))).2 = t9 from by rw [et9], ← ev9, ← et8] at N9
  rw [show (numR (numR (clR2 (s6 s))).2).2 = t10 from by rw [et10]; rfl, ← ev10, ← et9] at N10
  rw [show (pagesR (s7 s)).2 = t11 from by rw [et11]; rfl, ← ev11, ← et10] at N11
  rw [show (listR ptR 40 (s8 s)).2 = t12 from by rw [et12]; rfl, ← ev12, ← et11] at N12
  rw [show (listR txR 8 (s9 s)).2 = t13 from by rw [et13]; rfl, ← ev13, ← et12] at N13
  rw [show (listR dyR 64 (s10 s)).2 = t14 from by rw [et14]; rfl, ← ev14, ← et13] at N14
  have ER := Lib.hid (show (recR s).1 = ⟨v1, v2, v3, v4, v5, v6, ⟨v7, v8, v9, v10⟩, v11, v12, v13, v14⟩ from by rw [ev1, ev2, ev3, ev4, ev5, ev6, ev7, ev8, ev9, ev10, ev11, ev12, ev13, ev14]; rfl)
  rw [ER.out, ← et14]
  clear ev1 ev2 ev3 ev4 ev5 ev6 ev7 ev8 ev9 ev10 ev11 ev12 ev13 ev14 et1 et2 et3 et4 et5 et6 et7 et8 et9 et10 et11 et12 et13 et14
  have H0 := Lib.hid (ReadS.start (C := C) hr |>.alloc hC (.cells #[.pointer (some ⟨q, 0, none⟩)] 89) |>.alloc hC (.cells #[.int .i64 0, .int .i64 0, .int .i64 0, .int .i64 0, .string ⟨#[]⟩, .bool false, .string ⟨#[]⟩, .string ⟨#[]⟩, .int .i64 0, .int .i64 0, .slice none 0 0, .slice none 0 0, .slice none 0 0, .slice none 0 0] 29))
  have hb1 := (Bx.new w #[.pointer (some ⟨q, 0, none⟩)] 89).alloc (.cells #[.int .i64 0, .int .i64 0, .int .i64 0, .int .i64 0, .string ⟨#[]⟩, .bool false, .string ⟨#[]⟩, .string ⟨#[]⟩, .int .i64 0, .int .i64 0, .slice none 0 0, .slice none 0 0, .slice none 0 0, .slice none 0 0] 29)
  have hz0 := Bx.new (w.alloc (.cells #[.pointer (some ⟨q, 0, none⟩)] 89)) #[.int .i64 0, .int .i64 0, .int .i64 0, .int .i64 0, .string ⟨#[]⟩, .bool false, .string ⟨#[]⟩, .string ⟨#[]⟩, .int .i64 0, .int .i64 0, .slice none 0 0, .slice none 0 0, .slice none 0 0, .slice none 0 0] 29
  have hqw := hr.lt
  have HC := Lib.hid hC
  have hB2 : w.heap.size ≤ (w.alloc (.cells #[.pointer (some ⟨q, 0, none⟩)] 89)).heap.size := by simp
  have hne1 : w.heap.size ≠ q := by omega
  have hne2 : (w.alloc (.cells #[.pointer (some ⟨q, 0, none⟩)] 89)).heap.size ≠ q := by omega
  have hne12 : w.heap.size ≠ (w.alloc (.cells #[.pointer (some ⟨q, 0, none⟩)] 89)).heap.size := by simp
  clear hC hr hs
  go_enter Tryz.func44, Tryz.ntmps44
  go_upto_region 1 with fail
  rw [← World.size_alloc w (.cells #[.pointer (some ⟨q, 0, none⟩)] 89)]
  generalize hW : (w.alloc (.cells #[.pointer (some ⟨q, 0, none⟩)] 89)).alloc (.cells #[.int .i64 0, .int .i64 0, .int .i64 0, .int .i64 0, .string ⟨#[]⟩, .bool false, .string ⟨#[]⟩, .string ⟨#[]⟩, .int .i64 0, .int .i64 0, .slice none 0 0, .slice none 0 0, .slice none 0 0, .slice none 0 0] 29) = W at *
  obtain ⟨B2, hB⟩ : ∃ B, B = (w.alloc (.cells #[.pointer (some ⟨q, 0, none⟩)] 89)).heap.size := ⟨_, rfl⟩
  rw [← hB] at hz0 hB2 hne2 hne12 ⊢
  obtain ⟨B1, hB1⟩ : ∃ B, B = w.heap.size := ⟨_, rfl⟩
  rw [← hB1] at hb1 hne1 hne12 ⊢
  clear hB hB1 hW
  have HR0 := Lib.hid H0.out.drew
  have X0 := fun r (h : Bx r B1 #[.pointer (some ⟨q, 0, none⟩)] 89) => (h.cell 0).trans (show (#[.pointer (some ⟨q, 0, none⟩)] : Array Value)[0]? = some (.pointer (some ⟨q, 0, none⟩)) from rfl)
  clear H0
  refine wp_region_noPanic ?_
  refine wp_region_held_drew (S := fun w' => Bx w' B1 #[.pointer (some ⟨q, 0, none⟩)] 89) (by kernel_rfl) ?_ (fun hHeld => ?_)
  · exact hb1.drew
  refine wpAnyH_take (i := 0) (oi := { dst := some 3, op := Op.fieldAddr 89 (Operand.tmp 1) 0, type := 0, pos := "record.go:161", after := #[], guard := none }) (v := .pointer (some ⟨B1, 0, none⟩)) rfl (by kernel_rfl) (by kernel_rfl) (by kernel_rfl) (fun _ _ _ h => h) (Or.inl ⟨by rfl, fun w' hSw => by ((try dsimp only at hSw); have := X0 _ hSw; go_simp)⟩) (by assumption) ?_
  (try simp only [Act.put, List.setIfInBounds_toArray, List.set_cons_zero, List.set_cons_succ])
  refine wpAnyH_take (i := 1) (oi := { dst := some 4, op := Op.load 86 (Operand.tmp 3), type := 86, pos := "record.go:161", after := #[{ on := 0, ground := Ground.data }], guard := none }) (v := .pointer (some ⟨q, 0, none⟩)) rfl (by kernel_rfl) (by kernel_rfl) (by kernel_rfl) (fun _ _ _ h => h) (Or.inl ⟨by rfl, fun w' hSw => by ((try dsimp only at hSw); have := X0 _ hSw; go_simp)⟩) (by assumption) ?_
  (try simp only [Act.put, List.setIfInBounds_toArray, List.set_cons_zero, List.set_cons_succ])
  refine wpAnyH_take (i := 3) (oi := { dst := some 6, op := Op.fieldAddr 89 (Operand.tmp 1) 0, type := 0, pos := "record.go:161", after := #[], guard := none }) (v := .pointer (some ⟨B1, 0, none⟩)) rfl (by kernel_rfl) (by kernel_rfl) (by kernel_rfl) (fun _ _ _ h => h) (Or.inl ⟨by rfl, fun w' hSw => by ((try dsimp only at hSw); have := X0 _ hSw; go_simp)⟩) (by assumption) ?_
  (try simp only [Act.put, List.setIfInBounds_toArray, List.set_cons_zero, List.set_cons_succ])
  refine wpAnyH_take (i := 4) (oi := { dst := some 7, op := Op.load 86 (Operand.tmp 6), type := 86, pos := "record.go:161", after := #[{ on := 3, ground := Ground.data }], guard := none }) (v := .pointer (some ⟨q, 0, none⟩)) rfl (by kernel_rfl) (by kernel_rfl) (by kernel_rfl) (fun _ _ _ h => h) (Or.inl ⟨by rfl, fun w' hSw => by ((try dsimp only at hSw); have := X0 _ hSw; go_simp)⟩) (by assumption) ?_
  (try simp only [Act.put, List.setIfInBounds_toArray, List.set_cons_zero, List.set_cons_succ])
  refine wpAnyH_take (i := 6) (oi := { dst := some 9, op := Op.fieldAddr 89 (Operand.tmp 1) 0, type := 0, pos := "record.go:161", after := #[], guard := none }) (v := .pointer (some ⟨B1, 0, none⟩)) rfl (by kernel_rfl) (by kernel_rfl) (by kernel_rfl) (fun _ _ _ h => h) (Or.inl ⟨by rfl, fun w' hSw => by ((try dsimp only at hSw); have := X0 _ hSw; go_simp)⟩) (by assumption) ?_
  (try simp only [Act.put, List.setIfInBounds_toArray, List.set_cons_zero, List.set_cons_succ])
  refine wpAnyH_take (i := 7) (oi := { dst := some 10, op := Op.load 86 (Operand.tmp 9), type := 86, pos := "record.go:161", after := #[{ on := 6, ground := Ground.data }], guard := none }) (v := .pointer (some ⟨q, 0, none⟩)) rfl (by kernel_rfl) (by kernel_rfl) (by kernel_rfl) (fun _ _ _ h => h) (Or.inl ⟨by rfl, fun w' hSw => by ((try dsimp only at hSw); have := X0 _ hSw; go_simp)⟩) (by assumption) ?_
  (try simp only [Act.put, List.setIfInBounds_toArray, List.set_cons_zero, List.set_cons_succ])
  refine wpAnyH_take (i := 9) (oi := { dst := some 12, op := Op.fieldAddr 89 (Operand.tmp 1) 0, type := 0, pos := "record.go:161", after := #[], guard := none }) (v := .pointer (some ⟨B1, 0, none⟩)) rfl (by kernel_rfl) (by kernel_rfl) (by kernel_rfl) (fun _ _ _ h => h) (Or.inl ⟨by rfl, fun w' hSw => by ((try dsimp only at hSw); have := X0 _ hSw; go_simp)⟩) (by assumption) ?_
  (try simp only [Act.put, List.setIfInBounds_toArray, List.set_cons_zero, List.set_cons_succ])
  refine wpAnyH_take (i := 10) (oi := { dst := some 13, op := Op.load 86 (Operand.tmp 12), type := 86, pos := "record.go:161", after := #[{ on := 9, ground := Ground.data }], guard := none }) (v := .pointer (some ⟨q, 0, none⟩)) rfl (by kernel_rfl) (by kernel_rfl) (by kernel_rfl) (fun _ _ _ h => h) (Or.inl ⟨by rfl, fun w' hSw => by ((try dsimp only at hSw); have := X0 _ hSw; go_simp)⟩) (by assumption) ?_
  (try simp only [Act.put, List.setIfInBounds_toArray, List.set_cons_zero, List.set_cons_succ])
  refine wpAnyH_take (i := 12) (oi := { dst := some 15, op := Op.load 89 (Operand.tmp 1), type := 89, pos := "record.go:161", after := #[], guard := none }) (v := .agg #[.pointer (some ⟨q, 0, none⟩)]) rfl (by kernel_rfl) (by kernel_rfl) (by kernel_rfl) (fun _ _ _ h => h) (Or.inl ⟨by rfl, fun w' hSw => by ((try dsimp only at hSw); have := X0 _ hSw; go_simp)⟩) (by assumption) ?_
  (try simp only [Act.put, List.setIfInBounds_toArray, List.set_cons_zero, List.set_cons_succ])
  refine wpAnyH_take (i := 14) (oi := { dst := some 17, op := Op.load 89 (Operand.tmp 1), type := 89, pos := "record.go:161", after := #[], guard := none }) (v := .agg #[.pointer (some ⟨q, 0, none⟩)]) rfl (by kernel_rfl) (by kernel_rfl) (by kernel_rfl) (fun _ _ _ h => h) (Or.inl ⟨by rfl, fun w' hSw => by ((try dsimp only at hSw); have := X0 _ hSw; go_simp)⟩) (by assumption) ?_
  (try simp only [Act.put, List.setIfInBounds_toArray, List.set_cons_zero, List.set_cons_succ])
  refine wpAnyH_take (i := 16) (oi := { dst := some 19, op := Op.load 89 (Operand.tmp 1), type := 89, pos := "record.go:161", after := #[], guard := none }) (v := .agg #[.pointer (some ⟨q, 0, none⟩)]) rfl (by kernel_rfl) (by kernel_rfl) (by kernel_rfl) (fun _ _ _ h => h) (Or.inl ⟨by rfl, fun w' hSw => by ((try dsimp only at hSw); have := X0 _ hSw; go_simp)⟩) (by assumption) ?_
  (try simp only [Act.put, List.setIfInBounds_toArray, List.set_cons_zero, List.set_cons_succ])
  refine wpAnyH_take (i := 18) (oi := { dst := some 21, op := Op.load 89 (Operand.tmp 1), type := 89, pos := "record.go:161", after := #[], guard := none }) (v := .agg #[.pointer (some ⟨q, 0, none⟩)]) rfl (by kernel_rfl) (by kernel_rfl) (by kernel_rfl) (fun _ _ _ h => h) (Or.inl ⟨by rfl, fun w' hSw => by ((try dsimp only at hSw); have := X0 _ hSw; go_simp)⟩) (by assumption) ?_
  (try simp only [Act.put, List.setIfInBounds_toArray, List.set_cons_zero, List.set_cons_succ])
  refine wpAnyH_take (i := 20) (oi := { dst := some 23, op := Op.fieldAddr 89 (Operand.tmp 1) 0, type := 0, pos := "record.go:161", after := #[], guard := none }) (v := .pointer (some ⟨B1, 0, none⟩)) rfl (by kernel_rfl) (by kernel_rfl) (by kernel_rfl) (fun _ _ _ h => h) (Or.inl ⟨by rfl, fun w' hSw => by ((try dsimp only at hSw); have := X0 _ hSw; go_simp)⟩) (by assumption) ?_
  (try simp only [Act.put, List.setIfInBounds_toArray, List.set_cons_zero, List.set_cons_succ])
  refine wpAnyH_take (i := 21) (oi := { dst := some 24, op := Op.load 86 (Operand.tmp 23), type := 86, pos := "record.go:161", after := #[{ on := 20, ground := Ground.data }], guard := none }) (v := .pointer (some ⟨q, 0, none⟩)) rfl (by kernel_rfl) (by kernel_rfl) (by kernel_rfl) (fun _ _ _ h => h) (Or.inl ⟨by rfl, fun w' hSw => by ((try dsimp only at hSw); have := X0 _ hSw; go_simp)⟩) (by assumption) ?_
  (try simp only [Act.put, List.setIfInBounds_toArray, List.set_cons_zero, List.set_cons_succ])
  refine wpAnyH_take (i := 23) (oi := { dst := some 26, op := Op.fieldAddr 89 (Operand.tmp 1) 0, type := 0, pos := "record.go:161", after := #[], guard := none }) (v := .pointer (some ⟨B1, 0, none⟩)) rfl (by kernel_rfl) (by kernel_rfl) (by kernel_rfl) (fun _ _ _ h => h) (Or.inl ⟨by rfl, fun w' hSw => by ((try dsimp only at hSw); have := X0 _ hSw; go_simp)⟩) (by assumption) ?_
  (try simp only [Act.put, List.setIfInBounds_toArray, List.set_cons_zero, List.set_cons_succ])
  refine wpAnyH_take (i := 24) (oi := { dst := some 27, op := Op.load 86 (Operand.tmp 26), type := 86, pos := "record.go:161", after := #[{ on := 23, ground := Ground.data }], guard := none }) (v := .pointer (some ⟨q, 0, none⟩)) rfl (by kernel_rfl) (by kernel_rfl) (by kernel_rfl) (fun _ _ _ h => h) (Or.inl ⟨by rfl, fun w' hSw => by ((try dsimp only at hSw); have := X0 _ hSw; go_simp)⟩) (by assumption) ?_
  (try simp only [Act.put, List.setIfInBounds_toArray, List.set_cons_zero, List.set_cons_succ])
  refine wpAnyH_take (i := 27) (oi := { dst := some 30, op := Op.load 89 (Operand.tmp 1), type := 89, pos := "record.go:161", after := #[], guard := none }) (v := .agg #[.pointer (some ⟨q, 0, none⟩)]) rfl (by kernel_rfl) (by kernel_rfl) (by kernel_rfl) (fun _ _ _ h => h) (Or.inl ⟨by rfl, fun w' hSw => by ((try dsimp only at hSw); have := X0 _ hSw; go_simp)⟩) (by assumption) ?_
  (try simp only [Act.put, List.setIfInBounds_toArray, List.set_cons_zero, List.set_cons_succ])
  refine wpAnyH_take (i := 29) (oi := { dst := some 32, op := Op.load 89 (Operand.tmp 1), type := 89, pos := "record.go:161", after := #[], guard := none }) (v := .agg #[.pointer (some ⟨q, 0, none⟩)]) rfl (by kernel_rfl) (by kernel_rfl) (by kernel_rfl) (fun _ _ _ h => h) (Or.inl ⟨by rfl, fun w' hSw => by ((try dsimp only at hSw); have := X0 _ hSw; go_simp)⟩) (by assumption) ?_
  (try simp only [Act.put, List.setIfInBounds_toArray, List.set_cons_zero, List.set_cons_succ])
  refine wpAnyH_take (i := 30) (oi := { dst := some 33, op := Op.load 89 (Operand.tmp 1), type := 89, pos := "record.go:161", after := #[], guard := none }) (v := .agg #[.pointer (some ⟨q, 0, none⟩)]) rfl (by kernel_rfl) (by kernel_rfl) (by kernel_rfl) (fun _ _ _ h => h) (Or.inl ⟨by rfl, fun w' hSw => by ((try dsimp only at hSw); have := X0 _ hSw; go_simp)⟩) (by assumption) ?_
  (try simp only [Act.put, List.setIfInBounds_toArray, List.set_cons_zero, List.set_cons_succ])
  refine wpAnyH_take (i := 31) (oi := { dst := some 34, op := Op.makeFunc (Go.Fn.func 118) #[Operand.tmp 33] #[], type := 140, pos := "record.go:161", after := #[{ on := 30, ground := Ground.data }], guard := none }) (v := .func (.func 118) #[.agg #[.pointer (some ⟨q, 0, none⟩)]] #[]) rfl (by kernel_rfl) (by kernel_rfl) (by kernel_rfl) (fun _ _ _ h => h) (Or.inl ⟨by rfl, fun w' hSw => by ((try dsimp only at hSw); have := X0 _ hSw; go_simp)⟩) (by assumption) ?_
  (try simp only [Act.put, List.setIfInBounds_toArray, List.set_cons_zero, List.set_cons_succ])
  refine wpAnyH_take (i := 33) (oi := { dst := some 36, op := Op.load 89 (Operand.tmp 1), type := 89, pos := "record.go:161", after := #[], guard := none }) (v := .agg #[.pointer (some ⟨q, 0, none⟩)]) rfl (by kernel_rfl) (by kernel_rfl) (by kernel_rfl) (fun _ _ _ h => h) (Or.inl ⟨by rfl, fun w' hSw => by ((try dsimp only at hSw); have := X0 _ hSw; go_simp)⟩) (by assumption) ?_
  (try simp only [Act.put, List.setIfInBounds_toArray, List.set_cons_zero, List.set_cons_succ])
  refine wpAnyH_take (i := 34) (oi := { dst := some 37, op := Op.load 89 (Operand.tmp 1), type := 89, pos := "record.go:161", after := #[], guard := none }) (v := .agg #[.pointer (some ⟨q, 0, none⟩)]) rfl (by kernel_rfl) (by kernel_rfl) (by kernel_rfl) (fun _ _ _ h => h) (Or.inl ⟨by rfl, fun w' hSw => by ((try dsimp only at hSw); have := X0 _ hSw; go_simp)⟩) (by assumption) ?_
  (try simp only [Act.put, List.setIfInBounds_toArray, List.set_cons_zero, List.set_cons_succ])
  refine wpAnyH_take (i := 35) (oi := { dst := some 38, op := Op.makeFunc (Go.Fn.func 120) #[Operand.tmp 37] #[], type := 142, pos := "record.go:161", after := #[{ on := 34, ground := Ground.data }], guard := none }) (v := .func (.func 120) #[.agg #[.pointer (some ⟨q, 0, none⟩)]] #[]) rfl (by kernel_rfl) (by kernel_rfl) (by kernel_rfl) (fun _ _ _ h => h) (Or.inl ⟨by rfl, fun w' hSw => by ((try dsimp only at hSw); have := X0 _ hSw; go_simp)⟩) (by assumption) ?_
  (try simp only [Act.put, List.setIfInBounds_toArray, List.set_cons_zero, List.set_cons_succ])
  refine wpAnyH_take (i := 37) (oi := { dst := some 40, op := Op.load 89 (Operand.tmp 1), type := 89, pos := "record.go:161", after := #[], guard := none }) (v := .agg #[.pointer (some ⟨q, 0, none⟩)]) rfl (by kernel_rfl) (by kernel_rfl) (by kernel_rfl) (fun _ _ _ h => h) (Or.inl ⟨by rfl, fun w' hSw => by ((try dsimp only at hSw); have := X0 _ hSw; go_simp)⟩) (by assumption) ?_
  (try simp only [Act.put, List.setIfInBounds_toArray, List.set_cons_zero, List.set_cons_succ])
  refine wpAnyH_take (i := 38) (oi := { dst := some 41, op := Op.load 89 (Operand.tmp 1), type := 89, pos := "record.go:161", after := #[], guard := none }) (v := .agg #[.pointer (some ⟨q, 0, none⟩)]) rfl (by kernel_rfl) (by kernel_rfl) (by kernel_rfl) (fun _ _ _ h => h) (Or.inl ⟨by rfl, fun w' hSw => by ((try dsimp only at hSw); have := X0 _ hSw; go_simp)⟩) (by assumption) ?_
  (try simp only [Act.put, List.setIfInBounds_toArray, List.set_cons_zero, List.set_cons_succ])
  refine wpAnyH_take (i := 39) (oi := { dst := some 42, op := Op.makeFunc (Go.Fn.func 122) #[Operand.tmp 41] #[], type := 144, pos := "record.go:161", after := #[{ on := 38, ground := Ground.data }], guard := none }) (v := .func (.func 122) #[.agg #[.pointer (some ⟨q, 0, none⟩)]] #[]) rfl (by kernel_rfl) (by kernel_rfl) (by kernel_rfl) (fun _ _ _ h => h) (Or.inl ⟨by rfl, fun w' hSw => by ((try dsimp only at hSw); have := X0 _ hSw; go_simp)⟩) (by assumption) ?_
  (try simp only [Act.put, List.setIfInBounds_toArray, List.set_cons_zero, List.set_cons_succ])
  refine wpAnyH_ready (rs := [2]) (by kernel_rfl) (by simp) ?_
  refine AllReadyH.cons (o := { dst := some 5, op := Op.call { callee := Callee.value (Operand.func 112), args := #[Operand.tmp 4], argTypes := #[86] }, type := 3, pos := "record.go:162", after := #[{ on := 1, ground := Ground.data }], guard := none }) rfl (fun K hK => ?_) ?_
  · go_simp; go_at_call 112; refine (N1.out _ HR0.out.1 (Nat.le_trans HC.out HR0.out.size)).mono ?_; rintro e u1 ⟨rfl, hr⟩; have hb2 := hb1.drew.only hr.2 hne1 (by decide); have hz1 := hz0.drew.only hr.2 hne2 (by decide); have HR1 := Lib.hid (HR0.out.then hr); clear hr
    refine hK.out _ _ ?_ (fun hHeld => ?_)
    · exact hb2
    clear hK K
    (try simp only [Act.put, List.setIfInBounds_toArray, List.set_cons_zero, List.set_cons_succ])
    refine wpAnyH_ready (rs := [5]) (by kernel_rfl) (by simp) ?_
    refine AllReadyH.cons (o := { dst := some 8, op := Op.call { callee := Callee.value (Operand.func 112), args := #[Operand.tmp 7], argTypes := #[86] }, type := 3, pos := "record.go:163", after := #[{ on := 4, ground := Ground.data }, { on := 2, ground := Ground.chain }], guard := none }) rfl (fun K hK => ?_) ?_
    · go_simp; go_at_call 112; refine (N2.out _ HR1.out.1 (Nat.le_trans HC.out HR1.out.size)).mono ?_; rintro e u2 ⟨rfl, hr⟩; have hb3 := hb2.only hr.2 hne1 (by decide); have hz2 := hz1.only hr.2 hne2 (by decide); have HR2 := Lib.hid (HR1.out.then hr); clear hr
      refine hK.out _ _ ?_ (fun hHeld => ?_)
      · exact hb3
      clear hK K
      (try simp only [Act.put, List.setIfInBounds_toArray, List.set_cons_zero, List.set_cons_succ])
      refine wpAnyH_ready (rs := [8]) (by kernel_rfl) (by simp) ?_
      refine AllReadyH.cons (o := { dst := some 11, op := Op.call { callee := Callee.value (Operand.func 113), args := #[Operand.tmp 10], argTypes := #[86] }, type := 3, pos := "record.go:164", after := #[{ on := 7, ground := Ground.data }, { on := 5, ground := Ground.chain }], guard := none }) rfl (fun K hK => ?_) ?_
      · go_simp; go_at_call 113; refine (N3.out _ HR2.out.1 (Nat.le_trans HC.out HR2.out.size)).mono ?_; rintro e u3 ⟨rfl, hr⟩; have hb4 := hb3.only hr.2 hne1 (by decide); have hz3 := hz2.only hr.2 hne2 (by decide); have HR3 := Lib.hid (HR2.out.then hr); clear hr
        refine hK.out _ _ ?_ (fun hHeld => ?_)
        · exact hb4
        clear hK K
        (try simp only [Act.put, List.setIfInBounds_toArray, List.set_cons_zero, List.set_cons_succ])
        refine wpAnyH_ready (rs := [11]) (by kernel_rfl) (by simp) ?_
        refine AllReadyH.cons (o := { dst := some 14, op := Op.call { callee := Callee.value (Operand.func 113), args := #[Operand.tmp 13], argTypes := #[86] }, type := 3, pos := "record.go:165", after := #[{ on := 10, ground := Ground.data }, { on := 8, ground := Ground.chain }], guard := none }) rfl (fun K hK => ?_) ?_
        · go_simp; go_at_call 113; refine (N4.out _ HR3.out.1 (Nat.le_trans HC.out HR3.out.size)).mono ?_; rintro e u4 ⟨rfl, hr⟩; have hb5 := hb4.only hr.2 hne1 (by decide); have hz4 := hz3.only hr.2 hne2 (by decide); have HR4 := Lib.hid (HR3.out.then hr); clear hr
          refine hK.out _ _ ?_ (fun hHeld => ?_)
          · exact hb5
          clear hK K
          (try simp only [Act.put, List.setIfInBounds_toArray, List.set_cons_zero, List.set_cons_succ])
          refine wpAnyH_ready (rs := [13]) (by kernel_rfl) (by simp) ?_
          refine AllReadyH.cons (o := { dst := some 16, op := Op.call { callee := Callee.value (Operand.func 114), args := #[Operand.tmp 15], argTypes := #[89] }, type := 9, pos := "record.go:166", after := #[{ on := 12, ground := Ground.data }, { on := 11, ground := Ground.chain }], guard := none }) rfl (fun K hK => ?_) ?_
          · go_simp; go_at_call 114; refine (N5.out _ HR4.out.1 (Nat.le_trans HC.out HR4.out.size)).mono ?_; rintro e u5 ⟨rfl, hr⟩; have hb6 := hb5.only hr.2 hne1 (by decide); have hz5 := hz4.only hr.2 hne2 (by decide); have HR5 := Lib.hid (HR4.out.then hr); clear hr
            refine hK.out _ _ ?_ (fun hHeld => ?_)
            · exact hb6
            clear hK K
            (try simp only [Act.put, List.setIfInBounds_toArray, List.set_cons_zero, List.set_cons_succ])
            refine wpAnyH_ready (rs := [15]) (by kernel_rfl) (by simp) ?_
            refine AllReadyH.cons (o := { dst := some 18, op := Op.call { callee := Callee.value (Operand.func 115), args := #[Operand.tmp 17], argTypes := #[89] }, type := 4, pos := "record.go:167", after := #[{ on := 14, ground := Ground.data }, { on := 13, ground := Ground.chain }], guard := none }) rfl (fun K hK => ?_) ?_
            · go_simp; go_at_call 115; refine (N6.out _ HR5.out.1 (Nat.le_trans HC.out HR5.out.size)).mono ?_; rintro e u6 ⟨rfl, hr⟩; have hb7 := hb6.only hr.2 hne1 (by decide); have hz6 := hz5.only hr.2 hne2 (by decide); have HR6 := Lib.hid (HR5.out.then hr); clear hr
              refine hK.out _ _ ?_ (fun hHeld => ?_)
              · exact hb7
              clear hK K
              (try simp only [Act.put, List.setIfInBounds_toArray, List.set_cons_zero, List.set_cons_succ])
              refine wpAnyH_ready (rs := [17]) (by kernel_rfl) (by simp) ?_
              refine AllReadyH.cons (o := { dst := some 20, op := Op.call { callee := Callee.value (Operand.func 114), args := #[Operand.tmp 19], argTypes := #[89] }, type := 9, pos := "record.go:168", after := #[{ on := 16, ground := Ground.data }, { on := 15, ground := Ground.chain }], guard := none }) rfl (fun K hK => ?_) ?_
              · go_simp; go_at_call 114; refine (N7.out _ HR6.out.1 (Nat.le_trans HC.out HR6.out.size)).mono ?_; rintro e u7 ⟨rfl, hr⟩; have hb8 := hb7.only hr.2 hne1 (by decide); have hz7 := hz6.only hr.2 hne2 (by decide); have HR7 := Lib.hid (HR6.out.then hr); clear hr
                refine hK.out _ _ ?_ (fun hHeld => ?_)
                · exact hb8
                clear hK K
                (try simp only [Act.put, List.setIfInBounds_toArray, List.set_cons_zero, List.set_cons_succ])
                refine wpAnyH_ready (rs := [19]) (by kernel_rfl) (by simp) ?_
                refine AllReadyH.cons (o := { dst := some 22, op := Op.call { callee := Callee.value (Operand.func 114), args := #[Operand.tmp 21], argTypes := #[89] }, type := 9, pos := "record.go:168", after := #[{ on := 18, ground := Ground.data }, { on := 17, ground := Ground.chain }], guard := none }) rfl (fun K hK => ?_) ?_
                · go_simp; go_at_call 114; refine (N8.out _ HR7.out.1 (Nat.le_trans HC.out HR7.out.size)).mono ?_; rintro e u8 ⟨rfl, hr⟩; have hb9 := hb8.only hr.2 hne1 (by decide); have hz8 := hz7.only hr.2 hne2 (by decide); have HR8 := Lib.hid (HR7.out.then hr); clear hr
                  refine hK.out _ _ ?_ (fun hHeld => ?_)
                  · exact hb9
                  clear hK K
                  (try simp only [Act.put, List.setIfInBounds_toArray, List.set_cons_zero, List.set_cons_succ])
                  refine wpAnyH_ready (rs := [22]) (by kernel_rfl) (by simp) ?_
                  refine AllReadyH.cons (o := { dst := some 25, op := Op.call { callee := Callee.value (Operand.func 112), args := #[Operand.tmp 24], argTypes := #[86] }, type := 3, pos := "record.go:168", after := #[{ on := 21, ground := Ground.data }, { on := 19, ground := Ground.chain }], guard := none }) rfl (fun K hK => ?_) ?_
                  · go_simp; go_at_call 112; refine (N9.out _ HR8.out.1 (Nat.le_trans HC.out HR8.out.size)).mono ?_; rintro e u9 ⟨rfl, hr⟩; have hb10 := hb9.only hr.2 hne1 (by decide); have hz9 := hz8.only hr.2 hne2 (by decide); have HR9 := Lib.hid (HR8.out.then hr); clear hr
                    refine hK.out _ _ ?_ (fun hHeld => ?_)
                    · exact hb10
                    clear hK K
                    (try simp only [Act.put, List.setIfInBounds_toArray, List.set_cons_zero, List.set_cons_succ])
                    refine wpAnyH_ready (rs := [25]) (by kernel_rfl) (by simp) ?_
                    refine AllReadyH.cons (o := { dst := some 28, op := Op.call { callee := Callee.value (Operand.func 112), args := #[Operand.tmp 27], argTypes := #[86] }, type := 3, pos := "record.go:168", after := #[{ on := 24, ground := Ground.data }, { on := 22, ground := Ground.chain }], guard := none }) rfl (fun K hK => ?_) ?_
                    · go_simp; go_at_call 112; refine (N10.out _ HR9.out.1 (Nat.le_trans HC.out HR9.out.size)).mono ?_; rintro e u10 ⟨rfl, hr⟩; have hb11 := hb10.only hr.2 hne1 (by decide); have hz10 := hz9.only hr.2 hne2 (by decide); have HR10 := Lib.hid (HR9.out.then hr); clear hr
                      refine hK.out _ _ ?_ (fun hHeld => ?_)
                      · exact hb11
                      clear hK K
                      (try simp only [Act.put, List.setIfInBounds_toArray, List.set_cons_zero, List.set_cons_succ])
                      refine wpAnyH_take (i := 26) (oi := { dst := some 29, op := Op.build 23 #[(0, Operand.tmp 20), (1, Operand.tmp 22), (2, Operand.tmp 25), (3, Operand.tmp 28)], type := 23, pos := "record.go:161", after := #[{ on := 17, ground := Ground.data }, { on := 19, ground := Ground.data }, { on := 22, ground := Ground.data }, { on := 25, ground := Ground.data }], guard := none }) (v := .agg #[.string v7, .string v8, .int .i64 v9, .int .i64 v10]) rfl (by kernel_rfl) (by kernel_rfl) (by kernel_rfl) (fun _ _ _ h => h) (Or.inl ⟨by rfl, fun w' hSw => by ((try dsimp only at hSw); have := X0 _ hSw; go_simp)⟩) (by assumption) ?_
                      (try simp only [Act.put, List.setIfInBounds_toArray, List.set_cons_zero, List.set_cons_succ])
                      refine wpAnyH_ready (rs := [28]) (by kernel_rfl) (by simp) ?_
                      refine AllReadyH.cons (o := { dst := some 31, op := Op.call { callee := Callee.value (Operand.func 116), args := #[Operand.tmp 30], argTypes := #[89] }, type := 24, pos := "record.go:169", after := #[{ on := 27, ground := Ground.data }, { on := 25, ground := Ground.chain }], guard := none }) rfl (fun K hK => ?_) ?_
                      · go_simp; go_at_call 116; refine (N11.out _ HR10.out.1 (Nat.le_trans HC.out HR10.out.size)).mono ?_; rintro e u11 ⟨A11, c11, rfl, hro, hr⟩; have hb12 := hb11.only hr.2 hne1 (by decide); have hz11 := hz10.only hr.2 hne2 (by decide); have HR11 := Lib.hid (HR10.out.then hr); have HG11 := Lib.hid (RowI.base hro HR10.out.2.size); clear hro; clear hr
                        refine hK.out _ _ ?_ (fun hHeld => ?_)
                        · exact hb12
                        clear hK K
                        (try simp only [Act.put, List.setIfInBounds_toArray, List.set_cons_zero, List.set_cons_succ])
                        refine wpAnyH_ready (rs := [32]) (by kernel_rfl) (by simp) ?_
                        refine AllReadyH.cons (o := { dst := some 35, op := Op.call { callee := Callee.value (Operand.func 117), args := #[Operand.tmp 32, Operand.const (Value.int IntKind.i64 40), Operand.tmp 34], argTypes := #[89, 3, 140] }, type := 25, pos := "record.go:170", after := #[{ on := 29, ground := Ground.data }, { on := 31, ground := Ground.data }, { on := 28, ground := Ground.chain }], guard := none }) rfl (fun K hK => ?_) ?_
                        · go_simp; go_at_call 117; refine (N12.out _ HR11.out.1 (Nat.le_trans HC.out HR11.out.size)).mono ?_; rintro e u12 ⟨A12, c12, rfl, hro, hr⟩; have hb13 := hb12.only hr.2 hne1 (by decide); have hz12 := hz11.only hr.2 hne2 (by decide); have HR12 := Lib.hid (HR11.out.then hr); have HG12 := Lib.hid (RowI.only HG11.out hr.2 HR11.out.1); clear HG11; have HP12 := Lib.hid (RowP.base hro HR11.out.2.size); clear hro; clear hr
                          refine hK.out _ _ ?_ (fun hHeld => ?_)
                          · exact hb13
                          clear hK K
                          (try simp only [Act.put, List.setIfInBounds_toArray, List.set_cons_zero, List.set_cons_succ])
                          refine wpAnyH_ready (rs := [36]) (by kernel_rfl) (by simp) ?_
                          refine AllReadyH.cons (o := { dst := some 39, op := Op.call { callee := Callee.value (Operand.func 119), args := #[Operand.tmp 36, Operand.const (Value.int IntKind.i64 8), Operand.tmp 38], argTypes := #[89, 3, 142] }, type := 26, pos := "record.go:171", after := #[{ on := 33, ground := Ground.data }, { on := 35, ground := Ground.data }, { on := 32, ground := Ground.chain }], guard := none }) rfl (fun K hK => ?_) ?_
                          · go_simp; go_at_call 119; refine (N13.out _ HR12.out.1 (Nat.le_trans HC.out HR12.out.size)).mono ?_; rintro e u13 ⟨A13, c13, rfl, ⟨ss, hro⟩, hr⟩; have hb14 := hb13.only hr.2 hne1 (by decide); have hz13 := hz12.only hr.2 hne2 (by decide); have HR13 := Lib.hid (HR12.out.then hr); have HG13 := Lib.hid (RowI.only HG12.out hr.2 HR12.out.1); clear HG12; have HP13 := Lib.hid (RowP.only HP12.out hr.2 HR12.out.1); clear HP12; have HT13 := Lib.hid (RowT.base hro HR12.out.2.size); clear hro; clear hr
                            refine hK.out _ _ ?_ (fun hHeld => ?_)
                            · exact hb14
                            clear hK K
                            (try simp only [Act.put, List.setIfInBounds_toArray, List.set_cons_zero, List.set_cons_succ])
                            refine wpAnyH_ready (rs := [40]) (by kernel_rfl) (by simp) ?_
                            refine AllReadyH.cons (o := { dst := some 43, op := Op.call { callee := Callee.value (Operand.func 121), args := #[Operand.tmp 40, Operand.const (Value.int IntKind.i64 64), Operand.tmp 42], argTypes := #[89, 3, 144] }, type := 27, pos := "record.go:172", after := #[{ on := 37, ground := Ground.data }, { on := 39, ground := Ground.data }, { on := 36, ground := Ground.chain }], guard := none }) rfl (fun K hK => ?_) ?_
                            · go_simp; go_at_call 121; refine (N14.out _ HR13.out.1 (Nat.le_trans HC.out HR13.out.size)).mono ?_; rintro e u14 ⟨A14, c14, rfl, hro, hr⟩; have hb15 := hb14.only hr.2 hne1 (by decide); have hz14 := hz13.only hr.2 hne2 (by decide); have HR14 := Lib.hid (HR13.out.then hr); have HG14 := Lib.hid (RowI.only HG13.out hr.2 HR13.out.1); clear HG13; have HP14 := Lib.hid (RowP.only HP13.out hr.2 HR13.out.1); clear HP13; have HT14 := Lib.hid (RowT.only HT13.out hr.2 HR13.out.1); clear HT13; have HD14 := Lib.hid (RowD.base hro HR13.out.2.size); clear hro; clear hr
                              refine hK.out _ _ ?_ (fun hHeld => ?_)
                              · exact hb15
                              clear hK K
                              (try simp only [Act.put, List.setIfInBounds_toArray, List.set_cons_zero, List.set_cons_succ])
                              refine wpAnyH_take (i := 41) (oi := { dst := some 44, op := Op.build 29 #[(0, Operand.tmp 5), (1, Operand.tmp 8), (2, Operand.tmp 11), (3, Operand.tmp 14), (4, Operand.tmp 16), (5, Operand.tmp 18), (6, Operand.tmp 29), (7, Operand.tmp 31), (8, Operand.tmp 35), (9, Operand.tmp 39), (10, Operand.tmp 43)], type := 29, pos := "record.go:161", after := #[{ on := 2, ground := Ground.data }, { on := 5, ground := Ground.data }, { on := 8, ground := Ground.data }, { on := 11, ground := Ground.data }, { on := 13, ground := Ground.data }, { on := 15, ground := Ground.data }, { on := 26, ground := Ground.data }, { on := 28, ground := Ground.data }, { on := 32, ground := Ground.data }, { on := 36, ground := Ground.data }, { on := 40, ground := Ground.data }], guard := none }) (v := .agg #[.int .i64 v1, .int .i64 v2, .int .i64 v3, .int .i64 v4, .string v5, .bool v6, .string v7, .string v8, .int .i64 v9, .int .i64 v10, .slice A11 v11.length c11, .slice A12 v12.length c12, .slice A13 v13.length c13, .slice A14 v14.length c14]) rfl (by kernel_rfl) (by kernel_rfl) (by kernel_rfl) (fun _ _ _ h => h) (Or.inl ⟨by rfl, fun w' hSw => by ((try dsimp only at hSw); have := X0 _ hSw; go_simp)⟩) (by assumption) ?_
                              (try simp only [Act.put, List.setIfInBounds_toArray, List.set_cons_zero, List.set_cons_succ])

                              refine wpAnyH_ready (rs := [42]) (by kernel_rfl) (by simp) ?_
                              refine AllReadyH.cons (o := { dst := none, op := Op.store 29 (Operand.tmp 2) (Operand.tmp 44), type := 0, pos := "record.go:161", after := #[{ on := 41, ground := Ground.data }, { on := 40, ground := Ground.chain }, { on := 0, ground := Ground.phase }, { on := 1, ground := Ground.phase }, { on := 2, ground := Ground.phase }, { on := 3, ground := Ground.phase }, { on := 4, ground := Ground.phase }, { on := 5, ground := Ground.phase }, { on := 6, ground := Ground.phase }, { on := 7, ground := Ground.phase }, { on := 8, ground := Ground.phase }, { on := 9, ground := Ground.phase }, { on := 10, ground := Ground.phase }, { on := 11, ground := Ground.phase }, { on := 12, ground := Ground.phase }, { on := 13, ground := Ground.phase }, { on := 14, ground := Ground.phase }, { on := 15, ground := Ground.phase }, { on := 16, ground := Ground.phase }, { on := 17, ground := Ground.phase }, { on := 18, ground := Ground.phase }, { on := 19, ground := Ground.phase }, { on := 20, ground := Ground.phase }, { on := 21, ground := Ground.phase }, { on := 22, ground := Ground.phase }, { on := 23, ground := Ground.phase }, { on := 24, ground := Ground.phase }, { on := 25, ground := Ground.phase }, { on := 26, ground := Ground.phase }, { on := 27, ground := Ground.phase }, { on := 28, ground := Ground.phase }, { on := 29, ground := Ground.phase }, { on := 30, ground := Ground.phase }, { on := 31, ground := Ground.phase }, { on := 32, ground := Ground.phase }, { on := 33, ground := Ground.phase }, { on := 34, ground := Ground.phase }, { on := 35, ground := Ground.phase }, { on := 36, ground := Ground.phase }, { on := 37, ground := Ground.phase }, { on := 38, ground := Ground.phase }, { on := 39, ground := Ground.phase }, { on := 40, ground := Ground.phase }, { on := 41, ground := Ground.phase }], guard := none }) rfl (fun K hK => ?_) ?_
                              · refine step_store_row rfl 29 (.tmp 2) (.tmp 44) rfl B2 #[.int .i64 v1, .int .i64 v2, .int .i64 v3, .int .i64 v4, .string v5, .bool v6, .string v7, .string v8, .int .i64 v9, .int .i64 v10, .slice A11 v11.length c11, .slice A12 v12.length c12, .slice A13 v13.length c13, .slice A14 v14.length c14] rfl rfl 29 _ hz14 (by kernel_rfl) rfl (by simp [Value.oneCell']) ?_
                                refine hK.out _ _ ?_ (fun hHeld => ?_)
                                · exact hb15.orow hne12 _
                                clear hK K
                                (try simp only [Act.put, List.setIfInBounds_toArray, List.set_cons_zero, List.set_cons_succ])
                                refine wpAnyH_done (by kernel_rfl) ?_ _
                                refine NoPanic.normal ?_
                                have HZ : Bx (u14.setRow B2 #[.int .i64 v1, .int .i64 v2, .int .i64 v3, .int .i64 v4, .string v5, .bool v6, .string v7, .string v8, .int .i64 v9, .int .i64 v10, .slice A11 v11.length c11, .slice A12 v12.length c12, .slice A13 v13.length c13, .slice A14 v14.length c14]) B2 #[.int .i64 v1, .int .i64 v2, .int .i64 v3, .int .i64 v4, .string v5, .bool v6, .string v7, .string v8, .int .i64 v9, .int .i64 v10, .slice A11 v11.length c11, .slice A12 v12.length c12, .slice A13 v13.length c13, .slice A14 v14.length c14] 29 := hz14.row _
                                have HR := Lib.hid (ReadS.row HR14.out HC.out hB2 hqw : ReadS C q w t14 (u14.setRow B2 #[.int .i64 v1, .int .i64 v2, .int .i64 v3, .int .i64 v4, .string v5, .bool v6, .string v7, .string v8, .int .i64 v9, .int .i64 v10, .slice A11 v11.length c11, .slice A12 v12.length c12, .slice A13 v13.length c13, .slice A14 v14.length c14]))
                                have HOG := Lib.hid (RowI.aside (HG14.out) (Aside.row B2 u14 #[.int .i64 v1, .int .i64 v2, .int .i64 v3, .int .i64 v4, .string v5, .bool v6, .string v7, .string v8, .int .i64 v9, .int .i64 v10, .slice A11 v11.length c11, .slice A12 v12.length c12, .slice A13 v13.length c13, .slice A14 v14.length c14]) hz14 (by decide) : RowI w.heap.size (u14.setRow B2 #[.int .i64 v1, .int .i64 v2, .int .i64 v3, .int .i64 v4, .string v5, .bool v6, .string v7, .string v8, .int .i64 v9, .int .i64 v10, .slice A11 v11.length c11, .slice A12 v12.length c12, .slice A13 v13.length c13, .slice A14 v14.length c14]) ⟨A11, v11.length, c11⟩ v11)
                                have HOP := Lib.hid (RowP.aside (HP14.out) (Aside.row B2 u14 #[.int .i64 v1, .int .i64 v2, .int .i64 v3, .int .i64 v4, .string v5, .bool v6, .string v7, .string v8, .int .i64 v9, .int .i64 v10, .slice A11 v11.length c11, .slice A12 v12.length c12, .slice A13 v13.length c13, .slice A14 v14.length c14]) hz14 (by decide) : RowP w.heap.size (u14.setRow B2 #[.int .i64 v1, .int .i64 v2, .int .i64 v3, .int .i64 v4, .string v5, .bool v6, .string v7, .string v8, .int .i64 v9, .int .i64 v10, .slice A11 v11.length c11, .slice A12 v12.length c12, .slice A13 v13.length c13, .slice A14 v14.length c14]) ⟨A12, v12.length, c12⟩ v12)
                                have HOT := Lib.hid (RowT.aside (HT14.out) (Aside.row B2 u14 #[.int .i64 v1, .int .i64 v2, .int .i64 v3, .int .i64 v4, .string v5, .bool v6, .string v7, .string v8, .int .i64 v9, .int .i64 v10, .slice A11 v11.length c11, .slice A12 v12.length c12, .slice A13 v13.length c13, .slice A14 v14.length c14]) hz14 (by decide) (by decide) : RowT w.heap.size (u14.setRow B2 #[.int .i64 v1, .int .i64 v2, .int .i64 v3, .int .i64 v4, .string v5, .bool v6, .string v7, .string v8, .int .i64 v9, .int .i64 v10, .slice A11 v11.length c11, .slice A12 v12.length c12, .slice A13 v13.length c13, .slice A14 v14.length c14]) ⟨A13, v13.length, c13⟩ v13 ss)
                                have HOD := Lib.hid (RowD.aside (HD14.out) (Aside.row B2 u14 #[.int .i64 v1, .int .i64 v2, .int .i64 v3, .int .i64 v4, .string v5, .bool v6, .string v7, .string v8, .int .i64 v9, .int .i64 v10, .slice A11 v11.length c11, .slice A12 v12.length c12, .slice A13 v13.length c13, .slice A14 v14.length c14]) hz14 (by decide) : RowD w.heap.size (u14.setRow B2 #[.int .i64 v1, .int .i64 v2, .int .i64 v3, .int .i64 v4, .string v5, .bool v6, .string v7, .string v8, .int .i64 v9, .int .i64 v10, .slice A11 v11.length c11, .slice A12 v12.length c12, .slice A13 v13.length c13, .slice A14 v14.length c14]) ⟨A14, v14.length, c14⟩ v14)
                                clear hHeld
                                generalize (u14.setRow B2 #[.int .i64 v1, .int .i64 v2, .int .i64 v3, .int .i64 v4, .string v5, .bool v6, .string v7, .string v8, .int .i64 v9, .int .i64 v10, .slice A11 v11.length c11, .slice A12 v12.length c12, .slice A13 v13.length c13, .slice A14 v14.length c14]) = V at *
                                have y0 : V.cell? ⟨B2, 0, none⟩ = some (.int .i64 v1) := HZ.cell 0
                                have y1 : V.cell? ⟨B2, 1, none⟩ = some (.int .i64 v2) := HZ.cell 1
                                have y2 : V.cell? ⟨B2, 2, none⟩ = some (.int .i64 v3) := HZ.cell 2
                                have y3 : V.cell? ⟨B2, 3, none⟩ = some (.int .i64 v4) := HZ.cell 3
                                have y4 : V.cell? ⟨B2, 4, none⟩ = some (.string v5) := HZ.cell 4
                                have y5 : V.cell? ⟨B2, 5, none⟩ = some (.bool v6) := HZ.cell 5
                                have y6 : V.cell? ⟨B2, 6, none⟩ = some (.string v7) := HZ.cell 6
                                have y7 : V.cell? ⟨B2, 7, none⟩ = some (.string v8) := HZ.cell 7
                                have y8 : V.cell? ⟨B2, 8, none⟩ = some (.int .i64 v9) := HZ.cell 8
                                have y9 : V.cell? ⟨B2, 9, none⟩ = some (.int .i64 v10) := HZ.cell 9
                                have y10 : V.cell? ⟨B2, 10, none⟩ = some (.slice A11 v11.length c11) := HZ.cell 10
                                have y11 : V.cell? ⟨B2, 11, none⟩ = some (.slice A12 v12.length c12) := HZ.cell 11
                                have y12 : V.cell? ⟨B2, 12, none⟩ = some (.slice A13 v13.length c13) := HZ.cell 12
                                have y13 : V.cell? ⟨B2, 13, none⟩ = some (.slice A14 v14.length c14) := HZ.cell 13
                                clear HZ
                                go_wp2_with fail
                                refine bodyPost_ret (v := .agg #[.int .i64 v1, .int .i64 v2, .int .i64 v3, .int .i64 v4, .string v5, .bool v6, .string v7, .string v8, .int .i64 v9, .int .i64 v10, .slice A11 v11.length c11, .slice A12 v12.length c12, .slice A13 v13.length c13, .slice A14 v14.length c14]) (by simp [results, Tryz.results44, go_sem, y0, y1, y2, y3, y4, y5, y6, y7, y8, y9, y10, y11, y12, y13]) rfl ⟨⟨⟨A11, v11.length, c11⟩, ⟨A12, v12.length, c12⟩, ⟨A13, v13.length, c13⟩, ⟨A14, v14.length, c14⟩⟩, rfl, ⟨HOG.out, HOP.out, ⟨ss, HOT.out⟩, HOD.out⟩, HR.out⟩
                              exact AllReadyH.nil
                            exact AllReadyH.nil
                          exact AllReadyH.nil
                        exact AllReadyH.nil
                      exact AllReadyH.nil
                    exact AllReadyH.nil
                  exact AllReadyH.nil
                exact AllReadyH.nil
              exact AllReadyH.nil
            exact AllReadyH.nil
          exact AllReadyH.nil
        exact AllReadyH.nil
      exact AllReadyH.nil
    exact AllReadyH.nil
  exact AllReadyH.nil
end Go.Proofs.YtbmnagfjpenemaaGreatDoor
