/- A log on its disk: each call, with what is true between the calls. -/
import Derived.Test.YtnjggoeahaglbaaGreatLwi
namespace Go.Proofs.YtnjggoeahaglbaaGreat.Wa
open Go.ChangeShapes Go.WideShapes Go.ChangeAt Go.RowKit
open Fr
set_option linter.unusedVariables false
set_option linter.unusedSimpArgs false
set_option maxRecDepth 100000
structure LS (C q p : Nat) (A : Lg) (D : Dk.St) (w : World) : Prop where
  log : ∃ v, LgM C q p v A w
  disk : Dk.Disk C p D w
  base : C ≤ w.heap.size
theorem LS.kept {C q p : Nat} {A : Lg} {D : Dk.St} {w w' : World} (h : LS C q p A D w) (hb : Below w.heap.size w w') : LS C q p A D w' := by
  obtain ⟨⟨v, h1⟩, h2, h3⟩ := h
  exact ⟨⟨v, h1.kept hb⟩, disk_kept h2 hb, Nat.le_trans h3 hb.size⟩
/-- What calls on logs and disks leave: all below C; all rows of other types. -/
structure Lv (C : Nat) (w w' : World) : Prop where
  below : Below C w w'
  other : ∀ (k : Nat) (cs : Array Value) (t : TypeId) (fr : Nat × Nat), w.heap[k]? = some (.cells cs t fr) → t ≠ 78 → t ≠ 101 → t ≠ 103 → t ≠ 9 → t ≠ 89 → w'.heap[k]? = w.heap[k]?
theorem Lv.refl (C : Nat) (w : World) : Lv C w w := ⟨Below.refl _ _, fun _ _ _ _ _ _ _ _ _ _ => rfl⟩
theorem Lv.trans {C : Nat} {a b c : World} (h : Lv C a b) (k : Lv C b c) : Lv C a c :=
  ⟨h.below.trans k.below, fun i cs t fr hi h1 h2 h3 h4 h5 => (k.other i cs t fr ((h.other i cs t fr hi h1 h2 h3 h4 h5).trans hi) h1 h2 h3 h4 h5).trans (h.other i cs t fr hi h1 h2 h3 h4 h5)⟩
theorem Lv.of_below {C D : Nat} {a b : World} (h : Below D a b) (hD : a.heap.size ≤ D) (hC : C ≤ D) : Lv C a b :=
  ⟨h.mono hC, fun k cs t fr hk _ _ _ _ _ => h.block k (Nat.lt_of_lt_of_le (Array.getElem?_eq_some_iff.1 hk).1 hD)⟩
theorem Lv.here {C : Nat} {a b : World} (h : Below a.heap.size a b) (hC : C ≤ a.heap.size) : Lv C a b := .of_below h (Nat.le_refl _) hC
theorem Lv.size {C : Nat} {a b : World} (h : Lv C a b) : a.heap.size ≤ b.heap.size := h.below.size
theorem Lv.of_g {C q p : Nat} {v : Value} {A : Lg} {a b : World} (h : GLeaves C q v a b) (hl : LgM C q p v A a) : Lv C a b :=
  ⟨h.below, fun k cs t fr hk h1 h2 h3 h4 h5 => h.other k cs t fr hk h1 h2 h3 (fun e => absurd e h4) (fun e => by
    subst e
    have hx : a.heap[k]? = some (.cells (gcs p v A) 89 (0, 0)) := hl.1
    rw [hx] at hk
    simp only [Option.some.injEq, Obj.cells.injEq] at hk
    exact h5 hk.2.1.symm)⟩
theorem Lv.of_d {C : Nat} {a b : World} (h : Dk.Leaves C a b) : Lv C a b := ⟨h.below, fun k cs t fr hk h1 h2 h3 _ _ => h.other k cs t fr hk h1 h2 h3⟩
/-- The disk through an append to its log. -/
theorem disk_own {C q p : Nat} {v : Value} {A : Lg} {D : Dk.St} {w w' : World} (h : Dk.Disk C p D w) (hl : LgM C q p v A w) (hg : GOwn C q v w w') : Dk.Disk C p D w' := by
  obtain ⟨s, c, pv, ho⟩ := h
  have key : ∀ (k : Nat) (cs : Array Value) (t : TypeId) (fr : Nat × Nat), w.heap[k]? = some (.cells cs t fr) → t ≠ 9 → t ≠ 89 → w'.heap[k]? = w.heap[k]? := fun k cs t fr hk h1 h2 => by
    refine hg.block k (Array.getElem?_eq_some_iff.1 hk).1 (fun e => ?_) (fun e => h1 (row_type hl.2.1 e hk))
    subst e
    have hx : w.heap[k]? = some (.cells (gcs p v A) 89 (0, 0)) := hl.1
    rw [hx] at hk
    simp only [Option.some.injEq, Obj.cells.injEq] at hk
    exact h2 hk.2.1.symm
  refine ⟨s, c, pv, ho.same fun k hk => ?_⟩
  rcases hk with rfl | rfl | hk
  · exact key _ _ _ _ ho.head (by decide) (by decide)
  · obtain ⟨cur, h1, _⟩ := ho.secs
    exact key _ _ _ _ h1 (by decide) (by decide)
  · rcases ho.row.2 with ⟨e, _⟩ | ⟨g', cap, cur, e, _, h3, _⟩
    · rw [e] at hk; simp [Value.ownBlock] at hk
    · rw [e] at hk
      simp only [Value.ownBlock, Option.some.injEq] at hk
      subst hk
      exact key _ _ _ _ h3 (by decide) (by decide)
def AppP (C q p : Nat) (A : Lg) (D : Dk.St) (r : Rc.Rc) (w : World) (e : Ending) (w' : World) : Prop :=
  (Rc.rightR r = false ∧ e = .returned (.tuple #[.int .i64 0, .int .i64 1]) ∧ LS C q p A D w' ∧ Lv C w w') ∨
  (Rc.rightR r = true ∧ roomA A r = false ∧ e = .returned (.tuple #[.int .i64 0, .int .i64 7]) ∧ LS C q p A D w' ∧ Lv C w w') ∨
  (Rc.rightR r = true ∧ roomA A r = true ∧ e = .returned (.tuple #[.int .i64 ((A.recs.length + 1 : Nat) : Int), .int .i64 0]) ∧ LS C q p (appA A r) D w' ∧ Lv C w w')
theorem ls_append {C Cr q p : Nat} {A : Lg} {D D0 : Dk.St} (r : Rc.Rc) (hd : Rc.Hd) (w : World) (h : LS C q p A D w) (hi : Inv A D0) (hr : Rc.RcM Cr w r hd) (hCr : Cr ≤ w.heap.size) :
    Calls Tryz.prog 16 #[.pointer (some ⟨q, 0, none⟩), Rc.rcv r hd] w fun e w' => AppP C q p A D r w e w' := by
  obtain ⟨⟨v, h1⟩, h2, h3⟩ := h
  refine (append_is r hd w h1 hi.fits h3 hr hCr (hi.stApp r) (by have := hi.many; omega)).mono ?_
  rintro e w' (⟨a, b, c⟩ | ⟨a, b, c, d, f⟩ | ⟨a, b, c, v', d, f, g⟩)
  · exact .inl ⟨a, b, (LS.kept ⟨⟨v, h1⟩, h2, h3⟩ c), .here c h3⟩
  · exact .inr (.inl ⟨a, b, c, ⟨⟨v, d⟩, disk_own h2 h1 f, Nat.le_trans h3 f.size⟩, .of_g (f.leaves h1.2.1) h1⟩)
  · exact .inr (.inr ⟨a, b, c, ⟨⟨v', d⟩, disk_own h2 h1 f, Nat.le_trans h3 f.size⟩, .of_g (f.leaves h1.2.1) h1⟩)
theorem ls_flush {C q p : Nat} {A : Lg} {D : Dk.St} (w : World) (h : LS C q p A D w) (hi : Inv A D) :
    Calls Tryz.prog 19 #[.pointer (some ⟨q, 0, none⟩)] w fun e w' => e = .returned (.int .i64 (flushG A D).2.2) ∧ LS C q p (flushG A D).1 (flushG A D).2.1 w' ∧ Lv C w w' := by
  obtain ⟨⟨v, h1⟩, h2, h3⟩ := h
  refine (flush_is w h1 hi.fits h2 hi.batLe hi.dl hi.d1 (by rw [hi.pe]; exact Nat.zero_le _) h3).mono ?_
  rintro e w' ⟨a, b, c, d⟩
  exact ⟨a, ⟨⟨v, b⟩, c, Nat.le_trans h3 d.size⟩, .of_g d h1⟩
theorem ls_to {C q p : Nat} {A : Lg} {D : Dk.St} (n : Int) (w : World) (h : LS C q p A D w) (hi : Inv A D) :
    Calls Tryz.prog 18 #[.pointer (some ⟨q, 0, none⟩), .int .i64 n] w fun e w' => e = .returned (.int .i64 (if n ≤ A.dur then (A, D, (0 : Int)) else flushG A D).2.2) ∧ LS C q p (if n ≤ A.dur then (A, D, (0 : Int)) else flushG A D).1 (if n ≤ A.dur then (A, D, (0 : Int)) else flushG A D).2.1 w' ∧ Lv C w w' := by
  obtain ⟨⟨v, h1⟩, h2, h3⟩ := h
  refine (to_is n w h1 hi.fits h2 hi.batLe hi.dl hi.d1 (by rw [hi.pe]; exact Nat.zero_le _) h3).mono ?_
  rintro e w' ⟨a, b, c, d⟩
  exact ⟨a, ⟨⟨v, b⟩, c, Nat.le_trans h3 d.size⟩, .of_g d h1⟩
theorem ls_left {C q p : Nat} {A : Lg} {D D0 : Dk.St} (w : World) (h : LS C q p A D w) (hi : Inv A D0) :
    Calls Tryz.prog 30 #[.pointer (some ⟨q, 0, none⟩)] w fun e w' => e = .returned (.int .i64 ((A.sectors : Int) - (A.fin : Int) - (cntB (A.recs.drop A.dur) : Int))) ∧ Below w.heap.size w w' := by
  obtain ⟨⟨v, h1⟩, h2, h3⟩ := h
  exact left_is w h1 hi.fits
theorem ls_last {C q p : Nat} {A : Lg} {D : Dk.St} (w : World) (h : LS C q p A D w) :
    Calls Tryz.prog 28 #[.pointer (some ⟨q, 0, none⟩)] w fun e w' => e = .returned (.int .i64 (A.recs.length : Int)) ∧ w = w' := by
  obtain ⟨⟨v, h1⟩, h2, h3⟩ := h
  obtain ⟨vA, vc, rfl⟩ := h1.2.1.shape
  exact last_is w h1.cells.2.2.2.2.2.2.1
theorem ls_dur {C q p : Nat} {A : Lg} {D : Dk.St} (w : World) (h : LS C q p A D w) :
    Calls Tryz.prog 29 #[.pointer (some ⟨q, 0, none⟩)] w fun e w' => e = .returned (.int .i64 (A.dur : Int)) ∧ w = w' := by
  obtain ⟨⟨v, h1⟩, h2, h3⟩ := h
  exact durable_is w h1.cells.2.2.2.2.2.2.2
theorem ls_epoch {C q p : Nat} {A : Lg} {D : Dk.St} (w : World) (h : LS C q p A D w) :
    Calls Tryz.prog 32 #[.pointer (some ⟨q, 0, none⟩)] w fun e w' => e = .returned (.int .i64 A.epoch) ∧ w = w' := by
  obtain ⟨⟨v, h1⟩, h2, h3⟩ := h
  exact epoch_is w h1.cells.2.2.2.2.1
theorem ls_at {C q p : Nat} {A : Lg} {D D0 : Dk.St} (k : Nat) (w : World) (h : LS C q p A D w) (hi : Inv A D0) (hk : k < A.recs.length) :
    Calls Tryz.prog 26 #[.pointer (some ⟨q, 0, none⟩), .int .i64 ((k : Int) + 1)] w fun e w' => ∃ hd, e = .returned (.tuple #[Rc.rcv (Rc.readR (A.recs.getD k [])) hd, .bool true]) ∧ Rc.RcO w.heap.size w' (Rc.readR (A.recs.getD k [])) hd ∧ Below w.heap.size w w' := by
  obtain ⟨⟨v, h1⟩, h2, h3⟩ := h
  have hm := hi.ok _ (getD_mem' [] hk)
  exact at_in k w h1 hk (by have := hi.many; omega) (by have := ok_len hm; omega) hm
/-- A log opened on a disk whose sectors are of earlier epochs, and whose records are records. -/
theorem ls_open {C p : Nat} {D : Dk.St} (f s : Nat) (ep : Int) (w : World) (h : Dk.Disk C p D w) (hC : C ≤ w.heap.size) (hr : D.runs = true) (hp : D.pend = []) (hs : 1 ≤ s ∧ s ≤ 4000) (hd : f + s ≤ D.last.length) (h1 : D.last.length ≤ 10000) (he : 1 ≤ ep ∧ ep ≤ 4294967295)
    (hok : okO (part f s D.last) ep = true) :
    Calls Tryz.prog 14 #[.pointer (some ⟨p, 0, none⟩), .int .i64 (f : Int), .int .i64 (s : Int), .int .i64 ep] w fun e w' => ∃ q, e = .returned (.tuple #[.pointer (some ⟨q, 0, none⟩), .int .i64 0]) ∧ LS C q p (opG f s ep (part f s D.last)) D w' ∧ Below w.heap.size w w' := by
  have hO := open_it f s ep w h h1 hr (decide_eq_true (by omega)) he
  rw [hp, Dk.appl_nil] at hO
  refine hO.mono ?_
  rintro e w' ⟨hb, ⟨hn, _⟩ | ⟨_, q, v, rfl, hl⟩⟩
  · rw [hok] at hn; cases hn
  · exact ⟨q, rfl, ⟨⟨v, hl.1, hl.2.1.base hC, Nat.le_trans hC hl.2.2⟩, disk_kept h hb, Nat.le_trans hC hb.size⟩, hb⟩
/-- A new disk's sectors. -/
theorem zeros_part (f s n : Nat) : ∀ b ∈ part f s (Dk.blank n).last, b = List.replicate 64 0 := fun b hb => by
  have h1 : b ∈ (Dk.blank n).last := List.mem_of_mem_drop (List.mem_of_mem_take hb)
  exact (List.mem_replicate.1 h1).2
theorem zeros_scan (f s n : Nat) : scan (part f s (Dk.blank n).last) = sc0 := by
  cases h : part f s (Dk.blank n).last with
  | nil => rfl
  | cons b l => exact scan_zeros (zeros_none (zeros_part f s n b (by rw [h]; exact List.mem_cons_self)))
theorem blank_opG (f s n : Nat) (ep : Int) : opG f s ep (part f s (Dk.blank n).last) = ⟨f, s, ep, 0, [], 0⟩ := by
  unfold opG
  rw [zeros_scan]
  rfl
theorem blank_inv {f s n : Nat} {ep : Int} (hf : f ≤ 10000) (hs : s ≤ 4000) (he : 1 ≤ ep ∧ ep ≤ 4294967295) (hd : f + s ≤ n) (h1 : n ≤ 10000) : Inv ⟨f, s, ep, 0, [], 0⟩ (Dk.blank n) ∧ okO (part f s (Dk.blank n).last) ep = true := by
  have hl : (Dk.blank n).last.length = n := List.length_replicate ..
  have h := open_inv (D := Dk.blank n) hf hs he (by rw [hl]; exact hd) (by rw [hl]; exact h1) rfl (fun b hb => .inl (zeros_none (zeros_part f s n b hb))) (by rw [zeros_scan]; intro x hx; cases hx)
  rw [blank_opG] at h
  exact h
/-- The log opened again, in a later epoch, where all went well. -/
theorem again_inv {A : Lg} {D : Dk.St} {ep : Int} (h : Inv A D) (he : A.epoch < ep) (h9 : ep ≤ 4294967295) : Inv (opG A.first A.sectors ep (part A.first A.sectors D.last)) D ∧ okO (part A.first A.sectors D.last) ep = true ∧ opG A.first A.sectors ep (part A.first A.sectors D.last) = ⟨A.first, A.sectors, ep, A.fin, A.recs.take A.dur, A.dur⟩ := by
  have h0 := h.e0
  have hx := open_inv h.fi h.s1 (ep := ep) ⟨by omega, h9⟩ h.dl h.d1 h.pe (fun b hb => (h.low b hb).mono (by omega)) (fun x hx => by rw [h.out] at hx; exact h.ok x (List.mem_of_mem_take hx))
  refine ⟨hx.1, hx.2, ?_⟩
  unfold opG
  rw [h.out, h.nx, List.length_take, Nat.min_eq_left h.dn]
/-- What is true of a log, is true of it on the disk behind a crash that found nothing pending. -/
theorem Inv.calm {A : Lg} {D D' : Dk.St} (h : Inv A D) (hl : D'.last = D.last) (hp : D'.pend = []) : Inv A D' :=
  { fi := h.fi, s1 := h.s1, dn := h.dn, e0 := h.e0, e1 := h.e1, ok := h.ok, room := h.room, pe := hp
    dl := by rw [hl]; exact h.dl
    d1 := by rw [hl]; exact h.d1
    out := by rw [hl]; exact h.out
    nx := by rw [hl]; exact h.nx
    ep := by rw [hl]; exact h.ep
    low := by rw [hl]; exact h.low
    lowN := by rw [hl]; exact h.lowN }
end Go.Proofs.YtnjggoeahaglbaaGreat.Wa
