/- What the laws over lists of records need. -/
import Derived.Test.YtnjggoeahaglbaaGreatLk
import Derived.Test.YtnjggoeahaglbaaGreatRe
import Derived.Test.YtnjggoeahaglbaaGreatRf
import Derived.Test.YtnjggoeahaglbaaGreatRg
import Derived.Test.YtnjggoeahaglbaaGreatRl
namespace Go.Proofs.YtnjggoeahaglbaaGreat.Wa
open Go.ChangeShapes Go.WideShapes Go.ChangeAt Go.RowKit
open Fr
set_option linter.unusedVariables false
set_option linter.unusedSimpArgs false
set_option maxRecDepth 100000
/-- A record's cells, from offset o of block b on. -/
def At14 (u : World) (b o : Nat) (r : Rc.Rc) (h : Rc.Hd) : Prop :=
  u.cell? ⟨b, o, none⟩ = some (.int .i64 r.kind) ∧ u.cell? ⟨b, o + 1, none⟩ = some (.int .i64 r.tx) ∧ u.cell? ⟨b, o + 2, none⟩ = some (.int .i64 r.prev) ∧ u.cell? ⟨b, o + 3, none⟩ = some (.int .i64 r.next) ∧ u.cell? ⟨b, o + 4, none⟩ = some (.string r.key) ∧ u.cell? ⟨b, o + 5, none⟩ = some (.bool r.had) ∧ u.cell? ⟨b, o + 6, none⟩ = some (.string r.old.k) ∧ u.cell? ⟨b, o + 7, none⟩ = some (.string r.old.v) ∧ u.cell? ⟨b, o + 8, none⟩ = some (.int .i64 r.old.b) ∧ u.cell? ⟨b, o + 9, none⟩ = some (.int .i64 r.old.z) ∧ u.cell? ⟨b, o + 10, none⟩ = some (.slice h.g.A h.g.n h.g.c) ∧ u.cell? ⟨b, o + 11, none⟩ = some (.slice h.p.A h.p.n h.p.c) ∧ u.cell? ⟨b, o + 12, none⟩ = some (.slice h.t.A h.t.n h.t.c) ∧ u.cell? ⟨b, o + 13, none⟩ = some (.slice h.d.A h.d.n h.d.c)
theorem rl_at {C n k : Nat} {w : World} {A : Option Addr} {l : List Rc.Rc} (h : Rc.RlM C w A n l) (hk : k < n) : ∃ b off hd, A = some ⟨b, off, none⟩ ∧ b < C ∧ ∀ u, Below C w u → At14 u b (off + k * 14) (l.getD k Rc.nilR) hd ∧ Rc.RcM C u (l.getD k Rc.nilR) hd := by
  obtain ⟨b, off, hd, h1, h2, h3, h4⟩ := h.2.2 k hk
  refine ⟨b, off, hd, h1, h2, fun u hb => ⟨?_, h4.kept hb⟩⟩
  have hc : ∀ j v, (Rc.rcs (l.getD k Rc.nilR) hd)[j]? = some v → u.cell? ⟨b, off + k * 14 + j, none⟩ = some v := fun j v hv => (hb.cell (p := ⟨b, off + k * 14 + j, none⟩) h2).trans (h3 j v hv)
  exact ⟨hc 0 _ rfl, hc 1 _ rfl, hc 2 _ rfl, hc 3 _ rfl, hc 4 _ rfl, hc 5 _ rfl, hc 6 _ rfl, hc 7 _ rfl, hc 8 _ rfl, hc 9 _ rfl, hc 10 _ rfl, hc 11 _ rfl, hc 12 _ rfl, hc 13 _ rfl⟩
/-- At's answer, as memory that may be read. -/
theorem ls_at2 {C q p : Nat} {A : Lg} {D D0 : Dk.St} (k : Nat) (w : World) (h : LS C q p A D w) (hi : Inv A D0) (hk : k < A.recs.length) {r : Rc.Rc} (hr : Rc.rightR r = true) (he : A.recs.getD k [] = Rc.putS r) :
    Calls Tryz.prog 26 #[.pointer (some ⟨q, 0, none⟩), .int .i64 ((k : Int) + 1)] w fun e w' => ∃ hd, e = .returned (.tuple #[Rc.rcv r hd, .bool true]) ∧ Rc.RcM w'.heap.size w' r hd ∧ Below w.heap.size w w' := by
  have hm := hi.ok _ (getD_mem' [] hk)
  have hl := (ok_len hm).2
  have hw := Rc.rec_w (s := (A.recs.getD k [], true)) (by show (A.recs.getD k []).length ≤ 800000; omega)
  rw [show (Rc.recR (A.recs.getD k [], true)).1 = Rc.readR (A.recs.getD k []) from rfl, he, (ok_put hr).2] at hw
  refine (ls_at k w h hi hk).mono ?_
  rintro e w' ⟨hd, h1, h2, h3⟩
  rw [he, (ok_put hr).2] at h1 h2
  exact ⟨hd, h1, h2.m hw, h3⟩
/-- The records' bytes. -/
def pl (l : List Rc.Rc) (n : Nat) : List BA := (l.take n).map Rc.putS
theorem pl_zero (l : List Rc.Rc) : pl l 0 = [] := rfl
theorem pl_length {l : List Rc.Rc} {n : Nat} (h : n ≤ l.length) : (pl l n).length = n := by unfold pl; rw [List.length_map, List.length_take]; omega
theorem pl_succ {l : List Rc.Rc} {n : Nat} (h : n < l.length) : pl l n ++ [Rc.putS (l.getD n Rc.nilR)] = pl l (n + 1) := by
  unfold pl
  rw [take_snoc l n Rc.nilR h, List.map_append]
  rfl
theorem pl_at {l : List Rc.Rc} {n k : Nat} (h : n ≤ l.length) (hk : k < n) : (pl l n).getD k [] = Rc.putS (l.getD k Rc.nilR) := by
  unfold pl
  rw [List.getD_eq_getElem?_getD, List.getElem?_map, List.getElem?_take, if_pos hk, List.getD_eq_getElem?_getD, List.getElem?_eq_getElem (show k < l.length by omega)]
  rfl
/-- A disk between two logs on it. -/
structure DOk (f s N : Nat) (k : Int) (R : List BA) (D : Dk.St) : Prop where
  run : D.runs = true
  left : D.left < 0
  pe : D.pend = []
  len : D.last.length = N
  out : (scan (part f s D.last)).out = R
  low : ∀ b ∈ part f s D.last, Low k b
  ok : ∀ x ∈ R, Rc.getOk x = true
theorem dok_blank (f s n : Nat) : DOk f s n 0 [] (Dk.blank n) :=
  ⟨rfl, (show (-1 : Int) < 0 by decide), rfl, List.length_replicate .., by rw [zeros_scan]; rfl, fun b hb => .inl (zeros_none (zeros_part f s n b hb)), fun x hx => by cases hx⟩
theorem DOk.opens {f s N : Nat} {k ep : Int} {R : List BA} {D : Dk.St} (h : DOk f s N k R D) (hf : f ≤ 10000) (hs : s ≤ 4000) (he : 1 ≤ ep ∧ ep ≤ 4294967295) (hk : k < ep) (hd : f + s ≤ N) (hN : N ≤ 10000) :
    ∃ A, opG f s ep (part f s D.last) = A ∧ Inv A D ∧ okO (part f s D.last) ep = true ∧ A.first = f ∧ A.sectors = s ∧ A.epoch = ep ∧ A.recs = R ∧ A.dur = R.length := by
  obtain ⟨h1, h2⟩ := open_inv hf hs he (by rw [h.len]; exact hd) (by rw [h.len]; exact hN) h.pe (fun b hb => (h.low b hb).mono (by omega)) (fun x hx => by rw [h.out] at hx; exact h.ok x hx)
  exact ⟨_, rfl, h1, h2, rfl, rfl, rfl, h.out, by show (scan (part f s D.last)).out.length = R.length; rw [h.out]⟩
theorem dok_inv {A : Lg} {D : Dk.St} {N : Nat} (h : Inv A D) (hr : D.runs = true) (hl : D.left < 0) (hn : D.last.length = N) (hd : A.dur = A.recs.length) : DOk A.first A.sectors N A.epoch A.recs D :=
  ⟨hr, hl, h.pe, hn, by rw [h.out, hd, List.take_length], h.low, h.ok⟩
/-- To, whatever is asked for, where no stop is ahead. -/
theorem ls_to_any {C q p : Nat} {A : Lg} {D : Dk.St} (n : Int) (w : World) (h : LS C q p A D w) (hi : Inv A D) (hr : D.runs = true) (hl : D.left < 0) :
    ∃ A' D', A'.first = A.first ∧ A'.sectors = A.sectors ∧ A'.epoch = A.epoch ∧ A'.recs = A.recs ∧ Inv A' D' ∧ D'.runs = true ∧ D'.left < 0 ∧ D'.last.length = D.last.length ∧ ((A.dur : Int) < n → A'.dur = A'.recs.length) ∧ (n ≤ (A.dur : Int) → A'.dur = A.dur) ∧
      Calls Tryz.prog 18 #[.pointer (some ⟨q, 0, none⟩), .int .i64 n] w fun e w' => e = .returned (.int .i64 0) ∧ LS C q p A' D' w' ∧ Lv C w w' := by
  by_cases hn : (A.dur : Int) < n
  · obtain ⟨D', h1, h2, h3, h4, h5⟩ := ls_to_ok n w h hi hr hl hn
    exact ⟨{ A with dur := A.recs.length, fin := A.fin + cntB (A.recs.drop A.dur) }, D', rfl, rfl, rfl, rfl, h1, h2, by omega, h4, fun _ => rfl, fun h9 => by omega, h5⟩
  · exact ⟨A, D, rfl, rfl, rfl, rfl, hi, hr, hl, rfl, fun h9 => absurd h9 hn, fun _ => rfl, ls_to_not n w h hi (by omega)⟩
/-- Append, of which only the disk is of interest. -/
theorem ls_app_disk {C Cr q p : Nat} {A : Lg} {D D0 : Dk.St} (r : Rc.Rc) (hd : Rc.Hd) (w : World) (h : LS C q p A D w) (hi : Inv A D0) (hr : Rc.RcM Cr w r hd) (hCr : Cr ≤ w.heap.size) :
    Calls Tryz.prog 16 #[.pointer (some ⟨q, 0, none⟩), Rc.rcv r hd] w fun e w' => ∃ a b, e = .returned (.tuple #[.int .i64 a, .int .i64 b]) ∧ Dk.Disk C p D w' ∧ Lv C w w' := by
  refine (ls_append r hd w h hi hr hCr).mono ?_
  rintro e w' (⟨_, a, b, c⟩ | ⟨_, _, a, b, c⟩ | ⟨_, _, a, b, c⟩)
  · exact ⟨_, _, a, b.disk, c⟩
  · exact ⟨_, _, a, b.disk, c⟩
  · exact ⟨_, _, a, b.disk, c⟩
end Go.Proofs.YtnjggoeahaglbaaGreat.Wa
