/- A list of records that came in, read. -/
import Derived.Test.YtnjggoeahaglbaaGreatRf
namespace Go.Proofs.YtnjggoeahaglbaaGreat.Rc
open Go.ChangeShapes Go.WideShapes Go.ChangeAt Go.RowKit Go.Joins
set_option linter.unusedVariables false
set_option linter.unusedSimpArgs false
set_option maxRecDepth 100000
set_option maxHeartbeats 1000000 in
theorem rec_cells {H : Type} {enc : TypeId × Value → H} {W : World} {v0 v1 v2 v3 v4 v5 v6 v7 v8 v9 v10 v11 v12 v13 : Value} {base fuel : Nat} {sp : Nat → Bool} {hd : Bool} {x : DataW H × List MemPlace}
    (hf1 : DataW.trod enc Tryz.prog W base sp hd fuel 43 [v0, v1, v2, v3, v4, v5, v6, v7, v8, v9, v10, v11, v12, v13] = some x) (hsp : ∀ b, sp b = true) : ∃ r k, rcs r k = #[v0, v1, v2, v3, v4, v5, v6, v7, v8, v9, v10, v11, v12, v13] ∧ RcM W.heap.size W r k := by
  obtain ⟨xs, n', _, _, _, hxl, hf⟩ := DataW.trod_struct Tryz.underlying43 hf1
  clear hf1
  have hx : ∀ j, j < 11 → ∃ y, xs[j]? = some y := fun j hj => ⟨xs[j]'(by rw [hxl]; exact hj), List.getElem?_eq_getElem _⟩
  have c0 : Tryz.prog.cellsOf 3 = 1 := by kernel_rfl
  have t0 : DataW.trod enc Tryz.prog W base sp hd n' 3 (List.take (Tryz.prog.cellsOf 3) (List.drop 0 [v0, v1, v2, v3, v4, v5, v6, v7, v8, v9, v10, v11, v12, v13])) = xs[0]? := hf 0 _ rfl
  rw [c0] at t0
  obtain ⟨y0, z0⟩ := hx 0 (by omega)
  rw [z0] at t0
  have u0 : DataW.trod enc Tryz.prog W base sp hd n' 3 [v0] = some y0 := t0
  clear t0 z0 c0
  obtain ⟨i0, e0, _, w0⟩ := DataW.trod_int (P := Tryz.prog) Tryz.underlying3 u0
  simp only [List.cons.injEq, and_true] at e0
  have c1 : Tryz.prog.cellsOf 3 = 1 := by kernel_rfl
  have t1 : DataW.trod enc Tryz.prog W base sp hd n' 3 (List.take (Tryz.prog.cellsOf 3) (List.drop 1 [v0, v1, v2, v3, v4, v5, v6, v7, v8, v9, v10, v11, v12, v13])) = xs[1]? := hf 1 _ rfl
  rw [c1] at t1
  obtain ⟨y1, z1⟩ := hx 1 (by omega)
  rw [z1] at t1
  have u1 : DataW.trod enc Tryz.prog W base sp hd n' 3 [v1] = some y1 := t1
  clear t1 z1 c1
  obtain ⟨i1, e1, _, w1⟩ := DataW.trod_int (P := Tryz.prog) Tryz.underlying3 u1
  simp only [List.cons.injEq, and_true] at e1
  have c2 : Tryz.prog.cellsOf 3 = 1 := by kernel_rfl
  have t2 : DataW.trod enc Tryz.prog W base sp hd n' 3 (List.take (Tryz.prog.cellsOf 3) (List.drop 2 [v0, v1, v2, v3, v4, v5, v6, v7, v8, v9, v10, v11, v12, v13])) = xs[2]? := hf 2 _ rfl
  rw [c2] at t2
  obtain ⟨y2, z2⟩ := hx 2 (by omega)
  rw [z2] at t2
  have u2 : DataW.trod enc Tryz.prog W base sp hd n' 3 [v2] = some y2 := t2
  clear t2 z2 c2
  obtain ⟨i2, e2, _, w2⟩ := DataW.trod_int (P := Tryz.prog) Tryz.underlying3 u2
  simp only [List.cons.injEq, and_true] at e2
  have c3 : Tryz.prog.cellsOf 3 = 1 := by kernel_rfl
  have t3 : DataW.trod enc Tryz.prog W base sp hd n' 3 (List.take (Tryz.prog.cellsOf 3) (List.drop 3 [v0, v1, v2, v3, v4, v5, v6, v7, v8, v9, v10, v11, v12, v13])) = xs[3]? := hf 3 _ rfl
  rw [c3] at t3
  obtain ⟨y3, z3⟩ := hx 3 (by omega)
  rw [z3] at t3
  have u3 : DataW.trod enc Tryz.prog W base sp hd n' 3 [v3] = some y3 := t3
  clear t3 z3 c3
  obtain ⟨i3, e3, _, w3⟩ := DataW.trod_int (P := Tryz.prog) Tryz.underlying3 u3
  simp only [List.cons.injEq, and_true] at e3
  have c4 : Tryz.prog.cellsOf 9 = 1 := by kernel_rfl
  have t4 : DataW.trod enc Tryz.prog W base sp hd n' 9 (List.take (Tryz.prog.cellsOf 9) (List.drop 4 [v0, v1, v2, v3, v4, v5, v6, v7, v8, v9, v10, v11, v12, v13])) = xs[4]? := hf 4 _ rfl
  rw [c4] at t4
  obtain ⟨y4, z4⟩ := hx 4 (by omega)
  rw [z4] at t4
  have u4 : DataW.trod enc Tryz.prog W base sp hd n' 9 [v4] = some y4 := t4
  clear t4 z4 c4
  obtain ⟨i4, e4, _, w4⟩ := DataW.trod_string (P := Tryz.prog) Tryz.underlying9 u4
  simp only [List.cons.injEq, and_true] at e4
  have c5 : Tryz.prog.cellsOf 4 = 1 := by kernel_rfl
  have t5 : DataW.trod enc Tryz.prog W base sp hd n' 4 (List.take (Tryz.prog.cellsOf 4) (List.drop 5 [v0, v1, v2, v3, v4, v5, v6, v7, v8, v9, v10, v11, v12, v13])) = xs[5]? := hf 5 _ rfl
  rw [c5] at t5
  obtain ⟨y5, z5⟩ := hx 5 (by omega)
  rw [z5] at t5
  have u5 : DataW.trod enc Tryz.prog W base sp hd n' 4 [v5] = some y5 := t5
  clear t5 z5 c5
  obtain ⟨i5, e5, _⟩ := DataW.trod_bool (P := Tryz.prog) Tryz.underlying4 u5
  simp only [List.cons.injEq, and_true] at e5
  have c6 : Tryz.prog.cellsOf 37 = 4 := by kernel_rfl
  have t6 : DataW.trod enc Tryz.prog W base sp hd n' 37 (List.take (Tryz.prog.cellsOf 37) (List.drop 6 [v0, v1, v2, v3, v4, v5, v6, v7, v8, v9, v10, v11, v12, v13])) = xs[6]? := hf 6 _ rfl
  rw [c6] at t6
  obtain ⟨y6, z6⟩ := hx 6 (by omega)
  rw [z6] at t6
  have u6 : DataW.trod enc Tryz.prog W base sp hd n' 37 [v6, v7, v8, v9] = some y6 := t6
  clear t6 z6 c6
  obtain ⟨s6, s7, s8, s9, e6, q1, q2, q3, q4⟩ := cell_read u6
  have c7 : Tryz.prog.cellsOf 38 = 1 := by kernel_rfl
  have t7 : DataW.trod enc Tryz.prog W base sp hd n' 38 (List.take (Tryz.prog.cellsOf 38) (List.drop 10 [v0, v1, v2, v3, v4, v5, v6, v7, v8, v9, v10, v11, v12, v13])) = xs[7]? := hf 7 _ rfl
  rw [c7] at t7
  obtain ⟨y7, z7⟩ := hx 7 (by omega)
  rw [z7] at t7
  have u7 : DataW.trod enc Tryz.prog W base sp hd n' 38 [v10] = some y7 := t7
  clear t7 z7 c7
  obtain ⟨A7, n7, k7, l7, e7, w7⟩ := ints_read u7 hsp
  have c8 : Tryz.prog.cellsOf 39 = 1 := by kernel_rfl
  have t8 : DataW.trod enc Tryz.prog W base sp hd n' 39 (List.take (Tryz.prog.cellsOf 39) (List.drop 11 [v0, v1, v2, v3, v4, v5, v6, v7, v8, v9, v10, v11, v12, v13])) = xs[8]? := hf 8 _ rfl
  rw [c8] at t8
  obtain ⟨y8, z8⟩ := hx 8 (by omega)
  rw [z8] at t8
  have u8 : DataW.trod enc Tryz.prog W base sp hd n' 39 [v11] = some y8 := t8
  clear t8 z8 c8
  obtain ⟨A8, n8, k8, l8, e8, w8⟩ := pts_read u8 hsp
  have c9 : Tryz.prog.cellsOf 40 = 1 := by kernel_rfl
  have t9 : DataW.trod enc Tryz.prog W base sp hd n' 40 (List.take (Tryz.prog.cellsOf 40) (List.drop 12 [v0, v1, v2, v3, v4, v5, v6, v7, v8, v9, v10, v11, v12, v13])) = xs[9]? := hf 9 _ rfl
  rw [c9] at t9
  obtain ⟨y9, z9⟩ := hx 9 (by omega)
  rw [z9] at t9
  have u9 : DataW.trod enc Tryz.prog W base sp hd n' 40 [v12] = some y9 := t9
  clear t9 z9 c9
  obtain ⟨A9, n9, k9, l9, e9, w9⟩ := txs_read u9 hsp
  have c10 : Tryz.prog.cellsOf 41 = 1 := by kernel_rfl
  have t10 : DataW.trod enc Tryz.prog W base sp hd n' 41 (List.take (Tryz.prog.cellsOf 41) (List.drop 13 [v0, v1, v2, v3, v4, v5, v6, v7, v8, v9, v10, v11, v12, v13])) = xs[10]? := hf 10 _ rfl
  rw [c10] at t10
  obtain ⟨y10, z10⟩ := hx 10 (by omega)
  rw [z10] at t10
  have u10 : DataW.trod enc Tryz.prog W base sp hd n' 41 [v13] = some y10 := t10
  clear t10 z10 c10
  obtain ⟨A10, n10, k10, l10, e10, w10⟩ := dys_read u10 hsp
  obtain ⟨e6, e6b, e6c, e6d⟩ := e6
  subst e0 e1 e2 e3 e4 e5 e6 e7 e8 e9 e10 e6b e6c e6d
  exact ⟨⟨i0, i1, i2, i3, i4, i5, ⟨s6, s7, s8, s9⟩, l7, l8, l9, l10⟩, ⟨⟨A7, n7, k7⟩, ⟨A8, n8, k8⟩, ⟨A9, n9, k9⟩, ⟨A10, n10, k10⟩⟩, rfl, ⟨int_range w0, int_range w1, int_range w2, int_range w3, w4, ⟨int_range q3, int_range q4, q1, q2⟩, w7, w8, w9, w10⟩⟩
/-- A list of records that came in, or was made: below C. -/
def RlM (C : Nat) (w : World) (A : Option Addr) (n : Nat) (l : List Rc) : Prop :=
  l.length = n ∧ n ≤ maxLen ∧ ∀ k, k < n → ∃ b off h, A = some ⟨b, off, none⟩ ∧ b < C ∧ (∀ j u, (rcs (l.getD k nilR) h)[j]? = some u → w.cell? ⟨b, off + k * 14 + j, none⟩ = some u) ∧ RcM C w (l.getD k nilR) h
theorem RlM.kept {C : Nat} {w w' : World} {A : Option Addr} {n : Nat} {l : List Rc} (h : RlM C w A n l) (hb : Below C w w') : RlM C w' A n l :=
  ⟨h.1, h.2.1, fun k hk => by
    obtain ⟨b, off, hd, h1, h2, h3, h4⟩ := h.2.2 k hk
    exact ⟨b, off, hd, h1, h2, fun j u hu => (hb.cell (p := ⟨b, off + k * 14 + j, none⟩) h2).trans (h3 j u hu), h4.kept hb⟩⟩
theorem RlM.more {C D : Nat} {w : World} {A : Option Addr} {n : Nat} {l : List Rc} (h : RlM C w A n l) (hD : C ≤ D) : RlM D w A n l :=
  ⟨h.1, h.2.1, fun k hk => by
    obtain ⟨b, off, hd, h1, h2, h3, h4⟩ := h.2.2 k hk
    exact ⟨b, off, hd, h1, Nat.lt_of_lt_of_le h2 hD, h3, h4.more hD⟩⟩
theorem RlM.nil (C : Nat) (w : World) (A : Option Addr) : RlM C w A 0 [] := ⟨rfl, Nat.zero_le _, fun k hk => absurd hk (Nat.not_lt_zero _)⟩
theorem recs_read {H : Type} {enc : TypeId × Value → H} {W : World} {v : Value} {base fuel : Nat} {sp : Nat → Bool} {hd : Bool} {x : DataW H × List MemPlace}
    (h : DataW.trod enc Tryz.prog W base sp hd fuel 49 [v] = some x) (hsp : ∀ b, sp b = true) : ∃ A n c l, v = .slice A n c ∧ RlM W.heap.size W A n l := by
  have hce : Tryz.prog.cellsOf 43 = 14 := by kernel_rfl
  rcases Go.Deep.open_slice Tryz.underlying49 h with ⟨hcs, _⟩ | ⟨a, len, cap, m, n, D, Pl, hcs, _, hl, hm, hmm, _, hi⟩
  · simp at hcs
    subst hcs
    exact ⟨none, 0, 0, [], rfl, RlM.nil _ _ _⟩
  · simp at hcs
    subst hcs
    have hmm' : m = cap := by rw [hmm, hsp a.block]; simp
    subst hmm'
    have hplain : ∀ k, k < len → a.spot = none := fun k hk => by
      obtain ⟨cs', hc, _⟩ := hi 0 (by omega)
      rw [hce] at hc
      obtain ⟨_, h5, hat⟩ := World.cells?_some hc
      have h0 := hat 0 (by omega)
      rw [List.getElem?_eq_getElem (by omega)] at h0
      have := World.cell?_spot h0
      simpa [Addr.add] using this
    have each : ∀ k, k < len → ∃ o : Rc, ∃ b off h, (some a : Option Addr) = some ⟨b, off, none⟩ ∧ b < W.heap.size ∧ (∀ j u, (rcs o h)[j]? = some u → W.cell? ⟨b, off + k * 14 + j, none⟩ = some u) ∧ RcM W.heap.size W o h := by
      intro k hk
      have hspot := hplain k hk
      obtain ⟨b, off, spot⟩ := a
      dsimp only at hspot
      subst hspot
      obtain ⟨cs', hc, ht⟩ := hi k (by omega)
      rw [hce] at hc
      obtain ⟨_, h5, hat⟩ := World.cells?_some hc
      obtain ⟨v0, v1, v2, v3, v4, v5, v6, v7, v8, v9, v10, v11, v12, v13, hcs⟩ := array14 (cs := cs'.toArray) (by rw [List.size_toArray]; exact h5)
      have hcs2 : cs' = [v0, v1, v2, v3, v4, v5, v6, v7, v8, v9, v10, v11, v12, v13] := by simpa using congrArg Array.toList hcs
      rw [hcs2] at ht
      obtain ⟨r, q, hr, hm⟩ := rec_cells ht hsp
      have hc0 := hat 0 (by omega)
      rw [hcs2] at hc0
      rw [aplain, aplain] at hc0
      refine ⟨r, b, off, q, rfl, World.block_lt_of_cell? W _ hc0, fun j u hu => ?_, hm⟩
      rw [hr] at hu
      have hj : j < 14 := by
        have := (Array.getElem?_eq_some_iff.1 hu).1
        simpa using this
      have h1 := hat j hj
      rw [hcs2, aplain, aplain] at h1
      rw [h1]
      simpa using hu
    obtain ⟨l, hl1, hl2⟩ := choose_l nilR each
    exact ⟨some a, len, m, l, rfl, hl1, by omega, fun k hk => hl2 k (by omega)⟩
end Go.Proofs.YtnjggoeahaglbaaGreat.Rc
