/- The program's log: Append, At. -/
import Derived.Test.YtnjggoeahaglbaaGreatLwo
namespace Go.Proofs.YtnjggoeahaglbaaGreat.Wa
open Go.ChangeShapes Go.WideShapes Go.ChangeAt Go.RowKit
open Fr
set_option linter.unusedVariables false
set_option linter.unusedSimpArgs false
set_option maxRecDepth 100000
theorem own_block {B : Nat} {w : World} {v : Value} {l : List BA} (h : OwnT B w v l) {q : Nat} {cs : Array Value} {t : TypeId} (hx : Bx w q cs t) (ht : t ≠ 9) : ∀ g, v.ownBlock = some g → g ≠ q := row_other' h hx ht
theorem ownT_set {B q i : Nat} {w : World} {v x : Value} {l : List BA} {cs : Array Value} {t : TypeId} (h : OwnT B w v l) (hx : Bx w q cs t) (ht : t ≠ 9) : OwnT B (w.setCell ⟨q, i, none⟩ x) v l :=
  owns_kept2 h fun g hg => Below.heap_setCell w ⟨q, i, none⟩ x g (fun e => own_block h hx ht g hg e)
theorem GLeaves.set {C q i : Nat} {v x : Value} {w : World} (hC : C ≤ q) : GLeaves C q v w (w.setCell ⟨q, i, none⟩ x) :=
  ⟨(Below.refl C w).setCell (p := ⟨q, i, none⟩) hC x, fun k cs t fr hk _ _ _ _ hq => Below.heap_setCell w ⟨q, i, none⟩ x k hq⟩
/-- One text appended to a row: the row that was stays what it was. -/
theorem run_both (w : World) (base : Nat) (hbase : base ≤ w.heap.size) (v : Value) (xs : List BA) (hown : OwnT base w v xs) (s : BA) (ad : Addr) (c : Nat) (hc : w.cell? ad = some (.string (str s))) (h63 : xs.length + 1 ≤ 1000000) (ty : TypeId) :
    ∃ v' w', (Builtin.append_ #[50, 50] ty #[v, .slice (some ad) 1 c]).run Tryz.prog w = .ok v' w' ∧ OwnT base w' v' (xs ++ [s]) ∧ OwnT base w' v xs ∧ w.grownBy w' v.ownBlock ∧ (v'.ownBlock = v.ownBlock ∨ v'.ownBlock = some w.heap.size) := by
  obtain ⟨i0, hi0, hz0, hz1, hz2⟩ := info_parts info_s
  have hn : ∀ (j : Nat) (u : Value), [Value.string (str s)][j]? = some u → w.cell? (ad.add j) = some u := fun j u hu => by
    have h0 : j = 0 := by
      have := (List.getElem?_eq_some_iff.1 hu).1
      simp at this
      omega
    subst h0
    simp at hu
    subst hu
    have : ad.add 0 = ad := by unfold Addr.add; obtain ⟨b, f, sp⟩ := ad; cases sp <;> rfl
    rw [this]
    exact hc
  have h1 : ∀ u ∈ [Value.string (str s)], u.oneCell' = true := by simp [Value.oneCell']
  obtain ⟨v', w', r1, r2, r3, _, r5⟩ := run_append_own_at (P := Tryz.prog) w base 50 ty 9 i0 (.string ⟨#[]⟩) 1 16 Tryz.underlying50 hi0 hz0 hz1 hz2 rfl (by decide) v xs.length (tcs xs) hown ad 1 c [.string (str s)] rfl hn h1 (by unfold maxLen; omega) (by omega) hbase
  refine ⟨v', w', r1, ?_, ?_, r3, r5⟩
  · unfold OwnT
    rw [List.length_append, tcs_append]
    exact r2
  · refine ⟨hown.1, ?_⟩
    rcases hown.2 with h0 | ⟨g, cap, cur, rfl, hbg, hg, hnc, hcm, hcs, htake⟩
    · exact .inl h0
    · right
      by_cases hroom : xs.length + 1 ≤ cap
      · have hr := run_append_room (P := Tryz.prog) w 50 ty 9 i0 Tryz.underlying50 hi0 g xs.length cap cur hg ad 1 c [.string (str s)] (by rw [hz1]; rfl) hn h1 hroom (by rw [hz1]; simp only [List.length_singleton]; omega)
        rw [r1] at hr
        injection hr with e1 e2
        subst e2
        refine ⟨g, cap, _, rfl, hbg, setRow_heap w g cur _ 9 _ hg, hnc, hcm, ?_, ?_⟩
        · rw [hz1]
          simp only [List.size_toArray, List.length_append, List.length_take, List.length_drop, List.length_singleton]
          have h9 : cur.toList.length = cur.size := Array.length_toList
          omega
        · rw [hz1]
          simp only [List.append_assoc]
          rw [List.take_append_of_le_length (by rw [List.length_take]; have h9 : cur.toList.length = cur.size := Array.length_toList; omega), List.take_take, Nat.min_self]
          exact htake
      · have holds : ∀ j u, (tcs xs)[j]? = some u → w.cell? ((⟨g, 0, none⟩ : Addr).add j) = some u := hown.cells (g := g) rfl
        have hr := run_append_grow (P := Tryz.prog) w 50 ty 9 i0 (.string ⟨#[]⟩) Tryz.underlying50 hi0 hz0 ⟨g, 0, none⟩ xs.length cap (tcs xs) (by rw [hz1]; exact hown.1) holds ad 1 c [.string (str s)] (by rw [hz1]; rfl) hn (by omega) (by omega) (growslice_fits (by omega) (by rw [hz2]; omega))
        rw [r1] at hr
        injection hr with e1 e2
        subst e2
        exact ⟨g, cap, cur, rfl, hbg, (by exact heap_alloc_old w.drew _ (Array.getElem?_eq_some_iff.1 hg).1 : _ = w.drew.heap[g]?).trans hg, hnc, hcm, hcs, htake⟩
theorem wpList_both {ops : Array Oper} {rest : List Oper} {o : Oper} {a : Act} {w : World} {Q : Exit → Act → World → Prop} (hg : o.guard = none) (sl x : Operand) (ho : o.op = .call { callee := .builtin .append, args := #[sl, x], argTypes := #[50, 50] })
    (base : Nat) (hbase : base ≤ w.heap.size) (v : Value) (xs : List BA) (hv : a.eval sl = v) (hown : OwnT base w v xs) (s : BA) (ad : Addr) (c : Nat) (hx : a.eval x = .slice (some ad) 1 c) (hc : w.cell? ad = some (.string (str s))) (h63 : xs.length + 1 ≤ 1000000)
    (h : ∀ v' w', OwnT base w' v' (xs ++ [s]) → OwnT base w' v xs → w.grownBy w' v.ownBlock → (v'.ownBlock = v.ownBlock ∨ v'.ownBlock = some w.heap.size) → wpList Tryz.prog ops Q rest (a.put o.dst v') w') : wpList Tryz.prog ops Q (o :: rest) a w := by
  refine wpList_plain hg fun K hK => ?_
  obtain ⟨v', w', r1, r2, r3, r4, r5⟩ := run_both w base hbase v xs hown s ad c hc h63 o.type
  unfold Oper.wp execOp
  simp only [ho, resolve, invoke, builtin, Sem.run_bind, Sem.run_pure, Result.andThen_ok, List.map_toArray, List.map_cons, List.map_nil, hv, hx, r1]
  exact hK _ _ (h v' w' r2 r3 r4 r5)
/-- What an append leaves: all below C, every block but the log's own two. -/
structure GOwn (C q : Nat) (v : Value) (w w' : World) : Prop where
  below : Below C w w'
  block : ∀ k, k < w.heap.size → k ≠ q → v.ownBlock ≠ some k → w'.heap[k]? = w.heap[k]?
theorem GOwn.size {C q : Nat} {v : Value} {a b : World} (h : GOwn C q v a b) : a.heap.size ≤ b.heap.size := h.below.size
theorem GOwn.of_below {C q : Nat} {v : Value} {a b : World} (h : Below a.heap.size a b) (hC : C ≤ a.heap.size) : GOwn C q v a b := ⟨h.mono hC, fun k hk _ _ => h.block k hk⟩
theorem GOwn.trans {C q : Nat} {v v' : Value} {a b c : World} (h : GOwn C q v a b) (k : GOwn C q v' b c) (hm : Mv v v' a) : GOwn C q v a c :=
  ⟨h.below.trans k.below, fun i hi h1 h2 => (k.block i (Nat.lt_of_lt_of_le hi h.size) h1 (fun hg => by
    rcases hm i hg with h6 | h6
    · exact h2 h6
    · omega)).trans (h.block i hi h1 h2)⟩
theorem GOwn.set {C q i : Nat} {v x : Value} {w : World} (hC : C ≤ q) : GOwn C q v w (w.setCell ⟨q, i, none⟩ x) :=
  ⟨(Below.refl C w).setCell (p := ⟨q, i, none⟩) hC x, fun k _ hq _ => Below.heap_setCell w ⟨q, i, none⟩ x k hq⟩
theorem row_type {B : Nat} {w : World} {v : Value} {l : List BA} (h : OwnT B w v l) {k : Nat} (hk : v.ownBlock = some k) {cs : Array Value} {t : TypeId} {fr : Nat × Nat} (hh : w.heap[k]? = some (.cells cs t fr)) : t = 9 := by
  rcases h.2 with ⟨e0, _⟩ | ⟨g', cap, cur, e0, _, h3, _⟩
  · rw [e0] at hk; simp [Value.ownBlock] at hk
  · rw [e0] at hk
    simp only [Value.ownBlock, Option.some.injEq] at hk
    subst hk
    rw [h3] at hh
    simp only [Option.some.injEq, Obj.cells.injEq] at hh
    exact hh.2.1.symm
theorem GOwn.leaves {C q : Nat} {v : Value} {a b : World} (h : GOwn C q v a b) {l : List BA} (ho : OwnT C a v l) : GLeaves C q v a b :=
  ⟨h.below, fun k cs t fr hk _ _ _ ht hq => h.block k (Array.getElem?_eq_some_iff.1 hk).1 hq (fun e => ht (row_type ho e hk) e)⟩
theorem grown_leaves {C q : Nat} {v v' : Value} {l : List BA} {w w' : World} (h : OwnT C w v l) (hC : C ≤ w.heap.size) (hg : w.grownBy w' v.ownBlock) : GOwn C q v w w' :=
  ⟨⟨hg.os, hg.tape, hg.output, hg.size, fun k hk => hg.block k (Nat.lt_of_lt_of_le hk hC) (fun e => by have := (h.lt k e.symm).1; omega)⟩, fun k hk _ ht => hg.block k hk (fun e => ht e.symm)⟩
set_option maxHeartbeats 1000000 in
theorem append_none (x : Value) (hx : ∃ r hd, x = Rc.rcv r hd) (w : World) : Calls Tryz.prog 16 #[.pointer none, x] w fun e w' => e = .returned (.tuple #[.int .i64 0, .int .i64 11]) ∧ Below w.heap.size w w' := by
  obtain ⟨r, hd, rfl⟩ := hx
  have ON := Lib.hid open_nil
  unfold Rc.rcv
  go_enter Tryz.func16, Tryz.ntmps16
  go_upto_region 1 with fail
  have HB := Lib.hid ((Below.refl w.heap.size w).alloc (Nat.le_refl _) (.cells #[.int .i64 r.kind, .int .i64 r.tx, .int .i64 r.prev, .int .i64 r.next, .string r.key, .bool r.had, .string r.old.k, .string r.old.v, .int .i64 r.old.b, .int .i64 r.old.z, .slice hd.g.A hd.g.n hd.g.c, .slice hd.p.A hd.p.n hd.p.c, .slice hd.t.A hd.t.n hd.t.c, .slice hd.d.A hd.d.n hd.d.c] 43))
  generalize w.alloc (.cells #[.int .i64 r.kind, .int .i64 r.tx, .int .i64 r.prev, .int .i64 r.next, .string r.key, .bool r.had, .string r.old.k, .string r.old.v, .int .i64 r.old.b, .int .i64 r.old.z, .slice hd.g.A hd.g.n hd.g.c, .slice hd.p.A hd.p.n hd.p.c, .slice hd.t.A hd.t.n hd.t.c, .slice hd.d.A hd.d.n hd.d.c] 43) = W at *
  go_wp2_with fail
  refine (ON.out _).mono ?_; rintro q w2 ⟨rfl, rfl⟩
  go_wp2_with fail
  go_ret2
  exact ⟨rfl, HB.out⟩
/-- What Append answers, and makes of the log. -/
def appA (A : Lg) (r : Rc.Rc) : Lg := { A with recs := A.recs ++ [Rc.putS r] }
def roomA (A : Lg) (r : Rc.Rc) : Bool := decide ((cntB ((A.recs ++ [Rc.putS r]).drop A.dur) : Int) ≤ (A.sectors : Int) - (A.fin : Int))
set_option maxHeartbeats 4000000 in
theorem append_is {C Cr q p : Nat} {v : Value} {A : Lg} (r : Rc.Rc) (hd : Rc.Hd) (w : World) (h : LgM C q p v A w) (hf : GFits A) (hC : C ≤ w.heap.size) (hr : Rc.RcM Cr w r hd) (hCr : Cr ≤ w.heap.size) (hst : (strmB ((A.recs ++ [Rc.putS r]).drop A.dur)).length ≤ 1100000) (hbl : A.recs.length ≤ 899999) :
    Calls Tryz.prog 16 #[.pointer (some ⟨q, 0, none⟩), Rc.rcv r hd] w fun e w' =>
      (Rc.rightR r = false ∧ e = .returned (.tuple #[.int .i64 0, .int .i64 1]) ∧ Below w.heap.size w w') ∨
      (Rc.rightR r = true ∧ roomA A r = false ∧ e = .returned (.tuple #[.int .i64 0, .int .i64 7]) ∧ LgM C q p v A w' ∧ GOwn C q v w w') ∨
      (Rc.rightR r = true ∧ roomA A r = true ∧ e = .returned (.tuple #[.int .i64 ((A.recs.length + 1 : Nat) : Int), .int .i64 0]) ∧ ∃ v', LgM C q p v' (appA A r) w' ∧ GOwn C q v w w' ∧ Mv v v' w) := by
  obtain ⟨f0, f1, f2, f3, f4, f5, f6, _, _⟩ := hf
  have HCR := Lib.hid hCr
  have HRC := Lib.hid hr
  have PU := Lib.hid (fun (u : World) (hu : Rc.RcM u.heap.size u r hd) => show Calls Tryz.prog 48 #[.agg (Rc.rcs r hd)] u fun e w' => e = .returned (.tuple #[.string (str (Rc.putS r)), .bool (Rc.rightR r)]) ∧ Below u.heap.size u w' from Rc.put_any r hd u hu (Nat.le_refl _))
  have OY := Lib.hid (fun (u : World) (hb : Below w.heap.size w u) => open_yes (q := q) (p := p) u ((h.kept hb).cells.1))
  have H := Lib.hid h
  have HCW := Lib.hid hC
  have HST := Lib.hid hst
  have HSZ := Lib.hid f6
  have HPL := Lib.hid (show (Rc.putS r).length ≤ 800000 from by
    unfold Rc.putS
    cases hg : Rc.rightR r with
    | true => exact Nat.le_trans (Rc.enc_small (Rc.rightR_iff.1 hg)) (by omega)
    | false => simp)
  have HRM := Lib.hid (show roomA A r = decide ((cntB ((A.recs ++ [Rc.putS r]).drop A.dur) : Int) ≤ (A.sectors : Int) - (A.fin : Int)) from rfl)
  have hx := Lib.hid (Bx.new w (Rc.rcs r hd) 43)
  have HB := Lib.hid ((Below.refl w.heap.size w).alloc (Nat.le_refl _) (.cells (Rc.rcs r hd) 43))
  unfold Rc.rcv
  unfold Rc.rcs at PU hx HB
  clear h hC hr hCr hst f6
  have HX2 := Lib.hid (fun (u : World) (k : Fr.Bx u w.heap.size #[.int .i64 r.kind, .int .i64 r.tx, .int .i64 r.prev, .int .i64 r.next, .string r.key, .bool r.had, .string r.old.k, .string r.old.v, .int .i64 r.old.b, .int .i64 r.old.z, .slice hd.g.A hd.g.n hd.g.c, .slice hd.p.A hd.p.n hd.p.c, .slice hd.t.A hd.t.n hd.t.c, .slice hd.d.A hd.d.n hd.d.c] 43) => Rc.rcs_at r hd u w.heap.size k)
  go_enter Tryz.func16, Tryz.ntmps16
  go_upto_region 1 with fail
  generalize w.alloc (.cells #[.int .i64 r.kind, .int .i64 r.tx, .int .i64 r.prev, .int .i64 r.next, .string r.key, .bool r.had, .string r.old.k, .string r.old.v, .int .i64 r.old.b, .int .i64 r.old.z, .slice hd.g.A hd.g.n hd.g.c, .slice hd.p.A hd.p.n hd.p.c, .slice hd.t.A hd.t.n hd.t.c, .slice hd.d.A hd.d.n hd.d.c] 43) = W at *
  obtain ⟨x0, x1, x2, x3, x4, x5, x6, x7, x8, x9, x10, x11, x12, x13⟩ := HX2.out W hx.out
  have P4 := Lib.hid (PU.out W (((HRC.out.more HCR.out).kept HB.out).more HB.out.size))
  have OY4 := Lib.hid (OY.out W HB.out)
  clear PU OY HX2 hx
  go_wp2_with fail
  refine OY4.out.mono ?_; rintro e w2 ⟨rfl, rfl⟩
  go_wp2_with fail
  refine P4.out.mono ?_; rintro e w5 ⟨rfl, hb⟩
  have HB5 := Lib.hid (HB.out.trans (hb.mono HB.out.size))
  clear hb P4 OY4 HB x0 x1 x2 x3 x4 x5 x6 x7 x8 x9 x10 x11 x12 x13
  cases hg : Rc.rightR r with
  | false =>
    go_wp2_with fail
    go_ret2
    exact .inl ⟨hg, rfl, HB5.out⟩
  | true =>
    have HR1 := Lib.hid hg
    clear hg
    obtain ⟨x0, x1, x2, x3, x4, x5, x6, x7⟩ := (H.out.kept HB5.out).cells
    obtain ⟨hx5, hown5, hCq⟩ := H.out.kept HB5.out
    obtain ⟨vA, vc, rfl⟩ := hown5.shape
    have hbl2 : A.recs.length + 1 ≤ 1000000 := by omega
    have HC5 := Lib.hid (show C ≤ w5.heap.size from Nat.le_trans HCW.out HB5.out.size)
    have HO5 := Lib.hid hown5
    have HX5 := Lib.hid hx5
    have HCQ := Lib.hid hCq
    obtain ⟨ps, hps⟩ : ∃ ps, ps = Rc.putS r := ⟨_, rfl⟩
    have HAP := Lib.hid (show appA A r = { A with recs := A.recs ++ [ps] } from by rw [hps]; rfl)
    rw [← hps] at HST HRM HPL
    rw [← hps]
    clear hps hown5 hx5 hCq H
    go_wp2_with (at_builtin; go_loud (refine wpList_both rfl (.tmp 22) (.tmp 24) rfl C (by rw [World.size_alloc]; have := HC5.out; omega) (.slice vA A.recs.length vc) A.recs rfl (World.ownsRow.alloc HO5.out _) ps ⟨w5.heap.size, 0, none⟩ 1 rfl ((Bx.new w5 #[.string (str ps)] 9).cell 0) hbl2 ?_); intro v' w6 ho6 hv6 hg6 hm6)
    have HG6 := Lib.hid ((GOwn.of_below (C := C) (q := q) (v := .slice vA A.recs.length vc) ((Below.refl w5.heap.size w5).alloc (Nat.le_refl _) (.cells #[.string (str ps)] 9)) HC5.out).trans (grown_leaves (v' := v') (World.ownsRow.alloc HO5.out _) (by rw [World.size_alloc]; have := HC5.out; omega) hg6) (Mv.refl _ _))
    have HO6 := Lib.hid ho6
    have HV6 := Lib.hid hv6
    have HM6 := Lib.hid (show Mv (.slice vA A.recs.length vc) v' w from fun g hg => by
      rcases hm6 with e | e
      · exact .inl (e.symm.trans hg)
      · right
        rw [e] at hg
        simp only [Option.some.injEq, World.size_alloc] at hg
        have := HB5.out.size
        omega)
    have HX6 := Lib.hid (show Bx w6 q (gcs p (.slice vA A.recs.length vc) A) 89 from (HX5.out.alloc _).grown hg6 (fun e => own_block HO5.out HX5.out (by decide) q e.symm rfl))
    have HG7 := Lib.hid ((GOwn.of_below (C := C) (q := q) (v := .slice vA A.recs.length vc) HB5.out HCW.out).trans HG6.out (Mv.refl _ _))
    clear ho6 hv6 hg6 hm6 HO5 HX5 x0 x1 x2 x3 x4 x5 x6 x7
    obtain ⟨A6, c6, rfl⟩ := HO6.out.shape
    have htx := (HO6.out.txt (fun x hx => by
      rcases List.mem_append.1 hx with hx | hx
      · exact Nat.le_trans (HSZ.out x hx) (by decide)
      · rw [List.mem_singleton.1 hx]; exact Nat.le_trans HPL.out (by decide)) (by rw [List.length_append, List.length_singleton]; unfold maxLen; omega)).2
    have hcap := HO6.out.cap
    have hll : (A.recs ++ [ps]).length = A.recs.length + 1 := by rw [List.length_append, List.length_singleton]
    have HD := Lib.hid (htx.drop (k := A.dur) (cap := c6) (by omega) hcap)
    have CO := Lib.hid (fun (u : World) (hb : Below w6.heap.size w6 u) => count_b (c := c6 - A.dur) u (HD.out.kept hb) (by omega))
    have hcl := cut_lo A6 (A.recs ++ [ps]).length c6 A.dur (by omega)
    have hcn : cntB ((A.recs ++ [ps]).drop A.dur) ≤ 1000000 := by have := HST.out; unfold cntB; split <;> omega
    have HLL := Lib.hid hll
    rw [hll] at hcl CO
    rw [hll]
    obtain ⟨K, hK⟩ : ∃ K, cntB ((A.recs ++ [ps]).drop A.dur) = K := ⟨_, rfl⟩
    rw [hK] at HRM CO hcn
    have x3 : w6.cell? ⟨q, 3, none⟩ = some (.int .i64 (A.sectors : Int)) := HX6.out.cell 3
    have x5 : w6.cell? ⟨q, 5, none⟩ = some (.int .i64 (A.fin : Int)) := HX6.out.cell 5
    have x7 : w6.cell? ⟨q, 7, none⟩ = some (.int .i64 (A.dur : Int)) := HX6.out.cell 7
    have hc3 := fun u (hh : Held w6 u) => hh.cell x3
    have hc5 := fun u (hh : Held w6 u) => hh.cell x5
    have hc7 := fun u (hh : Held w6 u) => hh.cell x7
    have e1 : IntKind.i64.wrap ((A.sectors : Int) - (A.fin : Int)) = (A.sectors : Int) - (A.fin : Int) := IntWalk.i64_in _ (by omega)
    have hN0 : (0 : Int) ≤ (A.dur : Int) := by omega
    have hNb : (A.dur : Int) ≤ ((A.recs.length + 1 : Nat) : Int) := by omega
    clear x3 x5 x7 htx HD hll hK HST HSZ HPL
    cases hrm : roomA A r with
    | false =>
      have hgt : (A.sectors : Int) - (A.fin : Int) < (K : Int) := by
        rw [hrm] at HRM
        have := of_decide_eq_false HRM.out.symm
        omega
      clear HRM HAP HO6 HM6
      go_wp2_with fail
      go_region_held3 (fun u => Held w6 u) (first | exact Held.start _ | exact Held.step (by assumption) (by assumption) | assumption) (first
        | (go_at_call 49; refine (CO.out _ (by assumption)).mono ?_; rintro e u ⟨rfl, hb⟩))
      have HH := Lib.hid ‹Held w6 _›
      have HG8 := Lib.hid (HG7.out.trans (GOwn.of_below (C := C) (q := q) (v := .slice vA A.recs.length vc) (show Below w6.heap.size w6 _ from HH.out) (Nat.le_trans HCW.out HG7.out.size)) (Mv.refl _ _))
      have HL8 := Lib.hid (show LgM C q p (.slice vA A.recs.length vc) A u from ⟨HX6.out.held HH.out, HV6.out.kept HH.out, HCQ.out⟩)
      clear CO hc3 hc5 hc7
      go_wp2_with fail
      go_ret2
      exact .inr (.inl ⟨HR1.out, hrm, rfl, HL8.out, HG8.out⟩)
    | true =>
      have hgt : ¬ (A.sectors : Int) - (A.fin : Int) < (K : Int) := by
        rw [hrm] at HRM
        have := of_decide_eq_true HRM.out.symm
        omega
      clear HRM HV6
      go_wp2_with fail
      go_region_held3 (fun u => Held w6 u) (first | exact Held.start _ | exact Held.step (by assumption) (by assumption) | assumption) (first
        | (go_at_call 49; refine (CO.out _ (by assumption)).mono ?_; rintro e u ⟨rfl, hb⟩))
      have HH := Lib.hid ‹Held w6 _›
      have HG8 := Lib.hid (HG7.out.trans (GOwn.of_below (C := C) (q := q) (v := .slice vA A.recs.length vc) (show Below w6.heap.size w6 _ from HH.out) (Nat.le_trans HCW.out HG7.out.size)) (Mv.refl _ _))
      have HX8 := Lib.hid (HX6.out.held HH.out)
      have HO8 := Lib.hid (HO6.out.kept HH.out)
      have x6 : u.cell? ⟨q, 6, none⟩ = some (.slice vA A.recs.length vc) := HX8.out.cell 6
      have fz : u.frozen? ⟨q, 6, none⟩ = false := HX8.out.free 6
      have HX9 := Lib.hid (HX8.out.set 6 (.slice A6 (A.recs ++ [ps]).length c6))
      have HO9 := Lib.hid (ownT_set (i := 6) (x := .slice A6 (A.recs ++ [ps]).length c6) HO8.out HX8.out (by decide))
      have HG9 := Lib.hid (HG8.out.trans (GOwn.set (i := 6) (v := .slice vA A.recs.length vc) (x := .slice A6 (A.recs ++ [ps]).length c6) (w := u) HCQ.out) (Mv.refl _ _))
      have HL9 := Lib.hid (show LgM C q p (.slice A6 (A.recs ++ [ps]).length c6) (appA A r) (u.setCell ⟨q, 6, none⟩ (.slice A6 (A.recs ++ [ps]).length c6)) from by
        rw [HAP.out]
        exact ⟨HX9.out, HO9.out, HCQ.out⟩)
      rw [HLL.out] at HL9 HG9 HM6
      clear CO hc3 hc5 hc7 HX9 HO9 HX8 HO8 HAP HG8 HX6 HO6
      go_wp2_with fail
      go_ret2
      exact .inr (.inr ⟨HR1.out, hrm, rfl, _, HL9.out, HG9.out, HM6.out⟩)
end Go.Proofs.YtnjggoeahaglbaaGreat.Wa
