/- Whatever is read, written, synced, stopped, crashed, copied, in every order: the disk answers as the reference does. No condition. -/
import Derived.Test.YtnkhfgfiifadhaaRows
import Derived.Test.YtnkhfgfiifadhaaOps
import Derived.Lib.Hide
import Derived.WalkKit
import Derived.ProofKit
import Derived.OpenShut
import Derived.ChangeOld
import Derived.Below
import Derived.Carry
namespace Go.Proofs.Ytnkhfgfiifadhaa.diskPlays
open Go.ChangeShapes Go.WideShapes Go.ChangeAt Go.RowKit
set_option linter.unusedVariables false

theorem own : ownKnob Try.prog.godebug = none := by kernel_rfl
theorem laidOut : laidOutB Try.prog = true := by kernel_rfl


/-- The two disks, one state. -/
def Pair (C p q : Nat) (A : St) (w1 w : World) : Prop := Disk C p A w ∧ RDisk C q A w ∧ Below C w1 w
theorem Ref.weaken {C C' q : Nat} {lv pv : Value} {A : St} {w : World} (h : Ref C q lv pv A w) (hC : C' ≤ C) : Ref C' q lv pv A w := by
  refine ⟨Nat.le_trans hC h.hq, h.head, ⟨h.rowL.1, ?_⟩, ⟨h.rowP.1, ?_⟩, h.fits, h.n2, h.l1, h.l2⟩
  · rcases h.rowL.2 with h1 | ⟨g, cap, cur, h1, h2, h3⟩
    · exact .inl h1
    · exact .inr ⟨g, cap, cur, h1, Nat.le_trans hC h2, h3⟩
  · rcases h.rowP.2 with h1 | ⟨g, cap, cur, h1, h2, h3⟩
    · exact .inl h1
    · exact .inr ⟨g, cap, cur, h1, Nat.le_trans hC h2, h3⟩
theorem pair_start {C p q : Nat} {A : St} {w1 w2 w3 : World} (h : After C p A w1 w2) (hr : RDisk w2.heap.size q A w3) (hb : Below w2.heap.size w2 w3) : Pair C p q A w1 w3 := by
  obtain ⟨lv, pv, hr⟩ := hr
  exact ⟨h.1.below hb (Nat.le_refl _), ⟨lv, pv, Ref.weaken hr h.1.base⟩, h.2.below.trans (hb.mono h.1.base)⟩
theorem Pair.alloc {C p q : Nat} {A : St} {w1 w : World} (h : Pair C p q A w1 w) (o : Obj) : Pair C p q A w1 (w.alloc o) :=
  ⟨h.1.alloc o, h.2.1.below ((Below.refl _ _).alloc (Nat.le_refl _) o) (Nat.le_refl _), h.2.2.alloc h.1.base o⟩
theorem Pair.drew {C p q : Nat} {A : St} {w1 w : World} (h : Pair C p q A w1 w) : Pair C p q A w1 w.drew :=
  ⟨h.1.below (Below.refl _ _).drew (Nat.le_refl _), h.2.1.below (Below.refl _ _).drew (Nat.le_refl _), h.2.2.trans (Below.refl _ _).drew⟩
theorem pair_cells {C p q : Nat} {A : St} {w1 w : World} (h : Pair C p q A w1 w) : (∃ pa pc, w.cell? ⟨q, 1, none⟩ = some (.slice pa A.pend.length pc)) ∧ w.cell? ⟨q, 2, none⟩ = some (.bool (!A.runs)) := by
  obtain ⟨-, ⟨lv, pv, h⟩, -⟩ := h
  obtain ⟨a, c, e⟩ := h.shapeP
  exact ⟨⟨a, c, by rw [← e]; exact h.cell.2.1⟩, h.cell.2.2.1⟩
theorem OpAt.below {W W' : World} {b off : Nat} {o : OpV} (h : OpAt W b off o) (hb : Below W.heap.size W W') (hlt : b < W.heap.size) : OpAt W' b off o := by
  obtain ⟨⟨x0, x1, x2, x3, x4⟩, hk, h5⟩ := h
  refine ⟨⟨(hb.cell (p := ⟨b, off, none⟩) hlt).trans x0, (hb.cell (p := ⟨b, off + 1, none⟩) hlt).trans x1, (hb.cell (p := ⟨b, off + 2, none⟩) hlt).trans x2, (hb.cell (p := ⟨b, off + 3, none⟩) hlt).trans x3, (hb.cell (p := ⟨b, off + 4, none⟩) hlt).trans x4⟩, ⟨hk.1, fun i hi => ?_⟩, h5⟩
  obtain ⟨g, o2, h1, h2, h3⟩ := hk.2 i hi
  exact ⟨g, o2, h1, Nat.lt_of_lt_of_le h2 hb.size, (hb.cell (p := ⟨g, o2 + i, none⟩) h2).trans h3⟩
theorem Bools.lies {W W' : World} {ka : Option Addr} {n C : Nat} {l : List Bool} (h : Bools W ka n l) (hC : W.heap.size ≤ C) (hb : Below W.heap.size W W') : Lies C ka l W' := fun j hj => by
  obtain ⟨g, o2, h1, h2, h3⟩ := h.2 j (by rw [← h.1]; exact hj)
  exact ⟨g, o2, h1, by omega, (hb.cell (p := ⟨g, o2 + j, none⟩) h2).trans h3⟩
theorem pair_two {C p q : Nat} {A A1 : St} {w1 w wa wb : World} (h : Pair C p q A w1 w) (ha : After C p A1 w wa) (hb : RAfter C q A1 wa wb) : Pair C p q A1 w1 wb := ⟨ha.1.rleft hb.2, hb.1, h.2.2.trans (ha.2.below.trans hb.2.below)⟩
theorem Pair.more {C p q : Nat} {A : St} {w1 w w' : World} (h : Pair C p q A w1 w) (hb : Below w.heap.size w w') : Pair C p q A w1 w' :=
  ⟨h.1.below hb (Nat.le_refl _), h.2.1.below hb (Nat.le_refl _), h.2.2.trans (hb.mono h.1.base)⟩
theorem box_left {C B : Nat} {w w' : World} {cs : Array Value} {fr : Nat × Nat} (hl : Leaves C w w') (h : w.heap[B]? = some (.cells cs 40 fr)) : w'.heap[B]? = some (.cells cs 40 fr) :=
  (hl.other _ _ _ _ h (by decide) (by decide) (by decide)).trans h
theorem rbox_left {C B : Nat} {w w' : World} {cs : Array Value} {fr : Nat × Nat} (hl : RLeaves C w w') (h : w.heap[B]? = some (.cells cs 40 fr)) : w'.heap[B]? = some (.cells cs 40 fr) :=
  (hl.other _ _ _ _ h (by decide) (by decide) (by decide)).trans h
theorem box_keep {C p B i : Nat} {A1 : St} {w w' : World} {cs : Array Value} {fr : Nat × Nat} {v : Value} (ha : After C p A1 w w') (h : w.heap[B]? = some (.cells cs 40 fr)) (hv : cs[i]? = some v) : w'.heap[B]? = some (.cells cs 40 fr) ∧ w'.cell? ⟨B, i, none⟩ = some v :=
  ⟨box_left ha.2 h, (cell_of_row _ _ _ _ _ _ (box_left ha.2 h)).trans hv⟩
theorem rbox_keep {C q B i : Nat} {A1 : St} {w w' : World} {cs : Array Value} {fr : Nat × Nat} {v : Value} (ha : RAfter C q A1 w w') (h : w.heap[B]? = some (.cells cs 40 fr)) (hv : cs[i]? = some v) : w'.heap[B]? = some (.cells cs 40 fr) ∧ w'.cell? ⟨B, i, none⟩ = some v :=
  ⟨rbox_left ha.2 h, (cell_of_row _ _ _ _ _ _ (rbox_left ha.2 h)).trans hv⟩
theorem lt_of_block {w : World} {B : Nat} {o : Obj} (h : w.heap[B]? = some o) : B < w.heap.size := (Array.getElem?_eq_some_iff.1 h).1
theorem Lies.below {C : Nat} {ka : Option Addr} {l : List Bool} {w w' : World} (h : Lies C ka l w) (hb : Below C w w') : Lies C ka l w' := fun j hj => by
  obtain ⟨b, off, h1, h2, h3⟩ := h j hj
  exact ⟨b, off, h1, h2, (hb.cell (p := ⟨b, off + j, none⟩) h2).trans h3⟩
set_option maxRecDepth 100000 in
set_option maxHeartbeats 64000000 in
theorem walk (N : Int) (A0 : Option Addr) (n0 c0' : Nat) (l0 : List OpV) (w : World) (hN : (Lit.int .i64 N).wf = true) (hl0 : Ops w A0 n0 l0) (hm0 : n0 ≤ maxLen) :
    Calls Try.prog 3 #[.int .i64 N, .slice A0 n0 c0'] w fun e w' => e = .returned (.bool true) ∧ Below w.heap.size w w' := by
  unfold maxLen at hm0
  have HL0 := Lib.hid hl0
  clear hl0
  by_cases c0 : 40 < N ∧ N ≤ 10000
  · obtain ⟨c1, c2⟩ := c0
    as_aux_lemma =>
      go_enter Try.func3, Try.ntmps3
      go_wp2_with fail
      refine (alive_yes _).mono ?_; rintro e w1 ⟨rfl, hb1⟩
      have B1 := Lib.hid hb1
      clear hb1
      go_wp2_with fail
      go_ret
      exact ⟨rfl, B1.out⟩
  · by_cases c1 : 100 < n0
    · have c1' : (100 : Int) < n0 := by omega
      by_cases c2 : 40 < N
      · have c3 : ¬ N ≤ 10000 := fun h => c0 ⟨c2, h⟩
        as_aux_lemma =>
          go_enter Try.func3, Try.ntmps3
          go_wp2_with fail
          refine (alive_yes _).mono ?_; rintro e w1 ⟨rfl, hb1⟩
          have B1 := Lib.hid hb1
          clear hb1
          go_wp2_with fail
          go_ret
          exact ⟨rfl, B1.out⟩
      · as_aux_lemma =>
          go_enter Try.func3, Try.ntmps3
          go_wp2_with fail
          refine (alive_yes _).mono ?_; rintro e w1 ⟨rfl, hb1⟩
          have B1 := Lib.hid hb1
          clear hb1
          go_wp2_with fail
          go_ret
          exact ⟨rfl, B1.out⟩
    · have c1' : ¬ (100 : Int) < n0 := by omega
      by_cases c2 : N < 1 ∨ 10000 < N
      · by_cases c3 : 40 < N
        · have c4 : ¬ N ≤ 10000 := fun h => c0 ⟨c3, h⟩
          as_aux_lemma =>
            have FE := Lib.hid (fill_ok ⟨#[]⟩ (by decide))
            go_enter Try.func3, Try.ntmps3
            go_wp2_with fail
            refine (alive_yes _).mono ?_; rintro e w1 ⟨rfl, hb1⟩
            have B1 := Lib.hid hb1
            clear hb1
            go_wp2_with fail
            refine (new_no N c2 _).mono ?_; rintro e w2 ⟨rfl, rfl⟩
            go_wp2_with fail
            refine (disks_none N c2 _).mono ?_; rintro e w2 ⟨rfl, rfl⟩
            go_wp2_with fail
            refine (read_nil 0 _).mono ?_; rintro e w2 ⟨rfl, rfl⟩
            go_wp2_with fail
            refine (stop_nil 1 _).mono ?_; rintro e w2 ⟨rfl, rfl⟩
            go_wp2_with fail
            refine (FE.out _).mono ?_; rintro e w2 ⟨rfl, hb2⟩
            have B2 := Lib.hid (B1.out.trans (hb2.mono B1.out.size))
            clear hb2
            generalize str (fill (ByteArray.mk #[]).data.toList) = Y at *
            go_wp2_with fail
            refine (write_nil 0 (.string Y) _).mono ?_; rintro e w3 ⟨rfl, rfl⟩
            go_wp2_with fail
            refine (sync_nil _).mono ?_; rintro e w3 ⟨rfl, rfl⟩
            go_wp2_with fail
            refine (dead_nil _).mono ?_; rintro e w3 ⟨rfl, rfl⟩
            go_wp2_with fail
            refine (crash_nil none 0 0 _).mono ?_; rintro e w3 ⟨rfl, hb3⟩
            have B3 := Lib.hid (B2.out.trans (hb3.mono B2.out.size))
            clear hb3
            go_wp2_with fail
            refine (pending_nil _).mono ?_; rintro e w4 ⟨rfl, rfl⟩
            go_wp2_with fail
            refine (sectors_nil _).mono ?_; rintro e w4 ⟨rfl, rfl⟩
            go_wp2_with fail
            refine (copy_nil _).mono ?_; rintro e w4 ⟨rfl, rfl⟩
            go_wp2_with fail
            go_ret
            exact ⟨rfl, B3.out⟩
        · have c5 : N < 1 := by omega
          as_aux_lemma =>
            have FE := Lib.hid (fill_ok ⟨#[]⟩ (by decide))
            go_enter Try.func3, Try.ntmps3
            go_wp2_with fail
            refine (alive_yes _).mono ?_; rintro e w1 ⟨rfl, hb1⟩
            have B1 := Lib.hid hb1
            clear hb1
            go_wp2_with fail
            refine (new_no N c2 _).mono ?_; rintro e w2 ⟨rfl, rfl⟩
            go_wp2_with fail
            refine (disks_none N c2 _).mono ?_; rintro e w2 ⟨rfl, rfl⟩
            go_wp2_with fail
            refine (read_nil 0 _).mono ?_; rintro e w2 ⟨rfl, rfl⟩
            go_wp2_with fail
            refine (stop_nil 1 _).mono ?_; rintro e w2 ⟨rfl, rfl⟩
            go_wp2_with fail
            refine (FE.out _).mono ?_; rintro e w2 ⟨rfl, hb2⟩
            have B2 := Lib.hid (B1.out.trans (hb2.mono B1.out.size))
            clear hb2
            generalize str (fill (ByteArray.mk #[]).data.toList) = Y at *
            go_wp2_with fail
            refine (write_nil 0 (.string Y) _).mono ?_; rintro e w3 ⟨rfl, rfl⟩
            go_wp2_with fail
            refine (sync_nil _).mono ?_; rintro e w3 ⟨rfl, rfl⟩
            go_wp2_with fail
            refine (dead_nil _).mono ?_; rintro e w3 ⟨rfl, rfl⟩
            go_wp2_with fail
            refine (crash_nil none 0 0 _).mono ?_; rintro e w3 ⟨rfl, hb3⟩
            have B3 := Lib.hid (B2.out.trans (hb3.mono B2.out.size))
            clear hb3
            go_wp2_with fail
            refine (pending_nil _).mono ?_; rintro e w4 ⟨rfl, rfl⟩
            go_wp2_with fail
            refine (sectors_nil _).mono ?_; rintro e w4 ⟨rfl, rfl⟩
            go_wp2_with fail
            refine (copy_nil _).mono ?_; rintro e w4 ⟨rfl, rfl⟩
            go_wp2_with fail
            go_ret
            exact ⟨rfl, B3.out⟩
      · obtain ⟨n, rfl⟩ : ∃ n : Nat, N = n := ⟨N.toNat, by omega⟩
        have hn1 : 1 ≤ n := by omega
        have hn40 : n ≤ 40 := by omega
        have c3 : ¬ (40 : Int) < n := by omega
        clear c0 c1 c2
        go_enter Try.func3, Try.ntmps3
        go_wp2_with fail
        refine (alive_yes _).mono ?_; rintro e w1 ⟨rfl, hb1⟩
        have B1 := Lib.hid hb1
        clear hb1
        go_wp2_with fail
        refine (new_d n hn1 (by omega) _).mono ?_; rintro e w2 ⟨rfl, h⟩
        have H2 := Lib.hid h
        clear h
        go_wp2_with fail
        refine (disks_ok n hn1 (by omega) _).mono ?_; rintro e w3 ⟨rfl, hr, hb⟩
        have HP := Lib.hid (pair_start H2.out hr hb)
        have HC := Lib.hid (show w.heap.size ≤ w1.heap.size from B1.out.size)
        clear hr hb H2
        obtain ⟨C, hC⟩ : ∃ C, C = w1.heap.size := ⟨_, rfl⟩
        obtain ⟨q, hq⟩ : ∃ q, q = w2.heap.size := ⟨_, rfl⟩
        rw [← hC, ← hq] at HP ⊢
        rw [← hC] at HC
        clear hC hq
        go_wp2_with fail
        go_loopw [5, 92] (fun pv kv wr => ∃ (k p : Nat) (A : St), k ≤ n0 ∧ kv = .int .i64 k ∧ pv = ptr p ∧ Pair C p q A w1 wr ∧ A.last.length = n ∧ A.pend.length ≤ k) (fun _ kv _ => n0 - (intOf kv).toNat)
        case atStart => exact ⟨0, _, _, Nat.zero_le _, rfl, rfl, HP.out, by simp [blank], by simp [blank]⟩
        case round =>
          clear HP
          obtain ⟨k, p, A, hk, rfl, rfl, hp, hal, hap⟩ := hrel
          have HP := Lib.hid hp
          have HAL := Lib.hid hal
          have HAP := Lib.hid hap
          clear hp hal hap
          by_cases hlt : k < n0
          · have hlk : (k : Int) < n0 := by omega
            obtain ⟨b, off, hA, hbw, hop⟩ := HL0.out.2 k hlt
            subst hA
            have hop2 : OpAt wr b (off + k * 5) (l0.getD k op0) := OpAt.below hop ((B1.out.trans (HP.out.2.2.mono HC.out))) hbw
            have HLI := Lib.hid (Bools.lies hop.2.1 (show w.heap.size ≤ C from HC.out) (B1.out.trans (HP.out.2.2.mono HC.out)))
            clear hop
            generalize l0.getD k op0 = o at *
            obtain ⟨kind, N, bs, raw, ka, kc, keep⟩ := o
            obtain ⟨⟨x0, x1, x2, x3, x4⟩, -, hkl, hbl, hN, hkind⟩ := hop2
            dsimp only at *
            by_cases hb200 : 200 < bs.size
            · as_aux_lemma =>
                have hb2 : (200 : Int) < bs.size := by omega
                go_wp2_with fail
                go_ret
                exact ⟨rfl, B1.out.trans ((HP.out.2.2.alloc (by have := HP.out.1.base; exact this) _).mono HC.out)⟩
            · have hb2 : ¬ (200 : Int) < bs.size := by omega
              by_cases hk60 : 60 < keep.length
              · as_aux_lemma =>
                  have hk2 : (60 : Int) < keep.length := by omega
                  go_wp2_with fail
                  go_ret
                  exact ⟨rfl, B1.out.trans ((HP.out.2.2.alloc (by have := HP.out.1.base; exact this) _).mono HC.out)⟩
              · have hk2 : ¬ (60 : Int) < keep.length := by omega
                obtain ⟨BX, hBX⟩ : ∃ BX, BX = wr.heap.size := ⟨_, rfl⟩
                have HBX := Lib.hid hBX
                have HP0 := Lib.hid (Pair.alloc HP.out (.cells #[.int .i64 kind, .int .i64 N, .string bs, .bool raw, .slice ka keep.length kc] 40))
                have HX0 := Lib.hid (show (wr.alloc (.cells #[.int .i64 kind, .int .i64 N, .string bs, .bool raw, .slice ka keep.length kc] 40)).heap[BX]? = some (.cells #[.int .i64 kind, .int .i64 N, .string bs, .bool raw, .slice ka keep.length kc] 40 (0, 0)) from by rw [hBX]; exact heap_alloc_new wr _)
                clear hBX
                by_cases q1 : kind = 1
                · as_aux_lemma =>
                    subst q1
                    go_wp2_with fail
                    have hxb := HX0.out
                    rw [HBX.out] at hxb
                    generalize wr.alloc (.cells #[.int .i64 1, .int .i64 N, .string bs, .bool raw, .slice ka keep.length kc] 40) = X at *
                    have z1 : X.cell? ⟨wr.heap.size, 1, none⟩ = some (.int .i64 N) := (cell_of_row _ _ _ _ _ _ hxb).trans rfl
                    have z2 : X.cell? ⟨wr.heap.size, 2, none⟩ = some (.string bs) := (cell_of_row _ _ _ _ _ _ hxb).trans rfl
                    have z3 : X.cell? ⟨wr.heap.size, 3, none⟩ = some (.bool raw) := (cell_of_row _ _ _ _ _ _ hxb).trans rfl
                    have z4 : X.cell? ⟨wr.heap.size, 4, none⟩ = some (.slice ka keep.length kc) := (cell_of_row _ _ _ _ _ _ hxb).trans rfl
                    have HXB := Lib.hid hxb
                    clear hxb HX0 HBX x0 x1 x2 x3 x4
                    have RA := Lib.hid (fun (r : World) (h : Disk C p A r) => read_any h N)
                    have RB := Lib.hid (fun (r : World) (h : RDisk C q A r) => rread_any h N)
                    have hse : ((readS A N).data.toList == (readS A N).data.toList) = true := by simp
                    generalize readS A N = S at *
                    generalize readE A N = E at *
                    refine (RA.out _ HP0.out.1).mono ?_; rintro e xa ⟨rfl, rfl⟩
                    go_wp2_with fail
                    refine (RB.out _ HP0.out.2.1).mono ?_; rintro e xa ⟨rfl, rfl⟩
                    obtain ⟨A1, hA1⟩ : ∃ A1, A1 = A := ⟨_, rfl⟩
                    rw [← hA1] at HP0
                    have HL1 := Lib.hid (show A1.last.length = n by rw [hA1]; exact HAL.out)
                    have HA1 := Lib.hid (show A1.pend.length ≤ k + 1 by rw [hA1]; exact Nat.le_trans HAP.out (Nat.le_succ _))
                    clear hA1
                    go_wp2_with fail
                    have HT := Lib.hid (pair_cells HP0.out)
                    obtain ⟨⟨pa, pc, y1⟩, y2⟩ := HT.out
                    have TD := Lib.hid (fun (r : World) (e : r = X.drew) => e ▸ dead_d (Pair.drew HP0.out).1)
                    have TP := Lib.hid (fun (r : World) (e : r = X.drew) => e ▸ pending_d (Pair.drew HP0.out).1)
                    have TS := Lib.hid (fun (r : World) (e : r = X.drew) => e ▸ sectors_d (Pair.drew HP0.out).1)
                    rw [HL1.out] at TS
                    have HQD := Lib.hid (Pair.drew HP0.out)
                    clear HT HP0
                    generalize A1.runs = rb at TD y2
                    generalize A1.pend.length = pl at TP y1
                    cases rb
                    · go_region_held3 (fun w' => w' = X.drew) (first | rfl | assumption) (first
                        | (go_at_call_of 20 (ptr p); refine (TD.out _ (by first | rfl | assumption)).mono ?_; rintro e xw ⟨rfl, rfl⟩)
                        | (go_at_call_of 22 (ptr p); refine (TP.out _ (by first | rfl | assumption)).mono ?_; rintro e xw ⟨rfl, rfl⟩)
                        | (go_at_call_of 23 (ptr p); refine (TS.out _ (by first | rfl | assumption)).mono ?_; rintro e xw ⟨rfl, rfl⟩))
                      clear TD TP TS
                      go_wp2_with fail
                      go_roundw
                      case rel => exact ⟨k + 1, p, A1, by omega, by go_num, rfl, HQD.out, HL1.out, HA1.out⟩
                      case measure => simp [intOf]; omega
                    · go_region_held3 (fun w' => w' = X.drew) (first | rfl | assumption) (first
                        | (go_at_call_of 20 (ptr p); refine (TD.out _ (by first | rfl | assumption)).mono ?_; rintro e xw ⟨rfl, rfl⟩)
                        | (go_at_call_of 22 (ptr p); refine (TP.out _ (by first | rfl | assumption)).mono ?_; rintro e xw ⟨rfl, rfl⟩)
                        | (go_at_call_of 23 (ptr p); refine (TS.out _ (by first | rfl | assumption)).mono ?_; rintro e xw ⟨rfl, rfl⟩))
                      clear TD TP TS
                      go_wp2_with fail
                      go_roundw
                      case rel => exact ⟨k + 1, p, A1, by omega, by go_num, rfl, HQD.out, HL1.out, HA1.out⟩
                      case measure => simp [intOf]; omega
                · by_cases q2 : kind = 2
                  · as_aux_lemma =>
                      subst q2
                      cases raw with
                      | true =>
                        go_wp2_with fail
                        have hxb := HX0.out
                        rw [HBX.out] at hxb
                        generalize wr.alloc (.cells #[.int .i64 2, .int .i64 N, .string bs, .bool true, .slice ka keep.length kc] 40) = X at *
                        have z1 : X.cell? ⟨wr.heap.size, 1, none⟩ = some (.int .i64 N) := (cell_of_row _ _ _ _ _ _ hxb).trans rfl
                        have z2 : X.cell? ⟨wr.heap.size, 2, none⟩ = some (.string bs) := (cell_of_row _ _ _ _ _ _ hxb).trans rfl
                        have z3 : X.cell? ⟨wr.heap.size, 3, none⟩ = some (.bool true) := (cell_of_row _ _ _ _ _ _ hxb).trans rfl
                        have z4 : X.cell? ⟨wr.heap.size, 4, none⟩ = some (.slice ka keep.length kc) := (cell_of_row _ _ _ _ _ _ hxb).trans rfl
                        have HXB := Lib.hid hxb
                        clear hxb HX0 HBX x0 x1 x2 x3 x4
                        obtain ⟨B, hB0⟩ : ∃ B, B = bs := ⟨_, rfl⟩
                        have hB : B.size ≤ maxLen := by rw [hB0]; exact hbl
                        rw [← hB0] at z2 HXB ⊢
                        clear hB0 z2 z3 z4
                        have RA := Lib.hid (fun (r : World) (h : Disk C p A r) => write_any h N B hB (Nat.le_trans HAP.out (by omega)))
                        have RB := Lib.hid (fun (r : World) (h : RDisk C q A r) => rwrite_any h N B hB (Nat.le_trans HAP.out (by omega)))
                        have HL1 := Lib.hid (show (writeSt A N B).last.length = n by rw [writeSt_last]; exact HAL.out)
                        have HA1 := Lib.hid (show (writeSt A N B).pend.length ≤ k + 1 from Nat.le_trans (writeSt_pend A N B) (Nat.succ_le_succ HAP.out))
                        generalize writeSt A N B = A1 at *
                        generalize writeE A N B = E at *
                        have HD := Lib.hid (Pair.drew HP0.out)
                        have HXD := Lib.hid (show X.drew.heap[wr.heap.size]? = _ from HXB.out)
                        clear HXB
                        go_region_held3 (fun w' => w'.heap[wr.heap.size]? = some (.cells #[.int .i64 2, .int .i64 N, .string B, .bool true, .slice ka keep.length kc] 40 (0, 0)) ∧ w'.cell? ⟨wr.heap.size, 1, none⟩ = some (.int .i64 N)) (((try dsimp only); (first
                            | exact ⟨HXD.out, by simpa using z1⟩
                            | exact box_keep (by assumption) (And.left (by assumption)) rfl
                            | exact rbox_keep (by assumption) (And.left (by assumption)) rfl)))
                          (first
                            | (go_at_call_of 17 (ptr p); refine (RA.out _ HD.out.1).mono ?_; rintro e xa ⟨rfl, ha⟩)
                            | (go_at_call_of 26 (ptr q); refine (RB.out _ (HD.out.2.1.left (And.right (by assumption : After C p A1 X.drew _)))).mono ?_; rintro e xb ⟨rfl, hb⟩))
                        have HQ := Lib.hid (pair_two HD.out (by assumption : After C p A1 X.drew _) (by assumption : RAfter C q A1 _ _))
                        clear HP0 HD HXD RA RB
                        go_wp2_with fail
                        have HT := Lib.hid (pair_cells HQ.out)
                        obtain ⟨⟨pa, pc, y1⟩, y2⟩ := HT.out
                        have TD := Lib.hid (fun (r : World) (e : r = xb.drew) => e ▸ dead_d (Pair.drew HQ.out).1)
                        have TP := Lib.hid (fun (r : World) (e : r = xb.drew) => e ▸ pending_d (Pair.drew HQ.out).1)
                        have TS := Lib.hid (fun (r : World) (e : r = xb.drew) => e ▸ sectors_d (Pair.drew HQ.out).1)
                        rw [HL1.out] at TS
                        have HQD := Lib.hid (Pair.drew HQ.out)
                        clear HT HQ
                        generalize A1.runs = rb at TD y2
                        generalize A1.pend.length = pl at TP y1
                        cases rb
                        · go_region_held3 (fun w' => w' = xb.drew) (first | rfl | assumption) (first
                            | (go_at_call_of 20 (ptr p); refine (TD.out _ (by first | rfl | assumption)).mono ?_; rintro e xw ⟨rfl, rfl⟩)
                            | (go_at_call_of 22 (ptr p); refine (TP.out _ (by first | rfl | assumption)).mono ?_; rintro e xw ⟨rfl, rfl⟩)
                            | (go_at_call_of 23 (ptr p); refine (TS.out _ (by first | rfl | assumption)).mono ?_; rintro e xw ⟨rfl, rfl⟩))
                          clear TD TP TS
                          go_wp2_with fail
                          go_roundw
                          case rel => exact ⟨k + 1, p, A1, by omega, by go_num, rfl, HQD.out, HL1.out, HA1.out⟩
                          case measure => simp [intOf]; omega
                        · go_region_held3 (fun w' => w' = xb.drew) (first | rfl | assumption) (first
                            | (go_at_call_of 20 (ptr p); refine (TD.out _ (by first | rfl | assumption)).mono ?_; rintro e xw ⟨rfl, rfl⟩)
                            | (go_at_call_of 22 (ptr p); refine (TP.out _ (by first | rfl | assumption)).mono ?_; rintro e xw ⟨rfl, rfl⟩)
                            | (go_at_call_of 23 (ptr p); refine (TS.out _ (by first | rfl | assumption)).mono ?_; rintro e xw ⟨rfl, rfl⟩))
                          clear TD TP TS
                          go_wp2_with fail
                          go_roundw
                          case rel => exact ⟨k + 1, p, A1, by omega, by go_num, rfl, HQD.out, HL1.out, HA1.out⟩
                          case measure => simp [intOf]; omega
                      | false =>
                        go_wp2_with fail
                        have hxb := HX0.out
                        rw [HBX.out] at hxb
                        generalize wr.alloc (.cells #[.int .i64 2, .int .i64 N, .string bs, .bool false, .slice ka keep.length kc] 40) = X at *
                        have z1 : X.cell? ⟨wr.heap.size, 1, none⟩ = some (.int .i64 N) := (cell_of_row _ _ _ _ _ _ hxb).trans rfl
                        have z2 : X.cell? ⟨wr.heap.size, 2, none⟩ = some (.string bs) := (cell_of_row _ _ _ _ _ _ hxb).trans rfl
                        have z3 : X.cell? ⟨wr.heap.size, 3, none⟩ = some (.bool false) := (cell_of_row _ _ _ _ _ _ hxb).trans rfl
                        have z4 : X.cell? ⟨wr.heap.size, 4, none⟩ = some (.slice ka keep.length kc) := (cell_of_row _ _ _ _ _ _ hxb).trans rfl
                        have HXB := Lib.hid hxb
                        clear hxb HX0 HBX x0 x1 x2 x3 x4
                        refine (fill_ok bs hbl _).mono ?_; rintro e xf ⟨rfl, hf⟩
                        have HP1 := Lib.hid (Pair.more HP0.out hf)
                        have hxb := (hf.block _ (lt_of_block HXB.out)).trans HXB.out
                        clear HP0 HXB z1 z2 z3 z4 hf
                        have HP0 := HP1
                        clear HP1
                        have z1 : xf.cell? ⟨wr.heap.size, 1, none⟩ = some (.int .i64 N) := (cell_of_row _ _ _ _ _ _ hxb).trans rfl
                        have HXB := Lib.hid hxb
                        clear hxb
                        have hB : (str (fill bs.data.toList)).size ≤ maxLen := by rw [str_size, fill_length]; unfold maxLen; omega
                        generalize str (fill bs.data.toList) = B at *
                        go_wp2_with fail
                        have RA := Lib.hid (fun (r : World) (h : Disk C p A r) => write_any h N B hB (Nat.le_trans HAP.out (by omega)))
                        have RB := Lib.hid (fun (r : World) (h : RDisk C q A r) => rwrite_any h N B hB (Nat.le_trans HAP.out (by omega)))
                        have HL1 := Lib.hid (show (writeSt A N B).last.length = n by rw [writeSt_last]; exact HAL.out)
                        have HA1 := Lib.hid (show (writeSt A N B).pend.length ≤ k + 1 from Nat.le_trans (writeSt_pend A N B) (Nat.succ_le_succ HAP.out))
                        generalize writeSt A N B = A1 at *
                        generalize writeE A N B = E at *
                        have HD := Lib.hid (Pair.drew HP0.out)
                        have HXD := Lib.hid (show xf.drew.heap[wr.heap.size]? = _ from HXB.out)
                        clear HXB
                        go_region_held3 (fun w' => w'.heap[wr.heap.size]? = some (.cells #[.int .i64 2, .int .i64 N, .string bs, .bool false, .slice ka keep.length kc] 40 (0, 0)) ∧ w'.cell? ⟨wr.heap.size, 1, none⟩ = some (.int .i64 N)) (((try dsimp only); (first
                            | exact ⟨HXD.out, by simpa using z1⟩
                            | exact box_keep (by assumption) (And.left (by assumption)) rfl
                            | exact rbox_keep (by assumption) (And.left (by assumption)) rfl)))
                          (first
                            | (go_at_call_of 17 (ptr p); refine (RA.out _ HD.out.1).mono ?_; rintro e xa ⟨rfl, ha⟩)
                            | (go_at_call_of 26 (ptr q); refine (RB.out _ (HD.out.2.1.left (And.right (by assumption : After C p A1 xf.drew _)))).mono ?_; rintro e xb ⟨rfl, hb⟩))
                        have HQ := Lib.hid (pair_two HD.out (by assumption : After C p A1 xf.drew _) (by assumption : RAfter C q A1 _ _))
                        clear HP0 HD HXD RA RB
                        go_wp2_with fail
                        have HT := Lib.hid (pair_cells HQ.out)
                        obtain ⟨⟨pa, pc, y1⟩, y2⟩ := HT.out
                        have TD := Lib.hid (fun (r : World) (e : r = xb.drew) => e ▸ dead_d (Pair.drew HQ.out).1)
                        have TP := Lib.hid (fun (r : World) (e : r = xb.drew) => e ▸ pending_d (Pair.drew HQ.out).1)
                        have TS := Lib.hid (fun (r : World) (e : r = xb.drew) => e ▸ sectors_d (Pair.drew HQ.out).1)
                        rw [HL1.out] at TS
                        have HQD := Lib.hid (Pair.drew HQ.out)
                        clear HT HQ
                        generalize A1.runs = rb at TD y2
                        generalize A1.pend.length = pl at TP y1
                        cases rb
                        · go_region_held3 (fun w' => w' = xb.drew) (first | rfl | assumption) (first
                            | (go_at_call_of 20 (ptr p); refine (TD.out _ (by first | rfl | assumption)).mono ?_; rintro e xw ⟨rfl, rfl⟩)
                            | (go_at_call_of 22 (ptr p); refine (TP.out _ (by first | rfl | assumption)).mono ?_; rintro e xw ⟨rfl, rfl⟩)
                            | (go_at_call_of 23 (ptr p); refine (TS.out _ (by first | rfl | assumption)).mono ?_; rintro e xw ⟨rfl, rfl⟩))
                          clear TD TP TS
                          go_wp2_with fail
                          go_roundw
                          case rel => exact ⟨k + 1, p, A1, by omega, by go_num, rfl, HQD.out, HL1.out, HA1.out⟩
                          case measure => simp [intOf]; omega
                        · go_region_held3 (fun w' => w' = xb.drew) (first | rfl | assumption) (first
                            | (go_at_call_of 20 (ptr p); refine (TD.out _ (by first | rfl | assumption)).mono ?_; rintro e xw ⟨rfl, rfl⟩)
                            | (go_at_call_of 22 (ptr p); refine (TP.out _ (by first | rfl | assumption)).mono ?_; rintro e xw ⟨rfl, rfl⟩)
                            | (go_at_call_of 23 (ptr p); refine (TS.out _ (by first | rfl | assumption)).mono ?_; rintro e xw ⟨rfl, rfl⟩))
                          clear TD TP TS
                          go_wp2_with fail
                          go_roundw
                          case rel => exact ⟨k + 1, p, A1, by omega, by go_num, rfl, HQD.out, HL1.out, HA1.out⟩
                          case measure => simp [intOf]; omega
                  · by_cases q3 : kind = 3
                    · as_aux_lemma =>
                        subst q3
                        go_wp2_with fail
                        have hxb := HX0.out
                        rw [HBX.out] at hxb
                        generalize wr.alloc (.cells #[.int .i64 3, .int .i64 N, .string bs, .bool raw, .slice ka keep.length kc] 40) = X at *
                        have z1 : X.cell? ⟨wr.heap.size, 1, none⟩ = some (.int .i64 N) := (cell_of_row _ _ _ _ _ _ hxb).trans rfl
                        have z2 : X.cell? ⟨wr.heap.size, 2, none⟩ = some (.string bs) := (cell_of_row _ _ _ _ _ _ hxb).trans rfl
                        have z3 : X.cell? ⟨wr.heap.size, 3, none⟩ = some (.bool raw) := (cell_of_row _ _ _ _ _ _ hxb).trans rfl
                        have z4 : X.cell? ⟨wr.heap.size, 4, none⟩ = some (.slice ka keep.length kc) := (cell_of_row _ _ _ _ _ _ hxb).trans rfl
                        have HXB := Lib.hid hxb
                        clear hxb HX0 HBX x0 x1 x2 x3 x4
                        have RA := Lib.hid (fun (r : World) (h : Disk C p A r) => sync_any h)
                        have RB := Lib.hid (fun (r : World) (h : RDisk C q A r) => rsync_any h)
                        have HL1 := Lib.hid (show (syncSt A).last.length = n by rw [syncSt_last]; exact HAL.out)
                        have HA1 := Lib.hid (show (syncSt A).pend.length ≤ k + 1 from Nat.le_trans (syncSt_pend A) (Nat.le_trans HAP.out (Nat.le_succ _)))
                        generalize syncSt A = A1 at *
                        generalize syncE A = E at *
                        refine (RA.out _ HP0.out.1).mono ?_; rintro e xa ⟨rfl, ha⟩
                        have HA := Lib.hid ha
                        clear ha
                        have HR := Lib.hid (HP0.out.2.1.left HA.out.2)
                        go_wp2_with fail
                        refine (RB.out _ HR.out).mono ?_; rintro e xb ⟨rfl, hb⟩
                        have HQ := Lib.hid (pair_two HP0.out HA.out hb)
                        clear hb HP0
                        go_wp2_with fail
                        have HT := Lib.hid (pair_cells HQ.out)
                        obtain ⟨⟨pa, pc, y1⟩, y2⟩ := HT.out
                        have TD := Lib.hid (fun (r : World) (e : r = xb.drew) => e ▸ dead_d (Pair.drew HQ.out).1)
                        have TP := Lib.hid (fun (r : World) (e : r = xb.drew) => e ▸ pending_d (Pair.drew HQ.out).1)
                        have TS := Lib.hid (fun (r : World) (e : r = xb.drew) => e ▸ sectors_d (Pair.drew HQ.out).1)
                        rw [HL1.out] at TS
                        have HQD := Lib.hid (Pair.drew HQ.out)
                        clear HT HQ
                        generalize A1.runs = rb at TD y2
                        generalize A1.pend.length = pl at TP y1
                        cases rb
                        · go_region_held3 (fun w' => w' = xb.drew) (first | rfl | assumption) (first
                            | (go_at_call_of 20 (ptr p); refine (TD.out _ (by first | rfl | assumption)).mono ?_; rintro e xw ⟨rfl, rfl⟩)
                            | (go_at_call_of 22 (ptr p); refine (TP.out _ (by first | rfl | assumption)).mono ?_; rintro e xw ⟨rfl, rfl⟩)
                            | (go_at_call_of 23 (ptr p); refine (TS.out _ (by first | rfl | assumption)).mono ?_; rintro e xw ⟨rfl, rfl⟩))
                          clear TD TP TS
                          go_wp2_with fail
                          go_roundw
                          case rel => exact ⟨k + 1, p, A1, by omega, by go_num, rfl, HQD.out, HL1.out, HA1.out⟩
                          case measure => simp [intOf]; omega
                        · go_region_held3 (fun w' => w' = xb.drew) (first | rfl | assumption) (first
                            | (go_at_call_of 20 (ptr p); refine (TD.out _ (by first | rfl | assumption)).mono ?_; rintro e xw ⟨rfl, rfl⟩)
                            | (go_at_call_of 22 (ptr p); refine (TP.out _ (by first | rfl | assumption)).mono ?_; rintro e xw ⟨rfl, rfl⟩)
                            | (go_at_call_of 23 (ptr p); refine (TS.out _ (by first | rfl | assumption)).mono ?_; rintro e xw ⟨rfl, rfl⟩))
                          clear TD TP TS
                          go_wp2_with fail
                          go_roundw
                          case rel => exact ⟨k + 1, p, A1, by omega, by go_num, rfl, HQD.out, HL1.out, HA1.out⟩
                          case measure => simp [intOf]; omega
                    · by_cases q4 : kind = 4
                      · as_aux_lemma =>
                          subst q4
                          go_wp2_with fail
                          have hxb := HX0.out
                          rw [HBX.out] at hxb
                          generalize wr.alloc (.cells #[.int .i64 4, .int .i64 N, .string bs, .bool raw, .slice ka keep.length kc] 40) = X at *
                          have z1 : X.cell? ⟨wr.heap.size, 1, none⟩ = some (.int .i64 N) := (cell_of_row _ _ _ _ _ _ hxb).trans rfl
                          have z2 : X.cell? ⟨wr.heap.size, 2, none⟩ = some (.string bs) := (cell_of_row _ _ _ _ _ _ hxb).trans rfl
                          have z3 : X.cell? ⟨wr.heap.size, 3, none⟩ = some (.bool raw) := (cell_of_row _ _ _ _ _ _ hxb).trans rfl
                          have z4 : X.cell? ⟨wr.heap.size, 4, none⟩ = some (.slice ka keep.length kc) := (cell_of_row _ _ _ _ _ _ hxb).trans rfl
                          have HXB := Lib.hid hxb
                          clear hxb HX0 HBX x0 x1 x2 x3 x4
                          have RA := Lib.hid (fun (r : World) (h : Disk C p A r) => stop_any h N hN.1 hN.2)
                          have RB := Lib.hid (fun (r : World) (h : RDisk C q A r) => rstop_any h N hN.1 hN.2)
                          have HL1 := Lib.hid (show (stopSt A N).last.length = n by rw [stopSt_last]; exact HAL.out)
                          have HA1 := Lib.hid (show (stopSt A N).pend.length ≤ k + 1 by rw [stopSt_pend]; exact Nat.le_trans HAP.out (Nat.le_succ _))
                          generalize stopSt A N = A1 at *
                          refine (RA.out _ HP0.out.1).mono ?_; rintro e xa ⟨rfl, ha⟩
                          have HA := Lib.hid ha
                          clear ha
                          have HR := Lib.hid (HP0.out.2.1.left HA.out.2)
                          have z1a : xa.cell? ⟨wr.heap.size, 1, none⟩ = some (.int .i64 N) := (cell_of_row _ _ _ _ _ _ (box_left HA.out.2 HXB.out)).trans rfl
                          go_wp2_with fail
                          refine (RB.out _ HR.out).mono ?_; rintro e xb ⟨rfl, hb⟩
                          have HQ := Lib.hid (pair_two HP0.out HA.out hb)
                          clear hb HP0
                          go_wp2_with fail
                          have HT := Lib.hid (pair_cells HQ.out)
                          obtain ⟨⟨pa, pc, y1⟩, y2⟩ := HT.out
                          have TD := Lib.hid (fun (r : World) (e : r = xb.drew) => e ▸ dead_d (Pair.drew HQ.out).1)
                          have TP := Lib.hid (fun (r : World) (e : r = xb.drew) => e ▸ pending_d (Pair.drew HQ.out).1)
                          have TS := Lib.hid (fun (r : World) (e : r = xb.drew) => e ▸ sectors_d (Pair.drew HQ.out).1)
                          rw [HL1.out] at TS
                          have HQD := Lib.hid (Pair.drew HQ.out)
                          clear HT HQ
                          generalize A1.runs = rb at TD y2
                          generalize A1.pend.length = pl at TP y1
                          cases rb
                          · go_region_held3 (fun w' => w' = xb.drew) (first | rfl | assumption) (first
                              | (go_at_call_of 20 (ptr p); refine (TD.out _ (by first | rfl | assumption)).mono ?_; rintro e xw ⟨rfl, rfl⟩)
                              | (go_at_call_of 22 (ptr p); refine (TP.out _ (by first | rfl | assumption)).mono ?_; rintro e xw ⟨rfl, rfl⟩)
                              | (go_at_call_of 23 (ptr p); refine (TS.out _ (by first | rfl | assumption)).mono ?_; rintro e xw ⟨rfl, rfl⟩))
                            clear TD TP TS
                            go_wp2_with fail
                            go_roundw
                            case rel => exact ⟨k + 1, p, A1, by omega, by go_num, rfl, HQD.out, HL1.out, HA1.out⟩
                            case measure => simp [intOf]; omega
                          · go_region_held3 (fun w' => w' = xb.drew) (first | rfl | assumption) (first
                              | (go_at_call_of 20 (ptr p); refine (TD.out _ (by first | rfl | assumption)).mono ?_; rintro e xw ⟨rfl, rfl⟩)
                              | (go_at_call_of 22 (ptr p); refine (TP.out _ (by first | rfl | assumption)).mono ?_; rintro e xw ⟨rfl, rfl⟩)
                              | (go_at_call_of 23 (ptr p); refine (TS.out _ (by first | rfl | assumption)).mono ?_; rintro e xw ⟨rfl, rfl⟩))
                            clear TD TP TS
                            go_wp2_with fail
                            go_roundw
                            case rel => exact ⟨k + 1, p, A1, by omega, by go_num, rfl, HQD.out, HL1.out, HA1.out⟩
                            case measure => simp [intOf]; omega
                      · by_cases q5 : kind = 5
                        · as_aux_lemma =>
                            subst q5
                            go_wp2_with fail
                            have hxb := HX0.out
                            rw [HBX.out] at hxb
                            have HLX := Lib.hid (Lies.below HLI.out ((Below.refl C wr).alloc HP.out.1.base (.cells #[.int .i64 5, .int .i64 N, .string bs, .bool raw, .slice ka keep.length kc] 40)))
                            generalize wr.alloc (.cells #[.int .i64 5, .int .i64 N, .string bs, .bool raw, .slice ka keep.length kc] 40) = X at *
                            have z1 : X.cell? ⟨wr.heap.size, 1, none⟩ = some (.int .i64 N) := (cell_of_row _ _ _ _ _ _ hxb).trans rfl
                            have z2 : X.cell? ⟨wr.heap.size, 2, none⟩ = some (.string bs) := (cell_of_row _ _ _ _ _ _ hxb).trans rfl
                            have z3 : X.cell? ⟨wr.heap.size, 3, none⟩ = some (.bool raw) := (cell_of_row _ _ _ _ _ _ hxb).trans rfl
                            have z4 : X.cell? ⟨wr.heap.size, 4, none⟩ = some (.slice ka keep.length kc) := (cell_of_row _ _ _ _ _ _ hxb).trans rfl
                            have HXB := Lib.hid hxb
                            clear hxb HX0 HBX x0 x1 x2 x3 x4
                            have RA := Lib.hid (fun (r : World) (h : Disk C p A r) (hl : Lies C ka keep r) => crash_d h keep ka kc (Nat.le_trans HAP.out (by omega)) hkl hl.keeps)
                            have RB := Lib.hid (fun (r : World) (h : RDisk C q A r) (hl : Lies C ka keep r) => rcrash_any h keep ka kc hl hkl)
                            have HL1 := Lib.hid (show (crashed A keep).last.length = n by rw [crashed_last]; exact HAL.out)
                            have HA1 := Lib.hid (show (crashed A keep).pend.length ≤ k + 1 by simp [crashed])
                            have HLD := Lib.hid (Lies.below HLX.out (Below.refl C X).drew)
                            clear HLX HLI
                            generalize crashed A keep = A1 at *
                            generalize (kept A.pend keep).length = E at *
                            have HD := Lib.hid (Pair.drew HP0.out)
                            have HXD := Lib.hid (show X.drew.heap[wr.heap.size]? = _ from HXB.out)
                            clear HXB
                            go_region_held3 (fun w' => w'.heap[wr.heap.size]? = some (.cells #[.int .i64 5, .int .i64 N, .string bs, .bool raw, .slice ka keep.length kc] 40 (0, 0)) ∧ w'.cell? ⟨wr.heap.size, 4, none⟩ = some (.slice ka keep.length kc)) (((try dsimp only); (first
                                | exact ⟨HXD.out, by simpa using z4⟩
                                | exact box_keep (by assumption) (And.left (by assumption)) rfl
                                | exact rbox_keep (by assumption) (And.left (by assumption)) rfl)))
                              (first
                                | (go_at_call_of 21 (ptr p); refine (RA.out _ HD.out.1 HLD.out).mono ?_; rintro e xa ⟨rfl, ha⟩)
                                | (go_at_call_of 29 (ptr q); refine (RB.out _ (HD.out.2.1.left (And.right (by assumption : After C p A1 X.drew _))) (Lies.below HLD.out (Leaves.below (And.right (by assumption : After C p A1 X.drew _))))).mono ?_; rintro e xb ⟨rfl, hb⟩))
                            have HQ := Lib.hid (pair_two HD.out (by assumption : After C p A1 X.drew _) (by assumption : RAfter C q A1 _ _))
                            clear HP0 HD HXD RA RB HLD
                            go_wp2_with fail
                            have HT := Lib.hid (pair_cells HQ.out)
                            obtain ⟨⟨pa, pc, y1⟩, y2⟩ := HT.out
                            have TD := Lib.hid (fun (r : World) (e : r = xb.drew) => e ▸ dead_d (Pair.drew HQ.out).1)
                            have TP := Lib.hid (fun (r : World) (e : r = xb.drew) => e ▸ pending_d (Pair.drew HQ.out).1)
                            have TS := Lib.hid (fun (r : World) (e : r = xb.drew) => e ▸ sectors_d (Pair.drew HQ.out).1)
                            rw [HL1.out] at TS
                            have HQD := Lib.hid (Pair.drew HQ.out)
                            clear HT HQ
                            generalize A1.runs = rb at TD y2
                            generalize A1.pend.length = pl at TP y1
                            cases rb
                            · go_region_held3 (fun w' => w' = xb.drew) (first | rfl | assumption) (first
                                | (go_at_call_of 20 (ptr p); refine (TD.out _ (by first | rfl | assumption)).mono ?_; rintro e xw ⟨rfl, rfl⟩)
                                | (go_at_call_of 22 (ptr p); refine (TP.out _ (by first | rfl | assumption)).mono ?_; rintro e xw ⟨rfl, rfl⟩)
                                | (go_at_call_of 23 (ptr p); refine (TS.out _ (by first | rfl | assumption)).mono ?_; rintro e xw ⟨rfl, rfl⟩))
                              clear TD TP TS
                              go_wp2_with fail
                              go_roundw
                              case rel => exact ⟨k + 1, p, A1, by omega, by go_num, rfl, HQD.out, HL1.out, HA1.out⟩
                              case measure => simp [intOf]; omega
                            · go_region_held3 (fun w' => w' = xb.drew) (first | rfl | assumption) (first
                                | (go_at_call_of 20 (ptr p); refine (TD.out _ (by first | rfl | assumption)).mono ?_; rintro e xw ⟨rfl, rfl⟩)
                                | (go_at_call_of 22 (ptr p); refine (TP.out _ (by first | rfl | assumption)).mono ?_; rintro e xw ⟨rfl, rfl⟩)
                                | (go_at_call_of 23 (ptr p); refine (TS.out _ (by first | rfl | assumption)).mono ?_; rintro e xw ⟨rfl, rfl⟩))
                              clear TD TP TS
                              go_wp2_with fail
                              go_roundw
                              case rel => exact ⟨k + 1, p, A1, by omega, by go_num, rfl, HQD.out, HL1.out, HA1.out⟩
                              case measure => simp [intOf]; omega
                        · by_cases q6 : kind = 6
                          · as_aux_lemma =>
                              subst q6
                              go_wp2_with fail
                              have hxb := HX0.out
                              rw [HBX.out] at hxb
                              generalize wr.alloc (.cells #[.int .i64 6, .int .i64 N, .string bs, .bool raw, .slice ka keep.length kc] 40) = X at *
                              have z1 : X.cell? ⟨wr.heap.size, 1, none⟩ = some (.int .i64 N) := (cell_of_row _ _ _ _ _ _ hxb).trans rfl
                              have z2 : X.cell? ⟨wr.heap.size, 2, none⟩ = some (.string bs) := (cell_of_row _ _ _ _ _ _ hxb).trans rfl
                              have z3 : X.cell? ⟨wr.heap.size, 3, none⟩ = some (.bool raw) := (cell_of_row _ _ _ _ _ _ hxb).trans rfl
                              have z4 : X.cell? ⟨wr.heap.size, 4, none⟩ = some (.slice ka keep.length kc) := (cell_of_row _ _ _ _ _ _ hxb).trans rfl
                              have HXB := Lib.hid hxb
                              clear hxb HX0 HBX x0 x1 x2 x3 x4
                              have RC := Lib.hid (fun (r : World) (h : Disk C p A r) => copy_six h (Nat.le_trans HAP.out (by omega)))
                              have FN := Lib.hid (fun (r : World) => fill_ok ⟨#[110, 111, 116, 32, 105, 110, 32, 116, 104, 101, 32, 99, 111, 112, 121]⟩ (by decide) r)
                              refine (RC.out _ HP0.out.1).mono ?_; rintro e xa ⟨p2, rfl, ht, hl⟩
                              have HT := Lib.hid ht
                              have HR := Lib.hid (HP0.out.2.1.left hl)
                              have HB := Lib.hid (HP0.out.2.2.trans hl.below)
                              clear ht hl HP0 RC
                              go_wp2_with fail
                              refine (crash_six HT.out none 0 (Nat.le_trans HAP.out (by omega))).mono ?_; rintro e xb ⟨rfl, ht, hl⟩
                              have HT2 := Lib.hid ht
                              have HR2 := Lib.hid (HR.out.left hl)
                              have HB2 := Lib.hid (HB.out.trans hl.below)
                              clear ht hl HT HR HB
                              go_wp2_with fail
                              refine (FN.out _).mono ?_; rintro e xc ⟨rfl, hb⟩
                              have HT3 := Lib.hid (HT2.out.more hb (Nat.le_refl _))
                              have HR3 := Lib.hid (HR2.out.below hb (Nat.le_refl _))
                              have HB3 := Lib.hid (HB2.out.trans (hb.mono HT2.out.one.base))
                              clear hb HT2 HR2 HB2
                              obtain ⟨F, hF⟩ : ∃ F, F = fill (ByteArray.mk #[110, 111, 116, 32, 105, 110, 32, 116, 104, 101, 32, 99, 111, 112, 121]).data.toList := ⟨_, rfl⟩
                              rw [← hF]
                              have HF := Lib.hid (show F.length = 64 by rw [hF]; exact fill_length _)
                              clear hF FN
                              have WS := Lib.hid (fun (r : World) (h : Two C p ⟨A.last, [], true, -1⟩ p2 A r) => write_six h 0 F rfl (show 0 < A.last.length by rw [HAL.out]; omega) HF.out (show (-1 : Int) ≠ 0 by decide) (Nat.zero_le _))
                              go_wp2_with fail
                              refine (WS.out _ HT3.out).mono ?_; rintro e xd ⟨rfl, ht, hl⟩
                              have HT4 := Lib.hid ht
                              have HR4 := Lib.hid (HR3.out.left hl)
                              have HB4 := Lib.hid (HB3.out.trans hl.below)
                              clear ht hl HT3 HR3 HB3 WS
                              go_wp2_with fail
                              refine (sync_six HT4.out rfl).mono ?_; rintro e xe ⟨rfl, ht, hl⟩
                              have HQ := Lib.hid (show Pair C p2 q A w1 xe from ⟨ht.second, HR4.out.left hl, HB4.out.trans hl.below⟩)
                              clear ht hl HT4 HR4 HB4
                              obtain ⟨A1, hA1⟩ : ∃ A1, A1 = A := ⟨_, rfl⟩
                              rw [← hA1] at HQ
                              have HL1 := Lib.hid (show A1.last.length = n by rw [hA1]; exact HAL.out)
                              have HA1 := Lib.hid (show A1.pend.length ≤ k + 1 by rw [hA1]; exact Nat.le_trans HAP.out (Nat.le_succ _))
                              clear hA1
                              go_wp2_with fail
                              have HT := Lib.hid (pair_cells HQ.out)
                              obtain ⟨⟨pa, pc, y1⟩, y2⟩ := HT.out
                              have TD := Lib.hid (fun (r : World) (e : r = xe.drew) => e ▸ dead_d (Pair.drew HQ.out).1)
                              have TP := Lib.hid (fun (r : World) (e : r = xe.drew) => e ▸ pending_d (Pair.drew HQ.out).1)
                              have TS := Lib.hid (fun (r : World) (e : r = xe.drew) => e ▸ sectors_d (Pair.drew HQ.out).1)
                              rw [HL1.out] at TS
                              have HQD := Lib.hid (Pair.drew HQ.out)
                              clear HT HQ
                              generalize A1.runs = rb at TD y2
                              generalize A1.pend.length = pl at TP y1
                              cases rb
                              · go_region_held3 (fun w' => w' = xe.drew) (first | rfl | assumption) (first
                                  | (go_at_call_of 20 (ptr p2); refine (TD.out _ (by first | rfl | assumption)).mono ?_; rintro e xw ⟨rfl, rfl⟩)
                                  | (go_at_call_of 22 (ptr p2); refine (TP.out _ (by first | rfl | assumption)).mono ?_; rintro e xw ⟨rfl, rfl⟩)
                                  | (go_at_call_of 23 (ptr p2); refine (TS.out _ (by first | rfl | assumption)).mono ?_; rintro e xw ⟨rfl, rfl⟩))
                                clear TD TP TS
                                go_wp2_with fail
                                go_roundw
                                case rel => exact ⟨k + 1, p2, A1, by omega, by go_num, rfl, HQD.out, HL1.out, HA1.out⟩
                                case measure => simp [intOf]; omega
                              · go_region_held3 (fun w' => w' = xe.drew) (first | rfl | assumption) (first
                                  | (go_at_call_of 20 (ptr p2); refine (TD.out _ (by first | rfl | assumption)).mono ?_; rintro e xw ⟨rfl, rfl⟩)
                                  | (go_at_call_of 22 (ptr p2); refine (TP.out _ (by first | rfl | assumption)).mono ?_; rintro e xw ⟨rfl, rfl⟩)
                                  | (go_at_call_of 23 (ptr p2); refine (TS.out _ (by first | rfl | assumption)).mono ?_; rintro e xw ⟨rfl, rfl⟩))
                                clear TD TP TS
                                go_wp2_with fail
                                go_roundw
                                case rel => exact ⟨k + 1, p2, A1, by omega, by go_num, rfl, HQD.out, HL1.out, HA1.out⟩
                                case measure => simp [intOf]; omega
                          · as_aux_lemma =>
                              have e1 : (kind == 1) = false := by rw [beq_eq_false_iff_ne]; exact q1
                              have e2 : (kind == 2) = false := by rw [beq_eq_false_iff_ne]; exact q2
                              have e3 : (kind == 3) = false := by rw [beq_eq_false_iff_ne]; exact q3
                              have e4 : (kind == 4) = false := by rw [beq_eq_false_iff_ne]; exact q4
                              have e5 : (kind == 5) = false := by rw [beq_eq_false_iff_ne]; exact q5
                              have e6 : (kind == 6) = false := by rw [beq_eq_false_iff_ne]; exact q6
                              go_wp2_with fail
                              have hxb := HX0.out
                              rw [HBX.out] at hxb
                              generalize wr.alloc (.cells #[.int .i64 kind, .int .i64 N, .string bs, .bool raw, .slice ka keep.length kc] 40) = X at *
                              have z1 : X.cell? ⟨wr.heap.size, 1, none⟩ = some (.int .i64 N) := (cell_of_row _ _ _ _ _ _ hxb).trans rfl
                              have z2 : X.cell? ⟨wr.heap.size, 2, none⟩ = some (.string bs) := (cell_of_row _ _ _ _ _ _ hxb).trans rfl
                              have z3 : X.cell? ⟨wr.heap.size, 3, none⟩ = some (.bool raw) := (cell_of_row _ _ _ _ _ _ hxb).trans rfl
                              have z4 : X.cell? ⟨wr.heap.size, 4, none⟩ = some (.slice ka keep.length kc) := (cell_of_row _ _ _ _ _ _ hxb).trans rfl
                              have HXB := Lib.hid hxb
                              clear hxb HX0 HBX x0 x1 x2 x3 x4
                              obtain ⟨A1, hA1⟩ : ∃ A1, A1 = A := ⟨_, rfl⟩
                              rw [← hA1] at HP0
                              have HL1 := Lib.hid (show A1.last.length = n by rw [hA1]; exact HAL.out)
                              have HA1 := Lib.hid (show A1.pend.length ≤ k + 1 by rw [hA1]; exact Nat.le_trans HAP.out (Nat.le_succ _))
                              clear hA1
                              have HT := Lib.hid (pair_cells HP0.out)
                              obtain ⟨⟨pa, pc, y1⟩, y2⟩ := HT.out
                              have TD := Lib.hid (fun (r : World) (e : r = X.drew) => e ▸ dead_d (Pair.drew HP0.out).1)
                              have TP := Lib.hid (fun (r : World) (e : r = X.drew) => e ▸ pending_d (Pair.drew HP0.out).1)
                              have TS := Lib.hid (fun (r : World) (e : r = X.drew) => e ▸ sectors_d (Pair.drew HP0.out).1)
                              rw [HL1.out] at TS
                              have HQD := Lib.hid (Pair.drew HP0.out)
                              clear HT HP0
                              generalize A1.runs = rb at TD y2
                              generalize A1.pend.length = pl at TP y1
                              cases rb
                              · go_region_held3 (fun w' => w' = X.drew) (first | rfl | assumption) (first
                                  | (go_at_call_of 20 (ptr p); refine (TD.out _ (by first | rfl | assumption)).mono ?_; rintro e xw ⟨rfl, rfl⟩)
                                  | (go_at_call_of 22 (ptr p); refine (TP.out _ (by first | rfl | assumption)).mono ?_; rintro e xw ⟨rfl, rfl⟩)
                                  | (go_at_call_of 23 (ptr p); refine (TS.out _ (by first | rfl | assumption)).mono ?_; rintro e xw ⟨rfl, rfl⟩))
                                clear TD TP TS
                                go_wp2_with fail
                                go_roundw
                                case rel => exact ⟨k + 1, p, A1, by omega, by go_num, rfl, HQD.out, HL1.out, HA1.out⟩
                                case measure => simp [intOf]; omega
                              · go_region_held3 (fun w' => w' = X.drew) (first | rfl | assumption) (first
                                  | (go_at_call_of 20 (ptr p); refine (TD.out _ (by first | rfl | assumption)).mono ?_; rintro e xw ⟨rfl, rfl⟩)
                                  | (go_at_call_of 22 (ptr p); refine (TP.out _ (by first | rfl | assumption)).mono ?_; rintro e xw ⟨rfl, rfl⟩)
                                  | (go_at_call_of 23 (ptr p); refine (TS.out _ (by first | rfl | assumption)).mono ?_; rintro e xw ⟨rfl, rfl⟩))
                                clear TD TP TS
                                go_wp2_with fail
                                go_roundw
                                case rel => exact ⟨k + 1, p, A1, by omega, by go_num, rfl, HQD.out, HL1.out, HA1.out⟩
                                case measure => simp [intOf]; omega
          · as_aux_lemma =>
              have en : n0 = k := by omega
              have hcl : ¬ (k : Int) < n0 := by omega
              have HKL := Lib.hid (Nat.le_trans HAP.out (show k ≤ 1000000 by omega))
              go_wp2_with fail
              refine (crash_none HP.out.1 none 0 HKL.out).mono ?_; rintro e xa ⟨rfl, ha⟩
              have HA := Lib.hid ha
              clear ha
              have HR := Lib.hid (HP.out.2.1.left HA.out.2)
              go_wp2_with fail
              refine (rcrash_any HR.out [] none 0 (fun j hj => by simp at hj) (by simp)).mono ?_; rintro e xb ⟨rfl, hb⟩
              have HQ := Lib.hid (pair_two HP.out HA.out (show RAfter C q ⟨A.last, [], true, -1⟩ xa xb by
                have hk : kept A.pend [] = [] := by simp [kept]
                rw [crashed, hk] at hb
                exact hb))
              clear hb HA HR HP
              have HL1 := Lib.hid (show (St.mk A.last [] true (-1)).last.length = n from HAL.out)
              generalize (kept A.pend []).length = E1 at *
              generalize (St.mk A.last [] true (-1)) = A1 at *
              go_wp2_with fail
              go_loopw [18] (fun jv wx => ∃ j : Nat, j ≤ n ∧ jv = .int .i64 j ∧ Pair C p q A1 w1 wx) (fun jv _ => n - (intOf jv).toNat)
              case atStart => exact ⟨0, Nat.zero_le _, rfl, HQ.out⟩
              case round =>
                clear HQ
                obtain ⟨j, hj, rfl, hp⟩ := hrel
                have HQ := Lib.hid hp
                clear hp
                by_cases hjn : j < n
                · have hjn' : (j : Int) < n := by omega
                  have RA := Lib.hid (fun (r : World) (h : Disk C p A1 r) => read_any h j)
                  have RB := Lib.hid (fun (r : World) (h : RDisk C q A1 r) => rread_any h j)
                  have hse : ((readS A1 j).data.toList == (readS A1 j).data.toList) = true := by simp
                  generalize readS A1 j = S at *
                  generalize readE A1 j = E at *
                  go_wp2_with fail
                  refine (RA.out _ HQ.out.1).mono ?_; rintro e xc ⟨rfl, rfl⟩
                  go_wp2_with fail
                  refine (RB.out _ HQ.out.2.1).mono ?_; rintro e xc ⟨rfl, rfl⟩
                  go_wp2_with fail
                  go_roundw
                  case rel => exact ⟨j + 1, by omega, by go_num, HQ.out⟩
                  case measure => simp [intOf]; omega
                · have hjn' : ¬ (j : Int) < n := by omega
                  go_wp2_with fail
                  go_ret
                  exact ⟨rfl, B1.out.trans (HQ.out.2.2.mono HC.out)⟩

/-! The row's step. -/
set_option maxRecDepth 100000 in
theorem lifted (os : Os) (started : os.Started) (H : Type) (enc : TypeId × Value → H) :
    ReturnsInHanded {} Try.checked os 3 .any (Rows.diskPlaysSpec.pre6 enc Try.prog Try.f3 Rows.diskPlaysRow.domain false) (Rows.diskPlaysSpec.post enc Try.prog Try.f3 false true false false) := by
  refine returnsInHanded_of_change (C := Try.checked) own started (by kernel_rfl) Try.func3
    (ChangeSpec.witness6 (enc := enc) (C := Try.checked) false ⟨#[], #[.int .i64 0, .slice none 0 0], []⟩ 8 (by kernel_rfl) (by kernel_rfl) (by kernel_rfl) (by kernel_rfl)) ?_
  intro W base args ds gs before hval0 hW hcnd _
  have hval : ∀ (j : Nat) t v, Try.f3.params[j]? = some t → args[j]? = some v → Value.okWide Try.prog W .any base t v := hval0
  have hW' := hW
  obtain ⟨p, q, hA0, hV, rfl, hfz, hnd⟩ := hW
  have hA : DataW.TrodAll enc Try.prog W 0 (fun _ => true) true Try.f3.params.toList args.toList ds p := hA0
  rw [Try.params3] at hA hval
  obtain ⟨v0, vs0, d0, ds0, p0, q0, hargs, rfl, rfl, h0, r0⟩ := trodAll_cons hA
  obtain ⟨v1, vs1, d1, ds1, p1, q1, rfl, rfl, rfl, h1, r1⟩ := trodAll_cons r0
  obtain ⟨rfl, rfl, rfl⟩ := trodAll_nil r1
  obtain rfl : args = #[v0, v1] := by cases args; simp_all
  obtain ⟨rfl, rfl⟩ := trodVars_none hV
  obtain ⟨a0, rfl, rfl, rfl, w0⟩ := open_int Try.underlying3 (hval 0 3 v0 rfl rfl) h0
  obtain ⟨A1, n1, c1, rfl⟩ := okWide_slice Try.underlying22 (hval 1 22 v1 rfl rfl)
  have k1 := h1
  have lt1 : ∀ x ∈ p1, x.block < W.heap.size := by obtain ⟨m, hm⟩ := k1; exact DataW.trod_lt m _ _ _ hm
  obtain ⟨l1, w1, e1, f1⟩ := (by obtain ⟨fuel, hf⟩ := h1; exact ops_read hf (fun _ => rfl) : ∃ l, Ops W A1 n1 l ∧ n1 ≤ c1 ∧ c1 ≤ maxLen)
  clear hA0 hval0
  refine (walk a0 A1 n1 c1 l1 W w0 w1 (Nat.le_trans e1 f1)).mono fun e W' ⟨he, bel⟩ => ?_
  subst he
  exact ⟨_, rfl, _, _, _, [], _, [], hW', trodAll_mk1 (shut_bool Try.underlying4 _), (trodAll_cons_mk (shut_int Try.underlying3 w0) (trodAll_cons_mk (Below.trod laidOut (by kernel_rfl) (of_decide_eq_true (by kernel_rfl)) k1 bel lt1) trodAll_mk0)), rfl, bel.frame _, fun h => by cases h⟩

theorem over : Rows.diskPlaysRow.holds Try.pinned (OpenSpec.ofChange Rows.diskPlaysSpec) :=
  OpenClaim.holds_of_wide 3 Try.f3 rfl rfl rfl rfl rfl rfl rfl ⟨rfl, rfl, rfl, rfl, rfl⟩ rfl rfl rfl rfl rfl (by kernel_rfl) Try.func3 (by kernel_rfl)
    (of_decide_eq_true (by kernel_rfl)) (by unfold Func.isWrapper; first | (rw [if_pos (by decide +kernel)]; kernel_rfl) | (rw [if_neg (by decide +kernel)]; exact ⟨rfl, rfl⟩))
    (fun os started H enc _ => lifted os started H enc)

/-- The statement. -/
theorem proved : Rows.DiskPlaysSaid := over
end Go.Proofs.Ytnkhfgfiifadhaa.diskPlays
