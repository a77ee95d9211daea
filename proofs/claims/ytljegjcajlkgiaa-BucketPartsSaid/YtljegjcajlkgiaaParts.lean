/- Cells that are parted by one bit after the other come where their hash's bits lead; none is lost. -/
import Derived.Test.YtljegjcajlkgiaaRows
import Derived.Test.YtljegjcajlkgiaaSplit
import Derived.Deep.RegionHeld3
import Derived.StillTailTactics
import Derived.BigQuiet
import Derived.Laws.MakeOwn
import Derived.Deep.DeepCutAuto
import Derived.Deep.RegionLaw
import Derived.Lib.Hide
import Derived.WalkKit
import Derived.SizedLaws
import Derived.ProofKit
import Derived.OpenShut
import Derived.ChangeOld
import Derived.Below
import Derived.Carry
namespace Go.Proofs.Ytljegjcajlkgiaa.bucketParts
open Go.ChangeShapes Go.WideShapes Go.ChangeAt Go.RowKit
set_option linter.unusedVariables false

theorem own : ownKnob Try.prog.godebug = none := by kernel_rfl
theorem laidOut : laidOutB Try.prog = true := by kernel_rfl

/-- A list in memory, not in block q. -/
def PL (w : World) (q : Nat) (A : Option Addr) (l : List Ce) : Prop := Ces w.heap.size w A l ∧ ∀ b off, A = some ⟨b, off, none⟩ → 0 < l.length → b ≠ q
theorem PL.kept {w w' : World} {q : Nat} {A : Option Addr} {l : List Ce} (h : PL w q A l) (hb : Below w.heap.size w w') : PL w' q A l := ⟨h.1.on hb, h.2⟩
theorem PL.set {w : World} {q i : Nat} {A : Option Addr} {l : List Ce} {u : Value} (h : PL w q A l) : PL (w.setCell ⟨q, i, none⟩ u) q A l := by
  refine ⟨⟨fun k hk => ?_, h.1.2⟩, h.2⟩
  obtain ⟨b, off, h1, h2, h3⟩ := h.1.1 k hk
  have hne : b ≠ q := h.2 b off h1 (by omega)
  have hh := Below.heap_setCell w ⟨q, i, none⟩ u b hne
  exact ⟨b, off, h1, by rw [World.size_setCell]; exact h2, (World.cell?_of_block (w := w) (a := ⟨b, off + k * 4, none⟩) hh).trans h3.1, (World.cell?_of_block (w := w) (a := ⟨b, off + k * 4 + 1, none⟩) hh).trans h3.2.1, (World.cell?_of_block (w := w) (a := ⟨b, off + k * 4 + 2, none⟩) hh).trans h3.2.2.1, (World.cell?_of_block (w := w) (a := ⟨b, off + k * 4 + 3, none⟩) hh).trans h3.2.2.2⟩
theorem own_PL {B q n c : Nat} {w : World} {A : Option Addr} {l : List Ce} (h : w.ownsRow B 31 4 (.slice A n c) n (ccs l)) (hn : l.length = n) (hs : ∀ p ∈ l, p.key.size ≤ maxLen ∧ p.val.size ≤ maxLen) (hm : n ≤ maxLen) (hq : q < B) : PL w q A l := by
  refine ⟨Own.ces h hn hs hm, fun b off hA h0 => ?_⟩
  rcases h.2 with ⟨h1, h2⟩ | ⟨g, cap, cur, h1, h2, _⟩
  · omega
  · simp only [Value.slice.injEq] at h1
    rw [hA] at h1
    simp only [Option.some.injEq, Addr.mk.injEq] at h1
    omega
/-- The lists that stand in block bp: at each place j for which D holds that of F. -/
def PartsAt (w : World) (bp q m : Nat) (D : Nat → Prop) (F : Nat → List Ce) : Prop := ∀ j, j < m → D j → ∃ A c, w.cell? ⟨bp, j, none⟩ = some (.slice A (F j).length c) ∧ PL w q A (F j)
theorem PartsAt.kept {w w' : World} {bp q m : Nat} {D : Nat → Prop} {F : Nat → List Ce} (h : PartsAt w bp q m D F) (hb : Below w.heap.size w w') : PartsAt w' bp q m D F := fun j hj hd => by
  obtain ⟨A, c, h1, h2⟩ := h j hj hd
  exact ⟨A, c, (hb.cell (World.block_lt_of_cell? w _ h1)).trans h1, h2.kept hb⟩
theorem PartsAt.other {w : World} {bp q m i : Nat} {D : Nat → Prop} {F : Nat → List Ce} {u : Value} (h : PartsAt w bp q m D F) (hne : bp ≠ q) : PartsAt (w.setCell ⟨q, i, none⟩ u) bp q m D F := fun j hj hd => by
  obtain ⟨A, c, h1, h2⟩ := h j hj hd
  exact ⟨A, c, (World.cell?_of_block (w := w) (a := ⟨bp, j, none⟩) (Below.heap_setCell w ⟨q, i, none⟩ u bp hne)).trans h1, h2.set⟩
theorem cell_set_same {w : World} {b i : Nat} {cur : Array Value} {t : TypeId} {u : Value} (h : w.heap[b]? = some (.cells cur t (0, 0))) (hi : i < cur.size) : (w.setCell ⟨b, i, none⟩ u).cell? ⟨b, i, none⟩ = some u := by
  have h2 : (w.setCell ⟨b, i, none⟩ u).heap[b]? = some (.cells (cur.setIfInBounds i u) t (0, 0)) := by simp [World.setCell, Array.getElem?_modify, h]
  rw [cell_of_row _ _ _ _ _ _ h2]
  simp [hi]
theorem cell_set_diff {w : World} {b i j : Nat} {cur : Array Value} {t : TypeId} {u : Value} (h : w.heap[b]? = some (.cells cur t (0, 0))) (hij : j ≠ i) : (w.setCell ⟨b, i, none⟩ u).cell? ⟨b, j, none⟩ = w.cell? ⟨b, j, none⟩ := by
  have h2 : (w.setCell ⟨b, i, none⟩ u).heap[b]? = some (.cells (cur.setIfInBounds i u) t (0, 0)) := by simp [World.setCell, Array.getElem?_modify, h]
  rw [cell_of_row _ _ _ _ _ _ h2, cell_of_row _ _ _ _ _ _ h, Array.getElem?_setIfInBounds_ne (Ne.symm hij)]
/-- The block of lists that is being filled. -/
def Blk (w : World) (b n : Nat) : Prop := ∃ cur, w.heap[b]? = some (.cells cur 38 (0, 0)) ∧ cur.size = n
theorem Blk.lt {w : World} {b n : Nat} (h : Blk w b n) : b < w.heap.size := by obtain ⟨_, h1, _⟩ := h; exact (Array.getElem?_eq_some_iff.1 h1).1
theorem Blk.kept {w w' : World} {b n : Nat} (h : Blk w b n) (hb : Below w.heap.size w w') : Blk w' b n := by
  have hl := h.lt
  obtain ⟨cur, h1, h2⟩ := h
  exact ⟨cur, (hb.block _ hl).trans h1, h2⟩
theorem Blk.set {w : World} {b n i : Nat} {u : Value} (h : Blk w b n) : Blk (w.setCell ⟨b, i, none⟩ u) b n := by
  obtain ⟨cur, h1, h2⟩ := h
  exact ⟨cur.setIfInBounds i u, by simp [World.setCell, Array.getElem?_modify, h1], by simp [h2]⟩
theorem Blk.cell {w : World} {b n i : Nat} (h : Blk w b n) (hi : i < n) : (∃ u, w.cell? ⟨b, i, none⟩ = some u) ∧ w.frozen? ⟨b, i, none⟩ = false := by
  obtain ⟨cur, h1, h2⟩ := h
  refine ⟨⟨cur[i]'(by omega), ?_⟩, frozen_of_row _ _ _ _ _ h1⟩
  rw [cell_of_row _ _ _ _ _ _ h1, Array.getElem?_eq_getElem (by omega)]
/-- One entry more. -/
theorem PartsAt.add {w : World} {b n m : Nat} {D : Nat → Prop} {F : Nat → List Ce} {i : Nat} {A : Option Addr} {c : Nat} (h : PartsAt w b b m D F) (hb : Blk w b n) (hi : i < n) (hl : PL w b A (F i)) : PartsAt (w.setCell ⟨b, i, none⟩ (.slice A (F i).length c)) b b m (fun j => j = i ∨ D j) F := fun j hj hd => by
  obtain ⟨cur, h1, h2⟩ := hb
  by_cases e : j = i
  · subst e
    exact ⟨A, c, cell_set_same h1 (by omega), hl.set⟩
  · obtain ⟨A', c', g1, g2⟩ := h j hj (hd.resolve_left e)
    exact ⟨A', c', (cell_set_diff h1 e).trans g1, g2.set⟩
theorem PartsAt.imp {w : World} {bp q m : Nat} {D D' : Nat → Prop} {F : Nat → List Ce} (h : PartsAt w bp q m D F) (hd : ∀ j, j < m → D' j → D j) : PartsAt w bp q m D' F := fun j hj hj' => h j hj (hd j hj hj')
/-- Lists that stand in block bp. -/
def PartsC (w : World) (bp m : Nat) (F : Nat → List Ce) : Prop := ∀ j, j < m → ∃ A c, w.cell? ⟨bp, j, none⟩ = some (.slice A (F j).length c) ∧ Ces w.heap.size w A (F j)
theorem PartsC.kept {w w' : World} {bp m : Nat} {F : Nat → List Ce} (h : PartsC w bp m F) (hb : Below w.heap.size w w') : PartsC w' bp m F := fun j hj => by
  obtain ⟨A, c, h1, h2⟩ := h j hj
  exact ⟨A, c, (hb.cell (World.block_lt_of_cell? w _ h1)).trans h1, h2.on hb⟩
theorem PartsC.fresh {w w' : World} {bp m : Nat} {F : Nat → List Ce} (h : PartsC w bp m F) (hb : Below w.heap.size w w') : PartsAt w' bp w.heap.size m (fun _ => True) F := fun j hj _ => by
  obtain ⟨A, c, h1, h2⟩ := h j hj
  refine ⟨A, c, (hb.cell (World.block_lt_of_cell? w _ h1)).trans h1, h2.on hb, fun b off hA h0 => ?_⟩
  obtain ⟨b', off', e, h3, _⟩ := h2.1 0 h0
  rw [hA] at e
  simp only [Option.some.injEq, Addr.mk.injEq] at e
  omega
theorem PartsAt.toC {w : World} {bp q m : Nat} {D : Nat → Prop} {F : Nat → List Ce} (h : PartsAt w bp q m D F) (hd : ∀ j, j < m → D j) : PartsC w bp m F := fun j hj => by
  obtain ⟨A, c, h1, h2⟩ := h j hj (hd j hj)
  exact ⟨A, c, h1, h2.1⟩
theorem info_cc : (Try.prog.info? 38).map (fun i => (i.zero, i.size, i.bytes)) = some (some (.slice none 0 0), 1, 24) := by kernel_rfl
theorem made_size (n : Nat) : (madeCells #[Value.slice none 0 0] n).size = n := by simp [madeCells]
theorem make_cc (n : Nat) (hn : n ≤ 1000) (w : World) : (Instr.makeSlice 43 (.int .i64 n) (.int .i64 n)).run Try.prog w = .ok (.slice (some ⟨w.heap.size, 0, none⟩) n n) (w.alloc (.cells (madeCells #[Value.slice none 0 0] n) 38)) := by
  obtain ⟨i0, hi, hz0, hz1, hz2⟩ := info_parts info_cc
  have hmk := run_make (P := Try.prog) w 43 38 i0 _ Try.underlying43 hi hz0 .i64 .i64 (n : Int) (n : Int) (by omega) (Int.le_refl _) (by rw [hz2]; omega) (by omega)
  rw [hz1] at hmk
  simpa only [Int.toNat_natCast, Value.cells, Nat.mul_one] using hmk
theorem part_sub {l : List Ce} {d i : Nat} {p : Ce → Prop} (h : ∀ c ∈ l, p c) : ∀ c ∈ partF l d i, p c := fun c hc => h c (part_mem hc).1
theorem part_len (l : List Ce) (d i : Nat) : (partF l d i).length ≤ l.length := List.length_filter_le _ _

set_option maxRecDepth 100000 in
set_option maxHeartbeats 8000000 in
theorem walk (A0 : Option Addr) (n0 c0 : Nat) (l0 : List Ce) (a1 : Int) (w : World) (w0 : CesL w A0 n0 l0) (e0 : n0 ≤ maxLen) (sz : ∀ c ∈ l0, c.key.size ≤ reachBytes ∧ c.val.size ≤ reachBytes) (w1 : (Lit.int .i64 a1).wf = true) :
    Calls Try.prog 5 #[.slice A0 n0 c0, .int .i64 a1] w fun e w' => e = .returned (.bool true) ∧ Below w.heap.size w w' := by
  have AL := Lib.hid alive_yes
  by_cases cc : 40 < (n0 : Int)
  · as_aux_lemma =>
      have g0 : decide (40 < (n0 : Int)) = true := decide_eq_true cc
      have HB0 := Lib.hid (Below.refl w.heap.size w)
      go_enter Try.func5, Try.ntmps5
      go_wp2_with fail
      refine (AL.out _).mono ?_; rintro e w1 ⟨rfl, hb⟩
      have HB1 := Lib.hid (HB0.out.trans (hb.mono (Below.size HB0.out)))
      clear hb HB0 
      go_wp2_with fail
      go_ret
      exact ⟨rfl, HB1.out⟩
  · have g0 : decide (40 < (n0 : Int)) = false := decide_eq_false cc
    by_cases cd : a1 < 0
    · as_aux_lemma =>
        have g1 : decide (a1 < 0) = true := decide_eq_true cd
        have HB0 := Lib.hid (Below.refl w.heap.size w)
        go_enter Try.func5, Try.ntmps5
        go_wp2_with fail
        refine (AL.out _).mono ?_; rintro e w1 ⟨rfl, hb⟩
        have HB1 := Lib.hid (HB0.out.trans (hb.mono (Below.size HB0.out)))
        clear hb HB0 
        go_wp2_with fail
        go_ret
        exact ⟨rfl, HB1.out⟩
    · by_cases ce : 5 < a1
      · as_aux_lemma =>
          have g2 : decide (5 < a1) = true := decide_eq_true ce
          have HB0 := Lib.hid (Below.refl w.heap.size w)
          go_enter Try.func5, Try.ntmps5
          go_wp2_with fail
          refine (AL.out _).mono ?_; rintro e w1 ⟨rfl, hb⟩
          have HB1 := Lib.hid (HB0.out.trans (hb.mono (Below.size HB0.out)))
          clear hb HB0 
          go_wp2_with fail
          go_ret
          exact ⟨rfl, HB1.out⟩
      · obtain ⟨hn, hces⟩ := w0
        have hm : n0 ≤ 40 := by omega
        obtain ⟨D, rfl⟩ : ∃ D : Nat, a1 = (D : Int) := ⟨a1.toNat, by omega⟩
        have hD5 : D ≤ 5 := by omega
        have HN := Lib.hid hn
        have HSM := Lib.hid (show ∀ c ∈ l0, c.key.size ≤ maxLen ∧ c.val.size ≤ maxLen from hces.2.1)
        have HSZ := Lib.hid (show ∀ c ∈ l0, c.key.size ≤ 281474976710656 ∧ c.val.size ≤ 281474976710656 from fun c hc => by
          have := sz c hc
          unfold reachBytes at this
          omega)
        have HCE := Lib.hid (fun w' (hb : Below w.heap.size w w') => hces.kept hb)
        clear hces hn sz
        have HB0 := Lib.hid (Below.refl w.heap.size w)
        go_enter Try.func5, Try.ntmps5
        go_wp2_with fail
        refine (AL.out _).mono ?_; rintro e w1 ⟨rfl, hb⟩
        have HB1 := Lib.hid (HB0.out.trans (hb.mono (Below.size HB0.out)))
        clear hb HB0 
        clear AL
        have hal := (Below.refl w1.heap.size w1).alloc (Nat.le_refl _) (.cells #[.slice A0 n0 c0] 38)
        have HB2 := Lib.hid (HB1.out.trans (hal.mono (Below.size HB1.out)))
        have HPC := Lib.hid (show PartsC (w1.alloc (.cells #[.slice A0 n0 c0] 38)) w1.heap.size (2 ^ 0) (partF l0 0) from fun j hj => by
          have hj0 : j = 0 := by have : j < 1 := hj; omega
          subst hj0
          rw [part_first, HN.out]
          exact ⟨A0, c0, (cell_of_row _ _ _ _ _ _ (heap_alloc_new w1 _)).trans rfl, (HCE.out _ HB2.out).more (Below.size HB2.out)⟩)
        clear hal HB1
        go_wp2_with fail
        obtain ⟨bp0, hbp⟩ : ∃ b, b = w1.heap.size := ⟨_, rfl⟩
        rw [← hbp] at HPC ⊢
        clear hbp
        generalize w1.alloc (.cells #[.slice A0 n0 c0] 38) = v1 at *
        go_loopw [5, 6] (fun v x wr => ∃ d : Nat, d ≤ D ∧ x = .int .i64 d ∧ ∃ bp m : Nat, v = .slice (some ⟨bp, 0, none⟩) m m ∧ Hid (m = 2 ^ d ∧ PartsC wr bp m (partF l0 d) ∧ Below w.heap.size w wr)) (fun _ x _ => D - (intOf x).toNat)
        case atStart => exact ⟨0, Nat.zero_le _, rfl, bp0, 1, rfl, rfl, HPC.out, HB2.out⟩
        case round =>
          obtain ⟨d, hd, rfl, bp, m, rfl, hq⟩ := hrel
          have HM := Lib.hid hq.out.1
          have HPP := Lib.hid hq.out.2.1
          have HB0 := Lib.hid hq.out.2.2
          clear hq HPC HB2
          have d0 : (0 : Int) ≤ (d : Int) := by omega
          by_cases hlt : d < D
          · as_aux_lemma =>
              have d1 : (d : Int) < (D : Int) := by omega
              have hm16 : m ≤ 16 := by
                have : (2 : Nat) ^ d ≤ 2 ^ 4 := Nat.pow_le_pow_right (by omega) (by omega)
                rw [HM.out]; omega
              have m0 : (0 : Int) ≤ (m : Int) := by omega
              have hml : m = 2 ^ d := HM.out
              have e2 : IntKind.i64.wrap (2 * (m : Int)) = ((2 * m : Nat) : Int) := by rw [IntWalk.i64_in _ (by omega)]; omega
              have hmk := make_cc (2 * m) (by omega) wr
              rw [show ((2 * m : Nat) : Int) = 2 * (m : Int) by omega] at hmk
              have hrow := made_size (2 * m)
              generalize madeCells #[Value.slice none 0 0] (2 * m) = row at *
              have hal := (Below.refl wr.heap.size wr).alloc (Nat.le_refl _) (.cells row 38)
              have HPA := Lib.hid (HPP.out.fresh hal)
              have HBK := Lib.hid (show Blk (wr.alloc (.cells row 38)) wr.heap.size (2 * m) from ⟨row, heap_alloc_new wr _, hrow⟩)
              have HB1 := Lib.hid (HB0.out.trans (hal.mono (Below.size HB0.out)))
              have HNE := Lib.hid (show 0 < m → bp ≠ wr.heap.size from fun h0 e => by
                obtain ⟨A, c, h1, _⟩ := HPP.out 0 h0
                have := World.block_lt_of_cell? wr _ h1
                have h2 : bp < wr.heap.size := this
                omega)
              have hmpos : 0 < m := by rw [HM.out]; exact Nat.pow_pos (by omega)
              have HNE2 := Lib.hid (HNE.out hmpos)
              have hbnw := Below.size HB0.out
              clear hrow hal HPP HNE hml
              have e2' : wrap64 (2 * (m : Int)) = ((2 * m : Nat) : Int) := by unfold wrap64; omega
              go_wp2_with fail
              obtain ⟨bn, hbn⟩ : ∃ b, b = wr.heap.size := ⟨_, rfl⟩
              rw [← hbn] at HPA HBK HNE2 hbnw ⊢
              clear hbn hmk
              generalize wr.alloc (.cells row 38) = v at *
              go_loopw [42] (fun x wr => ∃ i : Nat, i ≤ m ∧ x = .int .i64 i ∧ Hid (PartsAt wr bp bn m (fun _ => True) (partF l0 d) ∧ PartsAt wr bn bn (2 * m) (fun j => j < i ∨ (m ≤ j ∧ j < m + i)) (partF l0 (d + 1)) ∧ Blk wr bn (2 * m) ∧ Below w.heap.size w wr)) (fun x _ => m - (intOf x).toNat)
              case atStart => exact ⟨0, Nat.zero_le _, rfl, HPA.out, fun j hj hd => by omega, HBK.out, HB1.out⟩
              case round =>
                obtain ⟨i, hi, rfl, hq⟩ := hrel
                have HP1 := Lib.hid hq.out.1
                have HP2 := Lib.hid hq.out.2.1
                have HBL := Lib.hid hq.out.2.2.1
                have HB2 := Lib.hid hq.out.2.2.2
                clear hq HPA HBK HB1
                have i0 : (0 : Int) ≤ (i : Int) := by omega
                by_cases him : i < m
                · have i1 : (i : Int) < (m : Int) := by omega
                  have i2 : (i : Int) < 2 * (m : Int) := by omega
                  have i3 : (i : Int) + (m : Int) < 2 * (m : Int) := by omega
                  have i5 : i < 2 * m := by omega
                  have i6 : i + m < 2 * m := by omega
                  have e3 : IntKind.i64.wrap ((i : Int) + (m : Int)) = (i : Int) + (m : Int) := IntWalk.i64_in _ (by omega)
                  have e4 : ((i : Int) + (m : Int)).toNat = i + m := by omega
                  have i4 : (0 : Int) ≤ (i : Int) + (m : Int) := by omega
                  obtain ⟨A, c, hcell, hpl⟩ := HP1.out i him trivial
                  have SP := Lib.hid (split_any (c := c) d (by omega) wr hpl.1 rfl (by have := part_len l0 d i; have := HN.out; omega) (part_sub HSZ.out) (Nat.le_refl _))
                  rw [part_zero l0 d i (by rw [← HM.out]; exact him), part_one l0 d i (by rw [← HM.out]; exact him), ← HM.out] at SP
                  have hq1 := part_len l0 (d + 1) i
                  have hq2 := part_len l0 (d + 1) (i + m)
                  have HL1 := Lib.hid (fun w' A c (hb : Below wr.heap.size wr w') (h : w'.ownsRow wr.heap.size 31 4 (.slice A (partF l0 (d + 1) i).length c) (partF l0 (d + 1) i).length (ccs (partF l0 (d + 1) i))) => own_PL (q := bn) h rfl (part_sub HSM.out) (max_small (by have := HN.out; omega)) HBL.out.lt)
                  have HL2 := Lib.hid (fun w' A c (hb : Below wr.heap.size wr w') (h : w'.ownsRow wr.heap.size 31 4 (.slice A (partF l0 (d + 1) (i + m)).length c) (partF l0 (d + 1) (i + m)).length (ccs (partF l0 (d + 1) (i + m)))) => own_PL (q := bn) h rfl (part_sub HSM.out) (max_small (by have := HN.out; omega)) HBL.out.lt)
                  clear hq1 hq2 hpl
                  generalize hn1 : (partF l0 d i).length = n1 at *
                  generalize hn2 : (partF l0 (d + 1) i).length = n2 at *
                  generalize hn3 : (partF l0 (d + 1) (i + m)).length = n3 at *
                  have HN2 := Lib.hid hn2
                  have HN3 := Lib.hid hn3
                  clear hn1 hn2 hn3
                  go_wp2_with fail
                  refine SP.out.mono ?_; rintro e u ⟨A1, c1, A2, c2, rfl, ho1, ho2, hb⟩
                  have PA1 := Lib.hid (HP1.out.kept hb)
                  have PA2 := Lib.hid (HP2.out.kept hb)
                  have BL2 := Lib.hid (HBL.out.kept hb)
                  have HB3 := Lib.hid (HB2.out.trans (hb.mono (Below.size HB2.out)))
                  have LA := Lib.hid (HL1.out u A1 c1 hb ho1)
                  have LB := Lib.hid (HL2.out u A2 c2 hb ho2)
                  clear ho1 ho2 hb HP1 HP2 HBL HB2 SP HL1 HL2 hcell
                  obtain ⟨⟨z1, hz1⟩, hf1⟩ := BL2.out.cell (i := i) (by omega)
                  obtain ⟨⟨z2, hz2⟩, hf2⟩ := (BL2.out.set (i := i) (u := .slice A1 n2 c1)).cell (i := i + m) (by omega)
                  have e5 : IntKind.i64.wrap ((i : Int) + 1) = (i : Int) + 1 := IntWalk.i64_in _ (by omega)
                  go_wp2_with fail
                  go_roundw
                  case rel =>
                    refine ⟨i + 1, by omega, by go_num, ?_, ?_, (BL2.out.set (i := i)).set, below_set1 (below_set1 HB3.out hbnw) hbnw⟩
                    · exact (PA1.out.other HNE2.out).other HNE2.out
                    · have q1 := PA2.out.add (i := i) (c := c1) BL2.out (by omega) LA.out
                      rw [HN2.out] at q1
                      have q2 := q1.add (i := i + m) (c := c2) (BL2.out.set (i := i)) (by omega) LB.out.set
                      rw [HN3.out] at q2
                      exact q2.imp fun j hj hh => by omega
                  case measure => simp [intOf]; omega
                · obtain rfl : m = i := by omega
                  have i1 : ¬ (m : Int) < (m : Int) := by omega
                  have e5 : IntKind.i64.wrap ((d : Int) + 1) = (d : Int) + 1 := IntWalk.i64_in _ (by omega)
                  go_wp2_with fail
                  go_roundw
                  case rel => exact ⟨d + 1, by omega, by go_num, bn, 2 * m, rfl, by rw [HM.out, Nat.pow_succ, Nat.mul_comm], HP2.out.toC (fun j hj => by omega), HB2.out⟩
                  case measure => simp [intOf]; omega
          · as_aux_lemma =>
              obtain rfl : D = d := by omega
              have d1 : ¬ (D : Int) < (D : Int) := by omega
              obtain ⟨f, hf⟩ : ∃ f : Nat → Nat, f = fun j => (partF l0 D j).length := ⟨_, rfl⟩
              have HF := Lib.hid (show ∀ j, (partF l0 D j).length = f j from fun j => by rw [hf])
              have HT := Lib.hid (show sumL f m = n0 by rw [hf, HM.out, parts_all, HN.out])
              have HMX := Lib.hid (fun j (hj : j < m) => show sumL f (j + 1) ≤ n0 by rw [← HT.out]; exact sumL_le f (by omega))
              have HKY := Lib.hid (fun j c (hc : c ∈ partF l0 D j) => show hsum c.key.data.toList % 2 ^ D = j from (part_mem hc).2)
              have RB := Lib.hid (fun s (h : s.size ≤ maxLen) w => rbits_any s D (by omega) w h)
              have hm32 : m ≤ 32 := by
                have : (2 : Nat) ^ D ≤ 2 ^ 5 := Nat.pow_le_pow_right (by omega) hD5
                rw [HM.out]; omega
              have HSP := Lib.hid (fun j => part_sub (d := D) (i := j) HSM.out)
              clear hf HCE HSZ
              go_wp2_with fail
              go_loopw [9, 67] (fun y x wr => ∃ i : Nat, i ≤ m ∧ x = .int .i64 i ∧ y = .int .i64 (sumL f i) ∧ Hid (PartsC wr bp m (partF l0 D) ∧ Below w.heap.size w wr)) (fun _ x _ => m - (intOf x).toNat)
              case atStart => exact ⟨0, Nat.zero_le _, rfl, rfl, HPP.out, HB0.out⟩
              case round =>
                obtain ⟨i, hi, rfl, rfl, hq⟩ := hrel
                have HP1 := Lib.hid hq.out.1
                have HB1 := Lib.hid hq.out.2
                clear hq HPP HB0
                have i0 : (0 : Int) ≤ (i : Int) := by omega
                by_cases him : i < m
                · have i1 : (i : Int) < (m : Int) := by omega
                  obtain ⟨A, c, hcell, hces⟩ := HP1.out i him
                  have HCI := Lib.hid hces
                  have hmx := HMX.out i him
                  rw [sumL] at hmx
                  have HSU := Lib.hid (show sumL f (i + 1) = sumL f i + f i from rfl)
                  have HBI := Lib.hid (show bp < wr.heap.size from World.block_lt_of_cell? wr _ hcell)
                  rw [HF.out] at hcell
                  generalize hL : f i = L at *
                  generalize hS : sumL f i = S at *
                  have HL := Lib.hid hL
                  have HS := Lib.hid hS
                  clear hL hS hces
                  have s0 : (0 : Int) ≤ (S : Int) := by omega
                  obtain ⟨V, hV⟩ : ∃ V, V = wr := ⟨_, rfl⟩
                  rw [← hV] at HP1 HB1 HCI hcell HBI ⊢
                  clear hV
                  go_wp2_with fail
                  go_loopw [9, 75] (fun y x wr => ∃ k : Nat, k ≤ L ∧ x = .int .i64 k ∧ y = .int .i64 ((S + k : Nat) : Int) ∧ Hid (Below V.heap.size V wr)) (fun _ x _ => L - (intOf x).toNat)
                  case atStart => exact ⟨0, Nat.zero_le _, rfl, rfl, Below.refl _ _⟩
                  case round =>
                    obtain ⟨k, hk, rfl, rfl, hq⟩ := hrel
                    have HB2 := Lib.hid hq.out
                    clear hq
                    have k0 : (0 : Int) ≤ (k : Int) := by omega
                    by_cases hkl : k < L
                    · have k1 : (k : Int) < (L : Int) := by omega
                      have hkl2 : k < (partF l0 D i).length := by rw [HF.out, HL.out]; exact hkl
                      obtain ⟨b, off, rfl, _, d0, d1', d2, d3⟩ := (HCI.out.on HB2.out).1 k hkl2
                      have hmem := getD_mem hkl2
                      have hky := HKY.out i _ hmem
                      have hks := (HSP.out i _ hmem).1
                      generalize (partF l0 D i).getD k nilC = y at *
                      have RY := Lib.hid (RB.out y.key hks)
                      rw [hky] at RY
                      have HBX := Lib.hid (HB2.out.alloc HB2.out.size (.cells #[.string y.key, .string y.val, .int .i64 y.blob, .int .i64 y.size] 31))
                      have HZ := Lib.hid (HB1.out.trans (HBX.out.mono (Below.size HB1.out)))
                      clear hmem hky hkl2
                      have e5 : IntKind.i64.wrap (((S + k : Nat) : Int) + 1) = ((S + k : Nat) : Int) + 1 := IntWalk.i64_in _ (by omega)
                      by_cases hbig : 100 < y.key.size
                      · have b1 : (100 : Int) < (y.key.size : Int) := by omega
                        go_wp2_with fail
                        go_ret
                        exact ⟨rfl, HZ.out⟩
                      · have b1 : ¬ (100 : Int) < (y.key.size : Int) := by omega
                        have en : ((i : Int) != (i : Int)) = false := by simp
                        go_wp2_with fail
                        refine (RY.out _).mono ?_; rintro e w2 ⟨rfl, rfl⟩
                        go_wp2_with fail
                        go_roundw
                        case rel => exact ⟨k + 1, by omega, by go_num, by first | rfl | (congr 1; omega), HBX.out⟩
                        case measure => simp [intOf]; omega
                    · obtain rfl : L = k := by omega
                      have k1 : ¬ (L : Int) < (L : Int) := by omega
                      have HZ := Lib.hid (HB1.out.trans (HB2.out.mono (Below.size HB1.out)))
                      have HP3 := Lib.hid (HP1.out.kept HB2.out)
                      go_wp2_with fail
                      go_roundw
                      case rel => exact ⟨i + 1, by omega, by go_num, by rw [HSU.out], HP3.out, HZ.out⟩
                      case measure => simp [intOf]; omega
                · obtain rfl : m = i := by omega
                  have i1 : ¬ (m : Int) < (m : Int) := by omega
                  rw [HT.out]
                  have en : ((n0 : Int) == (n0 : Int)) = true := by simp
                  go_wp2_with fail
                  go_ret
                  exact ⟨by simp, HB1.out⟩

/-! The row's step. -/
set_option maxRecDepth 100000 in
theorem lifted (os : Os) (started : os.Started) (H : Type) (enc : TypeId × Value → H) :
    ReturnsInHanded {} Try.checked os 5 .any (Rows.bucketPartsSpec.pre6 enc Try.prog Try.f5 Rows.bucketPartsRow.domain false) (Rows.bucketPartsSpec.post enc Try.prog Try.f5 false true false false) := by
  refine returnsInHanded_of_change_sized (C := Try.checked) own started (by kernel_rfl) Try.func5
    (ChangeSpec.witness6 (enc := enc) (C := Try.checked) false ⟨#[], #[.slice none 0 0, .int .i64 0], []⟩ 8 (by kernel_rfl) (by kernel_rfl) (by kernel_rfl) (by kernel_rfl)) ?_
  intro W base args ds gs before hval0 hW hcnd hsz0 _
  have hsz : (DataW.weightsEach Try.prog (Try.f5.params.toList ++ Rows.bucketPartsSpec.plain.varTypes Try.prog) (ds ++ gs)).all (· ≤ reachBytes) = true := hsz0
  have hval : ∀ (j : Nat) t v, Try.f5.params[j]? = some t → args[j]? = some v → Value.okWide Try.prog W .any base t v := hval0
  have hW' := hW
  obtain ⟨p, q, hA0, hV, rfl, hfz, hnd⟩ := hW
  have hA : DataW.TrodAll enc Try.prog W 0 (fun _ => true) true Try.f5.params.toList args.toList ds p := hA0
  rw [Try.params5] at hA hval hsz
  obtain ⟨v0, vs0, d0, ds0, p0, q0, hargs, rfl, rfl, h0, r0⟩ := trodAll_cons hA
  obtain ⟨v1, vs1, d1, ds1, p1, q1, rfl, rfl, rfl, h1, r1⟩ := trodAll_cons r0
  obtain ⟨rfl, rfl, rfl⟩ := trodAll_nil r1
  obtain rfl : args = #[v0, v1] := by cases args; simp_all
  obtain ⟨rfl, rfl⟩ := trodVars_none hV
  obtain ⟨A0, n0, c0, rfl⟩ := okWide_slice Try.underlying38 (hval 0 38 v0 rfl rfl)
  have k0 := h0
  have lt0 : ∀ x ∈ p0, x.block < W.heap.size := by obtain ⟨m, hm⟩ := k0; exact DataW.trod_lt m _ _ _ hm
  obtain ⟨l0, w0, e0, f0, z0⟩ := (by obtain ⟨fuel, hf⟩ := h0; exact cesz_read hf (fun _ => rfl) : ∃ l, CesL W A0 n0 l ∧ n0 ≤ c0 ∧ c0 ≤ maxLen ∧ ∀ (ts : List TypeId) (ds : List (DataW _)) (i : Nat), (DataW.weightsEach Try.prog ts ds).all (· ≤ reachBytes) = true → ts[i]? = some 38 → ds[i]? = some d0 → ∀ s ∈ l, s.key.size ≤ reachBytes ∧ s.val.size ≤ reachBytes)
  have s0 : ∀ s ∈ l0, s.key.size ≤ reachBytes ∧ s.val.size ≤ reachBytes := z0 _ _ 0 hsz rfl rfl
  obtain ⟨a1, rfl, rfl, rfl, w1⟩ := open_int Try.underlying3 (hval 1 3 v1 rfl rfl) h1
  clear hA0 hval0
  refine (walk A0 n0 c0 l0 a1 W w0 (Nat.le_trans e0 f0) s0 w1).mono fun e W' ⟨he, bel⟩ => ?_
  subst he
  exact ⟨_, rfl, _, _, _, [], _, [], hW', trodAll_mk1 (shut_bool Try.underlying4 _), (trodAll_cons_mk (Below.trod laidOut (by kernel_rfl) (of_decide_eq_true (by kernel_rfl)) k0 bel lt0) (trodAll_cons_mk (shut_int Try.underlying3 w1) trodAll_mk0)), rfl, bel.frame _, fun h => by cases h⟩

theorem over : Rows.bucketPartsRow.holds Try.pinned (OpenSpec.ofChange Rows.bucketPartsSpec) :=
  OpenClaim.holds_of_wide 5 Try.f5 rfl rfl rfl rfl rfl rfl rfl ⟨rfl, rfl, rfl, rfl, rfl⟩ rfl rfl rfl rfl rfl (by kernel_rfl) Try.func5 (by kernel_rfl)
    (of_decide_eq_true (by kernel_rfl)) (by unfold Func.isWrapper; first | (rw [if_pos (by decide +kernel)]; kernel_rfl) | (rw [if_neg (by decide +kernel)]; exact ⟨rfl, rfl⟩))
    (fun os started H enc _ => lifted os started H enc)

/-- The statement. -/
theorem proved : Rows.BucketPartsSaid := over
end Go.Proofs.Ytljegjcajlkgiaa.bucketParts
