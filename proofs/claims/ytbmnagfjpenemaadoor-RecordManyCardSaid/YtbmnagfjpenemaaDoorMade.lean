/- Lists made of zeros. -/
import Derived.Test.YtbmnagfjpenemaaDoorManym
import Derived.Test.YtbmnagfjpenemaaDoorTurn
namespace Go.Proofs.YtbmnagfjpenemaaDoor
open Go.ChangeShapes Go.WideShapes Go.ChangeAt Go.RowKit
set_option linter.unusedVariables false
set_option linter.unusedSimpArgs false
def zI (n : Nat) : Array Value := madeCells #[.int .i64 0] (n * 1)
def zT (n : Nat) : Array Value := madeCells #[.int .i64 0, .int .i64 0, .bool false, .slice none 0 0] (n * 4)
def zD (n : Nat) : Array Value := madeCells #[.int .i64 0, .int .i64 0] (n * 2)
theorem info_i : (Tryd.prog.info? 3).map (fun i => (i.zero, i.size, i.bytes)) = some (some (.int .i64 0), 1, 8) := by kernel_rfl
theorem info_t : (Tryd.prog.info? 41).map (fun i => (i.zero, i.size, i.bytes)) = some (some (.agg #[.int .i64 0, .int .i64 0, .bool false, .slice none 0 0]), 4, 48) := by kernel_rfl
theorem info_d : (Tryd.prog.info? 73).map (fun i => (i.zero, i.size, i.bytes)) = some (some (.agg #[.int .i64 0, .int .i64 0]), 2, 16) := by kernel_rfl
theorem make_i (n : Nat) (hn : n ≤ 1000) (w : World) : (Instr.makeSlice 24 (.int .i64 n) (.int .i64 n)).run Tryd.prog w = .ok (.slice (some ⟨w.heap.size, 0, none⟩) n n) (w.alloc (.cells (zI n) 3)) := by
  unfold zI
  obtain ⟨i0, hi, hz0, hz1, hz2⟩ := info_parts info_i
  have hmk := run_make (P := Tryd.prog) w 24 3 i0 _ Tryd.underlying24 hi hz0 .i64 .i64 (n : Int) (n : Int) (by omega) (Int.le_refl _) (by rw [hz2]; omega) (by omega)
  rw [hz1] at hmk
  simpa only [Int.toNat_natCast, Value.cells] using hmk
theorem make_t (n : Nat) (hn : n ≤ 1000) (w : World) : (Instr.makeSlice 26 (.int .i64 n) (.int .i64 n)).run Tryd.prog w = .ok (.slice (some ⟨w.heap.size, 0, none⟩) n n) (w.alloc (.cells (zT n) 41)) := by
  unfold zT
  obtain ⟨i0, hi, hz0, hz1, hz2⟩ := info_parts info_t
  have hmk := run_make (P := Tryd.prog) w 26 41 i0 _ Tryd.underlying26 hi hz0 .i64 .i64 (n : Int) (n : Int) (by omega) (Int.le_refl _) (by rw [hz2]; omega) (by omega)
  rw [hz1] at hmk
  simpa only [Int.toNat_natCast, Value.cells] using hmk
theorem make_d (n : Nat) (hn : n ≤ 1000) (w : World) : (Instr.makeSlice 27 (.int .i64 n) (.int .i64 n)).run Tryd.prog w = .ok (.slice (some ⟨w.heap.size, 0, none⟩) n n) (w.alloc (.cells (zD n) 73)) := by
  unfold zD
  obtain ⟨i0, hi, hz0, hz1, hz2⟩ := info_parts info_d
  have hmk := run_make (P := Tryd.prog) w 27 73 i0 _ Tryd.underlying27 hi hz0 .i64 .i64 (n : Int) (n : Int) (by omega) (Int.le_refl _) (by rw [hz2]; omega) (by omega)
  rw [hz1] at hmk
  simpa only [Int.toNat_natCast, Value.cells] using hmk
theorem made_at (z : Array Value) (m k j : Nat) (hj : j < z.size) (hm : k * z.size + j < m) : (madeCells z m)[k * z.size + j]? = z[j]? := by
  have e : (k * z.size + j) % z.size = j := by
    rw [Nat.mul_comm, Nat.mul_add_mod, Nat.mod_eq_of_lt hj]
  rw [madeCells, Array.getElem?_map, Array.getElem?_range, if_pos hm]
  simp only [Option.map_some, e]
  rw [getElem!_pos z j hj, Array.getElem?_eq_getElem hj]
theorem rep_at {α : Type} (x d : α) {n k : Nat} (h : k < n) : (List.replicate n x).getD k d = x := by
  rw [List.getD_eq_getElem?_getD, List.getElem?_replicate, if_pos h]; rfl
theorem made_ints {w : World} {B n : Nat} (h : Bx w B (zI n) 3) (hn : n ≤ maxLen) : IntsM w.heap.size w (some ⟨B, 0, none⟩) n (List.replicate n 0) := by
  refine ⟨List.length_replicate, hn, fun k hk => ?_⟩
  rw [rep_at _ _ hk]
  refine ⟨_, 0, rfl, h.lt, ?_, zero_rng⟩
  have := h.cell (0 + k)
  rw [this, zI]
  have e := made_at #[Value.int .i64 0] (n * 1) k 0 (by simp) (by simp; omega)
  simpa using e
theorem made_dys {w : World} {B n : Nat} (h : Bx w B (zD n) 73) (hn : n ≤ maxLen) : DysM w.heap.size w (some ⟨B, 0, none⟩) n (List.replicate n nilD) := by
  refine ⟨List.length_replicate, hn, fun k hk => ?_⟩
  rw [rep_at _ _ hk]
  have e := fun j (hj : j < 2) => made_at #[Value.int .i64 0, .int .i64 0] (n * 2) k j (by simpa using hj) (by simp; omega)
  refine ⟨_, 0, rfl, h.lt, ⟨?_, ?_⟩, ⟨zero_rng, zero_rng⟩⟩
  · rw [h.cell, zD, Nat.zero_add]; exact (e 0 (by omega)).trans rfl
  · rw [h.cell, zD, Nat.zero_add]; exact (e 1 (by omega)).trans rfl
theorem made_txs {w : World} {B n : Nat} (h : Bx w B (zT n) 41) (hn : n ≤ maxLen) : TxsM w.heap.size w (some ⟨B, 0, none⟩) n (List.replicate n nilT) := by
  refine ⟨List.length_replicate, hn, fun k hk => ?_⟩
  rw [rep_at _ _ hk]
  have e := fun j (hj : j < 4) => made_at #[Value.int .i64 0, .int .i64 0, .bool false, .slice none 0 0] (n * 4) k j (by simpa using hj) (by simp; omega)
  refine ⟨_, 0, rfl, h.lt, ⟨?_, ?_, ?_, none, 0, 0, ?_, IntsM.nil _ _ _⟩, ⟨zero_rng, zero_rng⟩⟩
  · rw [h.cell, zT, Nat.zero_add]; exact (e 0 (by omega)).trans rfl
  · rw [h.cell, zT, Nat.zero_add]; exact (e 1 (by omega)).trans rfl
  · rw [h.cell, zT, Nat.zero_add]; exact (e 2 (by omega)).trans rfl
  · rw [h.cell, zT, Nat.zero_add]; exact (e 3 (by omega)).trans rfl
/-- A box of another kind is as it was behind an append. -/
theorem Bx.grown {w1 w2 : World} {B B' e' s' n' : Nat} {cs : Array Value} {t : TypeId} {v' : Value} {xs' : List Value} {o : Obj} (h : Bx w1 B cs t) (h' : w1.ownsRow B' e' s' v' n' xs') (hne : t ≠ e') (hg : (w1.alloc o).grownBy w2 v'.ownBlock) : Bx w2 B cs t := by
  have hlt := h.lt
  refine (hg.block B (by simp; omega) (fun hh => ?_)).trans ((Below.heap_alloc w1 o B hlt).trans h)
  obtain ⟨c2, hc2⟩ := owns_block h' hh.symm
  have h1 : w1.heap[B]? = _ := h
  rw [h1] at hc2
  simp only [Option.some.injEq, Obj.cells.injEq] at hc2
  exact hne hc2.2.1
theorem below_grown {C : Nat} {w w1 w2 : World} {o : Obj} {row : Option Nat} (h : Below C w w1) (hC : C ≤ w1.heap.size) (hg : (w1.alloc o).grownBy w2 row) (hrow : ∀ g, row = some g → C ≤ g) : Below C w w2 := by
  have hsz := h.size
  refine ⟨hg.os.trans h.os, hg.tape.trans h.tape, hg.output.trans h.output, ?_, fun k hk => ?_⟩
  · have := hg.size
    simp at this
    omega
  · exact ((hg.block k (by simp; omega) (fun e => by have := hrow k e.symm; omega)).trans (Below.heap_alloc w1 o k (by omega))).trans (h.block k hk)
end Go.Proofs.YtbmnagfjpenemaaDoor
