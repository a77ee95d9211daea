/- Bytes that a call makes; the contract of the document's own Zeros. -/
import Derived.Test.YtoladghpoddlgaaMem
import Derived.Laws.BytesArg
import Derived.Laws.MakeOwn
namespace Go.Proofs.Ytoladghpoddlgaa
open Go.ChangeShapes Go.WideShapes Go.ChangeAt Go.RowKit
set_option linter.unusedVariables false
set_option linter.unusedSimpArgs false
set_option maxRecDepth 100000
def Byt (w : World) (g : Nat) (b : BA) : Prop := w.heap[g]? = some (.cells (b.map fun c => Value.int .u8 c.toNat).toArray 5 (0, 0))
theorem Byt.lt {w : World} {g : Nat} {b : BA} (h : Byt w g b) : g < w.heap.size := (Array.getElem?_eq_some_iff.1 h).1
theorem Byt.cell {w : World} {g : Nat} {b : BA} (h : Byt w g b) {i : Nat} (hi : i < b.length) : w.cell? ⟨g, i, none⟩ = some (.int .u8 (b.getD i 0).toNat) := by
  refine (cell_of_row _ _ _ _ _ _ h).trans ?_
  simp [List.getD, hi]
theorem Byt.free {w : World} {g : Nat} {b : BA} (h : Byt w g b) (i : Nat) : w.frozen? ⟨g, i, none⟩ = false := frozen_of_row _ _ _ _ _ h
theorem Byt.kept {w w' : World} {g : Nat} {b : BA} (h : Byt w g b) (hb : Below w.heap.size w w') : Byt w' g b := (hb.block _ h.lt).trans h
theorem Byt.heap {w w' : World} {g : Nat} {b : BA} (h : Byt w g b) (hh : w'.heap[g]? = w.heap[g]?) : Byt w' g b := hh.trans h
theorem Byt.set {w : World} {g : Nat} {b : BA} (h : Byt w g b) (i : Nat) (c : UInt8) : Byt (w.setCell ⟨g, i, none⟩ (.int .u8 c.toNat)) g (b.set i c) := by
  unfold Byt at *
  simp only [World.setCell, Array.getElem?_modify, h, if_pos, Option.map_some]
  simp [List.map_set]
theorem Byt.string {w : World} {g : Nat} {b : BA} (h : Byt w g b) : (convert 54 9 (.slice (some ⟨g, 0, none⟩) b.length b.length)).run Try.prog w = .ok (.string (str b)) w :=
  run_convert_bytes_back (P := Try.prog) w 54 9 5 ⟨g, 0, none⟩ b.length b Try.underlying54 Try.underlying5 Try.underlying9 fun j hj => by
    have := h.cell hj
    rw [add_plain, Nat.zero_add, this]
    simp [List.getD, hj]
theorem infoU : (Try.prog.info? 5).map (fun i => (i.zero, i.size, i.bytes)) = some (some (.int .u8 0), 1, 1) := by kernel_rfl
theorem made_bytes (n : Nat) : madeCells #[Value.int .u8 0] n = ((zs n).map fun c => Value.int .u8 c.toNat).toArray := by
  apply Array.ext'
  apply List.ext_getElem
  · simp [madeCells, zs]
  · intro i h1 h2
    simp [madeCells, Nat.mod_one, zs]
theorem make_byt (n : Nat) (hn : n ≤ 1000) (w : World) : ∃ w2, (Instr.makeSlice 54 (.int .i64 n) (.int .i64 n)).run Try.prog w = .ok (.slice (some ⟨w.heap.size, 0, none⟩) n n) w2 ∧ Byt w2 w.heap.size (zs n) ∧ Below w.heap.size w w2 := by
  obtain ⟨i0, hi, hz0, hz1, hz2⟩ := info_parts infoU
  have hmk := run_make (P := Try.prog) w 54 5 i0 _ Try.underlying54 hi hz0 .i64 .i64 (n : Int) (n : Int) (by omega) (Int.le_refl _) (by rw [hz2]; omega) (by omega)
  rw [hz1] at hmk
  simp only [Int.toNat_natCast, Value.cells, Nat.mul_one] at hmk
  refine ⟨_, hmk, ?_, (Below.refl _ _).alloc (Nat.le_refl _) _⟩
  unfold Byt
  rw [← made_bytes]
  exact heap_alloc_new w _
set_option maxHeartbeats 400000 in
theorem zeros_ok (n : Nat) (hn : n ≤ 1000) (w : World) : Calls Try.prog 22 #[.int .i64 n] w fun e w' => e = .returned (.string (str (zs n))) ∧ Below w.heap.size w w' := by
  obtain ⟨w2, hmk, hby, hb⟩ := make_byt n hn w
  have hcv := hby.string
  rw [zs_length] at hcv
  have HB := Lib.hid hb
  generalize str (zs n) = z at *
  clear hby hb
  have k0 : (0 : Int) ≤ (n : Int) := by omega
  generalize w.heap.size = g at *
  go_enter Try.func22, Try.ntmps22
  go_wp2_with fail
  go_ret
  exact ⟨rfl, HB.out⟩
end Go.Proofs.Ytoladghpoddlgaa
