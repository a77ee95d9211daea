/- strings.Repeat at this program; pages: their values, their boxes; tables of numbers, of bytes in memory; the small calls: right, within, entries. -/
import Derived.Test.YtojfnafahlpjjaaNums
import Derived.Test.YtojfnafahlpjjaaPlain
import Derived.Laws.BytesArg
import Derived.Laws.MakeOwn
import Derived.Laws.IdiomStrings
import Derived.SliceStrings
import Derived.Shelf.Lays
import Derived.Shelf.Strings.Repeat
namespace Go.Proofs
open Go.Shelf
def Try.repL_ren : Go.Shelf.Ren := ⟨fun | 105 => 69 | 212 => 87 | 99 => 88 | 165 => 89 | 166 => 90 | 170 => 91 | 169 => 92 | 263 => 95 | 264 => 96 | 206 => 97 | 240 => 98 | 241 => 99 | 276 => 100 | 277 => 101 | n => n, fun | 9 => 9 | 3 => 3 | 4 => 4 | 20 => 20 | 0 => 0 | 46 => 67 | 109 => 131 | 5 => 5 | 72 => 136 | 76 => 140 | 51 => 146 | 146 => 147 | 53 => 149 | 148 => 150 | 70 => 134 | 37 => 93 | 75 => 139 | 127 => 152 | 164 => 153 | 80 => 143 | n => n, fun | n => n⟩
theorem Try.repL : Go.Proofs.Lays.n105 Try.prog Try.repL_ren := {
  mixed := by kernel_rfl
  f99 := Try.func88.trans (congrArg some (by kernel_rfl))
  f105 := Try.func69.trans (congrArg some (by kernel_rfl))
  f165 := Try.func89.trans (congrArg some (by kernel_rfl))
  f166 := Try.func90.trans (congrArg some (by kernel_rfl))
  f169 := Try.func92.trans (congrArg some (by kernel_rfl))
  f170 := Try.func91.trans (congrArg some (by kernel_rfl))
  f206 := Try.func97.trans (congrArg some (by kernel_rfl))
  f212 := Try.func87.trans (congrArg some (by kernel_rfl))
  f240 := Try.func98.trans (congrArg some (by kernel_rfl))
  f241 := Try.func99.trans (congrArg some (by kernel_rfl))
  f263 := Try.func95.trans (congrArg some (by kernel_rfl))
  f264 := Try.func96.trans (congrArg some (by kernel_rfl))
  f276 := Try.func100.trans (congrArg some (by kernel_rfl))
  f277 := Try.func101.trans (congrArg some (by kernel_rfl))
  t0 := Try.underlying0
  a0 := Try.isAgg0
  z0 := Try.sizeOf0
  v0 := Try.zeroValue0
  t3 := Try.underlying3
  a3 := Try.isAgg3
  z3 := Try.sizeOf3
  v3 := Try.zeroValue3
  t4 := Try.underlying4
  a4 := Try.isAgg4
  z4 := Try.sizeOf4
  v4 := Try.zeroValue4
  t5 := Try.underlying5
  a5 := Try.isAgg5
  z5 := Try.sizeOf5
  v5 := Try.zeroValue5
  t9 := Try.underlying9
  a9 := Try.isAgg9
  z9 := Try.sizeOf9
  v9 := Try.zeroValue9
  t20 := Try.underlying20
  a20 := Try.isAgg20
  z20 := Try.sizeOf20
  v20 := Try.zeroValue20
  t37 := Try.underlying93
  a37 := Try.isAgg93
  z37 := Try.sizeOf93
  v37 := Try.zeroValue93
  t46 := Try.underlying67
  a46 := Try.isAgg67
  z46 := Try.sizeOf67
  v46 := Try.zeroValue67
  t51 := Try.underlying146
  a51 := Try.isAgg146
  z51 := Try.sizeOf146
  v51 := Try.zeroValue146
  t53 := Try.underlying149
  a53 := Try.isAgg149
  z53 := Try.sizeOf149
  v53 := Try.zeroValue149
  t70 := Try.underlying134
  a70 := Try.isAgg134
  z70 := Try.sizeOf134
  v70 := Try.zeroValue134
  t72 := Try.underlying136
  a72 := Try.isAgg136
  z72 := Try.sizeOf136
  v72 := Try.zeroValue136
  t75 := Try.underlying139
  a75 := Try.isAgg139
  z75 := Try.sizeOf139
  v75 := Try.zeroValue139
  t76 := Try.underlying140
  a76 := Try.isAgg140
  z76 := Try.sizeOf140
  v76 := Try.zeroValue140
  t109 := Try.underlying131
  a109 := Try.isAgg131
  z109 := Try.sizeOf131
  v109 := Try.zeroValue131
  t127 := Try.underlying152
  a127 := Try.isAgg152
  z127 := Try.sizeOf152
  v127 := Try.zeroValue152
  t146 := Try.underlying147
  a146 := Try.isAgg147
  z146 := Try.sizeOf147
  v146 := Try.zeroValue147
  t148 := Try.underlying150
  a148 := Try.isAgg150
  z148 := Try.sizeOf150
  v148 := Try.zeroValue150
  t164 := Try.underlying153
  a164 := Try.isAgg153
  z164 := Try.sizeOf153
  v164 := Try.zeroValue153 }
theorem Try.repX : Builder.Extra Try.prog Try.repL_ren := {
  sizeBuilder := by kernel_rfl
  liesBuilder := by kernel_rfl
  t5 := Try.underlying5
  a5 := Try.isAgg5
  z5 := Try.sizeOf5
  v5 := Try.zeroValue5
  infoByte := by kernel_rfl
  cellsByte := by kernel_rfl
  sizeByte := by kernel_rfl
  neB5 := by decide }
end Go.Proofs
namespace Go.Proofs.Ytojfnafahlpjjaa
open Go.ChangeShapes Go.WideShapes Go.ChangeAt Go.RowKit Go.Shelf
set_option linter.unusedVariables false
set_option linter.unusedSimpArgs false
set_option maxRecDepth 100000
theorem repeat_one (c : UInt8) : ∀ n : Nat, Lib.repeatL [c] n = List.replicate n c
  | 0 => rfl
  | n + 1 => by rw [Lib.repeatL, repeat_one c n]; simp [List.replicate_succ]
theorem repeat_any (n : Nat) (hn : n ≤ 1000) (w : World) : Calls Try.prog 69 #[.string ⟨#[0]⟩, .int .i64 n] w fun e w' => e = .returned (.string (str (zs n))) ∧ Below w.heap.size w w' := by
  have h := Any.strings_Repeat Try.repL Try.repX ⟨#[0]⟩ n w (by omega) (by show 1 * n ≤ _; omega)
  rw [show (ByteArray.mk #[0]).data.toList = [0] from rfl, repeat_one] at h
  change Calls Try.prog 69 _ _ _ at h
  exact h
/-- A page as the program holds it; its box. -/
def pv (k d x : Int) (b : BA) : Value := .agg #[.int .i64 k, .int .i64 d, .int .i64 x, .string (str b)]
def PBox (w : World) (B : Nat) (k d x : Int) (b : ByteArray) : Prop := w.heap[B]? = some (.cells #[.int .i64 k, .int .i64 d, .int .i64 x, .string b] 23 (0, 0))
theorem PBox.cells {w : World} {B : Nat} {k d x : Int} {b : ByteArray} (h : PBox w B k d x b) : w.cell? ⟨B, 0, none⟩ = some (.int .i64 k) ∧ w.cell? ⟨B, 1, none⟩ = some (.int .i64 d) ∧ w.cell? ⟨B, 2, none⟩ = some (.int .i64 x) ∧ w.cell? ⟨B, 3, none⟩ = some (.string b) :=
  ⟨(cell_of_row _ _ _ _ _ _ h).trans rfl, (cell_of_row _ _ _ _ _ _ h).trans rfl, (cell_of_row _ _ _ _ _ _ h).trans rfl, (cell_of_row _ _ _ _ _ _ h).trans rfl⟩
theorem PBox.free {w : World} {B : Nat} {k d x : Int} {b : ByteArray} (h : PBox w B k d x b) : w.frozen? ⟨B, 0, none⟩ = false ∧ w.frozen? ⟨B, 1, none⟩ = false ∧ w.frozen? ⟨B, 2, none⟩ = false ∧ w.frozen? ⟨B, 3, none⟩ = false :=
  ⟨frozen_of_row _ _ _ _ _ h, frozen_of_row _ _ _ _ _ h, frozen_of_row _ _ _ _ _ h, frozen_of_row _ _ _ _ _ h⟩
theorem PBox.new (w : World) (k d x : Int) (b : ByteArray) : PBox (w.alloc (.cells #[.int .i64 k, .int .i64 d, .int .i64 x, .string b] 23)) w.heap.size k d x b := heap_alloc_new w _
theorem PBox.lt {w : World} {B : Nat} {k d x : Int} {b : ByteArray} (h : PBox w B k d x b) : B < w.heap.size := (Array.getElem?_eq_some_iff.1 h).1
theorem PBox.kept {w w' : World} {B : Nat} {k d x : Int} {b : ByteArray} (h : PBox w B k d x b) (hb : Below w.heap.size w w') : PBox w' B k d x b := (hb.block _ h.lt).trans h
theorem PBox.ofLt {w w' : World} {B : Nat} {k d x : Int} {b : ByteArray} (h : PBox w B k d x b) {C : Nat} (hb : Below C w w') (hC : B < C) : PBox w' B k d x b := (hb.block _ hC).trans h
theorem heap_set4 (w : World) (B : Nat) (u0 u1 u2 u3 : Value) (j : Nat) (hj : j ≠ B) : ((((w.setCell ⟨B, 0, none⟩ u0).setCell ⟨B, 1, none⟩ u1).setCell ⟨B, 2, none⟩ u2).setCell ⟨B, 3, none⟩ u3).heap[j]? = w.heap[j]? := by
  rw [Below.heap_setCell _ _ _ _ hj, Below.heap_setCell _ _ _ _ hj, Below.heap_setCell _ _ _ _ hj, Below.heap_setCell _ _ _ _ hj]
theorem PBox.set4 {w : World} {B : Nat} {k d x : Int} {b : ByteArray} (h : PBox w B k d x b) (k' d' x' : Int) (b' : ByteArray) : PBox ((((w.setCell ⟨B, 0, none⟩ (.int .i64 k')).setCell ⟨B, 1, none⟩ (.int .i64 d')).setCell ⟨B, 2, none⟩ (.int .i64 x')).setCell ⟨B, 3, none⟩ (.string b')) B k' d' x' b' := by
  unfold PBox at *
  simp [World.setCell, Array.getElem?_modify, h]
/-- Depth and Body set. -/
theorem PBox.set2 {w : World} {B : Nat} {k d x : Int} {b : ByteArray} (h : PBox w B k d x b) (d' : Int) (b' : ByteArray) : PBox ((w.setCell ⟨B, 1, none⟩ (.int .i64 d')).setCell ⟨B, 3, none⟩ (.string b')) B k d' x b' := by
  unfold PBox at *
  simp [World.setCell, Array.getElem?_modify, h]
theorem PBox.setD {w : World} {B : Nat} {k d x : Int} {b : ByteArray} (h : PBox w B k d x b) (d' : Int) : PBox (w.setCell ⟨B, 1, none⟩ (.int .i64 d')) B k d' x b := by
  unfold PBox at *
  simp [World.setCell, Array.getElem?_modify, h]
theorem heap_set2 (w : World) (B i1 i2 : Nat) (u1 u2 : Value) (j : Nat) (hj : j ≠ B) : ((w.setCell ⟨B, i1, none⟩ u1).setCell ⟨B, i2, none⟩ u2).heap[j]? = w.heap[j]? := by
  rw [Below.heap_setCell _ _ _ _ hj, Below.heap_setCell _ _ _ _ hj]
theorem PBox.drew {w : World} {B : Nat} {k d x : Int} {b : ByteArray} (h : PBox w B k d x b) : PBox w.drew B k d x b := h
theorem PBox.heap {w w' : World} {B : Nat} {k d x : Int} {b : ByteArray} (h : PBox w B k d x b) (hh : w'.heap[B]? = w.heap[B]?) : PBox w' B k d x b := hh.trans h
theorem below_set4 {w w0 : World} {C B : Nat} {u0 u1 u2 u3 : Value} (h : Below C w0 w) (hC : C ≤ B) : Below C w0 ((((w.setCell ⟨B, 0, none⟩ u0).setCell ⟨B, 1, none⟩ u1).setCell ⟨B, 2, none⟩ u2).setCell ⟨B, 3, none⟩ u3) :=
  ⟨h.os, h.tape, h.output, by rw [World.size_setCell, World.size_setCell, World.size_setCell, World.size_setCell]; exact h.size, fun k hk => by
    have hne : k ≠ B := by omega
    rw [Below.heap_setCell _ _ _ _ hne, Below.heap_setCell _ _ _ _ hne, Below.heap_setCell _ _ _ _ hne, Below.heap_setCell _ _ _ _ hne]
    exact h.block k hk⟩
theorem below_set1 {w w0 : World} {C B i : Nat} {u : Value} (h : Below C w0 w) (hC : C ≤ B) : Below C w0 (w.setCell ⟨B, i, none⟩ u) :=
  ⟨h.os, h.tape, h.output, by rw [World.size_setCell]; exact h.size, fun k hk => by
    rw [Below.heap_setCell _ _ _ _ (show k ≠ B by omega)]
    exact h.block k hk⟩
theorem below_set2 {w w0 : World} {C B i1 i2 : Nat} {u1 u2 : Value} (h : Below C w0 w) (hC : C ≤ B) : Below C w0 ((w.setCell ⟨B, i1, none⟩ u1).setCell ⟨B, i2, none⟩ u2) := below_set1 (below_set1 h hC) hC
/-! A table of numbers, of bytes, at a block of its own. -/
def Tbl (w : World) (g : Nat) (l : List Int) : Prop := w.heap[g]? = some (.cells (l.map (Value.int .i64)).toArray 3 (0, 0))
theorem Tbl.lt {w : World} {g : Nat} {l : List Int} (h : Tbl w g l) : g < w.heap.size := (Array.getElem?_eq_some_iff.1 h).1
theorem Tbl.cell {w : World} {g : Nat} {l : List Int} (h : Tbl w g l) {i : Nat} (hi : i < l.length) : w.cell? ⟨g, i, none⟩ = some (.int .i64 (l.getD i 0)) := by
  refine (cell_of_row _ _ _ _ _ _ h).trans ?_
  simp [List.getD, hi]
theorem Tbl.free {w : World} {g : Nat} {l : List Int} (h : Tbl w g l) (i : Nat) : w.frozen? ⟨g, i, none⟩ = false := frozen_of_row _ _ _ _ _ h
theorem Tbl.kept {w w' : World} {g : Nat} {l : List Int} (h : Tbl w g l) (hb : Below w.heap.size w w') : Tbl w' g l := (hb.block _ h.lt).trans h
theorem Tbl.set {w : World} {g : Nat} {l : List Int} (h : Tbl w g l) (i : Nat) (x : Int) : Tbl (w.setCell ⟨g, i, none⟩ (.int .i64 x)) g (l.set i x) := by
  unfold Tbl at *
  simp only [World.setCell, Array.getElem?_modify, h, if_pos, Option.map_some]
  simp [List.map_set]
theorem Tbl.owns {w : World} {g C : Nat} {l : List Int} (h : Tbl w g l) (hC : C ≤ g) (hl : l.length ≤ maxLen) : w.ownsRow C 3 1 (.slice (some ⟨g, 0, none⟩) l.length l.length) l.length (l.map (Value.int .i64)) :=
  ⟨by simp, .inr ⟨g, l.length, _, rfl, hC, h, Nat.le_refl _, hl, by simp, by simp [List.take_of_length_le]⟩⟩
theorem Tbl.row {w : World} {g : Nat} {l : List Int} (h : Tbl w g l) (hl : l.length ≤ maxLen) : Row w (some ⟨g, 0, none⟩) l.length l.length l := ⟨rfl, h.owns (Nat.zero_le _) hl⟩
def Byt (w : World) (g : Nat) (b : BA) : Prop := w.heap[g]? = some (.cells (b.map fun c => Value.int .u8 c.toNat).toArray 5 (0, 0))
theorem Byt.lt {w : World} {g : Nat} {b : BA} (h : Byt w g b) : g < w.heap.size := (Array.getElem?_eq_some_iff.1 h).1
theorem Byt.cell {w : World} {g : Nat} {b : BA} (h : Byt w g b) {i : Nat} (hi : i < b.length) : w.cell? ⟨g, i, none⟩ = some (.int .u8 (b.getD i 0).toNat) := by
  refine (cell_of_row _ _ _ _ _ _ h).trans ?_
  simp [List.getD, hi]
theorem Byt.free {w : World} {g : Nat} {b : BA} (h : Byt w g b) (i : Nat) : w.frozen? ⟨g, i, none⟩ = false := frozen_of_row _ _ _ _ _ h
theorem Byt.kept {w w' : World} {g : Nat} {b : BA} (h : Byt w g b) (hb : Below w.heap.size w w') : Byt w' g b := (hb.block _ h.lt).trans h
theorem Byt.heap {w w' : World} {g : Nat} {b : BA} (h : Byt w g b) (hh : w'.heap[g]? = w.heap[g]?) : Byt w' g b := hh.trans h
theorem Byt.set {w : World} {g : Nat} {b : BA} (h : Byt w g b) (i : Nat) (c : UInt8) : Byt (w.setCell ⟨g, i, none⟩ (.int .u8 c.toNat)) g (b.set i c) := by
  unfold Byt at *
  simp only [World.setCell, Array.getElem?_modify, h, if_pos, Option.map_some]
  simp [List.map_set]
theorem Byt.string {w : World} {g : Nat} {b : BA} (h : Byt w g b) : (convert 93 9 (.slice (some ⟨g, 0, none⟩) b.length b.length)).run Try.prog w = .ok (.string (str b)) w :=
  run_convert_bytes_back (P := Try.prog) w 93 9 5 ⟨g, 0, none⟩ b.length b Try.underlying93 Try.underlying5 Try.underlying9 fun j hj => by
    have := h.cell hj
    rw [add_plain, Nat.zero_add, this]
    simp [List.getD, hj]
theorem infoU : (Try.prog.info? 5).map (fun i => (i.zero, i.size, i.bytes)) = some (some (.int .u8 0), 1, 1) := by kernel_rfl
theorem made_ints (n : Nat) : madeCells #[Value.int .i64 0] n = ((List.replicate n (0 : Int)).map (Value.int .i64)).toArray := by
  apply Array.ext'
  apply List.ext_getElem
  · simp [madeCells]
  · intro i h1 h2
    simp [madeCells, Nat.mod_one]
theorem made_bytes (n : Nat) : madeCells #[Value.int .u8 0] n = ((zs n).map fun c => Value.int .u8 c.toNat).toArray := by
  apply Array.ext'
  apply List.ext_getElem
  · simp [madeCells, zs]
  · intro i h1 h2
    simp [madeCells, Nat.mod_one, zs]
/-- make of a table of numbers, of bytes. -/
theorem make_tbl (n : Nat) (hn : n ≤ 1000) (w : World) : ∃ w2, (Instr.makeSlice 63 (.int .i64 n) (.int .i64 n)).run Try.prog w = .ok (.slice (some ⟨w.heap.size, 0, none⟩) n n) w2 ∧ Tbl w2 w.heap.size (List.replicate n 0) ∧ Below w.heap.size w w2 := by
  obtain ⟨i0, hi, hz0, hz1, hz2⟩ := info_parts infoI
  have hmk := run_make (P := Try.prog) w 63 3 i0 _ Try.underlying63 hi hz0 .i64 .i64 (n : Int) (n : Int) (by omega) (Int.le_refl _) (by rw [hz2]; omega) (by omega)
  rw [hz1] at hmk
  simp only [Int.toNat_natCast, Value.cells, Nat.mul_one] at hmk
  refine ⟨_, hmk, ?_, (Below.refl _ _).alloc (Nat.le_refl _) _⟩
  unfold Tbl
  rw [← made_ints]
  exact heap_alloc_new w _
theorem make_byt (n : Nat) (hn : n ≤ 1000) (w : World) : ∃ w2, (Instr.makeSlice 93 (.int .i64 n) (.int .i64 n)).run Try.prog w = .ok (.slice (some ⟨w.heap.size, 0, none⟩) n n) w2 ∧ Byt w2 w.heap.size (zs n) ∧ Below w.heap.size w w2 := by
  obtain ⟨i0, hi, hz0, hz1, hz2⟩ := info_parts infoU
  have hmk := run_make (P := Try.prog) w 93 5 i0 _ Try.underlying93 hi hz0 .i64 .i64 (n : Int) (n : Int) (by omega) (Int.le_refl _) (by rw [hz2]; omega) (by omega)
  rw [hz1] at hmk
  simp only [Int.toNat_natCast, Value.cells, Nat.mul_one] at hmk
  refine ⟨_, hmk, ?_, (Below.refl _ _).alloc (Nat.le_refl _) _⟩
  unfold Byt
  rw [← made_bytes]
  exact heap_alloc_new w _
/-! The small calls. -/
theorem right_any (n : Int) (w : World) : Calls Try.prog 21 #[.int .i64 n] w fun e w' => e = .returned (.bool (rightB n)) ∧ w = w' := by
  by_cases h1 : 2 ≤ n
  · by_cases h2 : n < 64
    · rw [rightB_iff.2 ⟨h1, h2⟩]
      go_enter Try.func21, Try.ntmps21
      go_wp2_with fail
      go_ret
      exact ⟨rfl, rfl⟩
    · rw [rightB_no (fun h => h2 h.2)]
      go_enter Try.func21, Try.ntmps21
      go_wp2_with fail
      go_ret
      exact ⟨rfl, rfl⟩
  · rw [rightB_no (fun h => h1 h.1)]
    go_enter Try.func21, Try.ntmps21
    go_wp2_with fail
    go_ret
    exact ⟨rfl, rfl⟩
def inB (n e : Int) : Bool := decide (0 ≤ n) && decide (n < e)
theorem inB_iff {n e : Int} : inB n e = true ↔ 0 ≤ n ∧ n < e := by simp [inB]
theorem inB_no {n e : Int} (h : ¬ (0 ≤ n ∧ n < e)) : inB n e = false := by
  cases q : inB n e
  · rfl
  · exact absurd (inB_iff.1 q) h
theorem within_any (n m : Int) (w : World) : Calls Try.prog 29 #[.int .i64 n, .int .i64 m] w fun e w' => e = .returned (.bool (inB n m)) ∧ w = w' := by
  by_cases h1 : 0 ≤ n
  · by_cases h2 : n < m
    · rw [inB_iff.2 ⟨h1, h2⟩]
      go_enter Try.func29, Try.ntmps29
      go_wp2_with fail
      go_ret
      exact ⟨rfl, rfl⟩
    · rw [inB_no (fun h => h2 h.2)]
      go_enter Try.func29, Try.ntmps29
      go_wp2_with fail
      go_ret
      exact ⟨rfl, rfl⟩
  · rw [inB_no (fun h => h1 h.1)]
    go_enter Try.func29, Try.ntmps29
    go_wp2_with fail
    go_ret
    exact ⟨rfl, rfl⟩
theorem pow60 {d : Nat} (hd : d ≤ 60) : 2 ^ d ≤ 1152921504606846976 := Nat.le_trans (Nat.pow_le_pow_right (by omega) hd) (by decide)
theorem shl_val (d : Nat) (hd : d ≤ 60) : wrap64 (2 ^ min ((d : Int)).toNat 64) = ((2 ^ d : Nat) : Int) := by
  rw [Int.toNat_natCast, Nat.min_eq_left (by omega)]
  have hp := pow60 hd
  have e : (((2 ^ d : Nat)) : Int) = (2 : Int) ^ d := by rw [Int.natCast_pow]; rfl
  rw [← e]
  generalize 2 ^ d = N at *
  exact IntWalk.wrap64_in _ (by omega)
theorem entries_any (d : Nat) (hd : d ≤ 60) (w : World) : Calls Try.prog 30 #[.int .i64 d] w fun e w' => e = .returned (.int .i64 ((2 ^ d : Nat) : Int)) ∧ w = w' := by
  have SH := Lib.hid (shl_val d hd)
  have h0 : (d : Int) ≥ 0 := by omega
  have h1 : ¬ (d : Int) < 0 := by omega
  generalize ((2 ^ d : Nat) : Int) = N at *
  generalize (d : Int) = D at *
  go_enter Try.func30, Try.ntmps30
  go_wp2_with fail
  go_ret
  refine ⟨?_, rfl⟩
  rw [← SH.out]
  rfl
end Go.Proofs.Ytojfnafahlpjjaa
