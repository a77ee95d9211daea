/- The library's contracts at this program: strings.Repeat, strings.Builder. A builder of a call's own: its bytes. -/
import Derived.Test.YtoladghpoddlgaaMem
import Derived.Shelf.Lays
import Derived.Shelf.Strings.Repeat
import Derived.Shelf.Strings.Builder1
namespace Go.Proofs
open Go.Shelf
def Try.repL_ren : Go.Shelf.Ren := ⟨fun | 105 => 72 | 212 => 91 | 99 => 92 | 165 => 93 | 166 => 32 | 170 => 30 | 169 => 33 | 263 => 97 | 264 => 98 | 206 => 99 | 240 => 73 | 241 => 100 | 276 => 94 | 277 => 101 | n => n, fun | 9 => 9 | 3 => 3 | 4 => 4 | 20 => 20 | 0 => 0 | 46 => 126 | 109 => 127 | 5 => 5 | 72 => 63 | 76 => 68 | 51 => 135 | 146 => 136 | 53 => 138 | 148 => 139 | 70 => 61 | 37 => 54 | 75 => 67 | 127 => 91 | 164 => 131 | 80 => 70 | n => n, fun | n => n⟩
theorem Try.repL : Go.Proofs.Lays.n105 Try.prog Try.repL_ren := {
  mixed := by kernel_rfl
  f99 := Try.func92.trans (congrArg some (by kernel_rfl))
  f105 := Try.func72.trans (congrArg some (by kernel_rfl))
  f165 := Try.func93.trans (congrArg some (by kernel_rfl))
  f166 := Try.func32.trans (congrArg some (by kernel_rfl))
  f169 := Try.func33.trans (congrArg some (by kernel_rfl))
  f170 := Try.func30.trans (congrArg some (by kernel_rfl))
  f206 := Try.func99.trans (congrArg some (by kernel_rfl))
  f212 := Try.func91.trans (congrArg some (by kernel_rfl))
  f240 := Try.func73.trans (congrArg some (by kernel_rfl))
  f241 := Try.func100.trans (congrArg some (by kernel_rfl))
  f263 := Try.func97.trans (congrArg some (by kernel_rfl))
  f264 := Try.func98.trans (congrArg some (by kernel_rfl))
  f276 := Try.func94.trans (congrArg some (by kernel_rfl))
  f277 := Try.func101.trans (congrArg some (by kernel_rfl))
  t0 := Try.underlying0
  a0 := Try.isAgg0
  z0 := Try.sizeOf0
  v0 := Try.zeroValue0
  t3 := Try.underlying3
  a3 := Try.isAgg3
  z3 := Try.sizeOf3
  v3 := Try.zeroValue3
  t4 := Try.underlying4
  a4 := Try.isAgg4
  z4 := Try.sizeOf4
  v4 := Try.zeroValue4
  t5 := Try.underlying5
  a5 := Try.isAgg5
  z5 := Try.sizeOf5
  v5 := Try.zeroValue5
  t9 := Try.underlying9
  a9 := Try.isAgg9
  z9 := Try.sizeOf9
  v9 := Try.zeroValue9
  t20 := Try.underlying20
  a20 := Try.isAgg20
  z20 := Try.sizeOf20
  v20 := Try.zeroValue20
  t37 := Try.underlying54
  a37 := Try.isAgg54
  z37 := Try.sizeOf54
  v37 := Try.zeroValue54
  t46 := Try.underlying126
  a46 := Try.isAgg126
  z46 := Try.sizeOf126
  v46 := Try.zeroValue126
  t51 := Try.underlying135
  a51 := Try.isAgg135
  z51 := Try.sizeOf135
  v51 := Try.zeroValue135
  t53 := Try.underlying138
  a53 := Try.isAgg138
  z53 := Try.sizeOf138
  v53 := Try.zeroValue138
  t70 := Try.underlying61
  a70 := Try.isAgg61
  z70 := Try.sizeOf61
  v70 := Try.zeroValue61
  t72 := Try.underlying63
  a72 := Try.isAgg63
  z72 := Try.sizeOf63
  v72 := Try.zeroValue63
  t75 := Try.underlying67
  a75 := Try.isAgg67
  z75 := Try.sizeOf67
  v75 := Try.zeroValue67
  t76 := Try.underlying68
  a76 := Try.isAgg68
  z76 := Try.sizeOf68
  v76 := Try.zeroValue68
  t109 := Try.underlying127
  a109 := Try.isAgg127
  z109 := Try.sizeOf127
  v109 := Try.zeroValue127
  t127 := Try.underlying91
  a127 := Try.isAgg91
  z127 := Try.sizeOf91
  v127 := Try.zeroValue91
  t146 := Try.underlying136
  a146 := Try.isAgg136
  z146 := Try.sizeOf136
  v146 := Try.zeroValue136
  t148 := Try.underlying139
  a148 := Try.isAgg139
  z148 := Try.sizeOf139
  v148 := Try.zeroValue139
  t164 := Try.underlying131
  a164 := Try.isAgg131
  z164 := Try.sizeOf131
  v164 := Try.zeroValue131 }
theorem Try.repX : Builder.Extra Try.prog Try.repL_ren := {
  sizeBuilder := by kernel_rfl
  liesBuilder := by kernel_rfl
  t5 := Try.underlying5
  a5 := Try.isAgg5
  z5 := Try.sizeOf5
  v5 := Try.zeroValue5
  infoByte := by kernel_rfl
  cellsByte := by kernel_rfl
  sizeByte := by kernel_rfl
  neB5 := by decide }
theorem Try.bwrL : Lays.n166 Try.prog Try.repL_ren := {
  mixed := Try.repL.mixed,
  f166 := Try.repL.f166,
  f240 := Try.repL.f240,
  f276 := Try.repL.f276,
  t0 := Try.repL.t0,
  a0 := Try.repL.a0,
  z0 := Try.repL.z0,
  v0 := Try.repL.v0,
  t3 := Try.repL.t3,
  a3 := Try.repL.a3,
  z3 := Try.repL.z3,
  v3 := Try.repL.v3,
  t4 := Try.repL.t4,
  a4 := Try.repL.a4,
  z4 := Try.repL.z4,
  v4 := Try.repL.v4,
  t9 := Try.repL.t9,
  a9 := Try.repL.a9,
  z9 := Try.repL.z9,
  v9 := Try.repL.v9,
  t20 := Try.repL.t20,
  a20 := Try.repL.a20,
  z20 := Try.repL.z20,
  v20 := Try.repL.v20,
  t37 := Try.repL.t37,
  a37 := Try.repL.a37,
  z37 := Try.repL.z37,
  v37 := Try.repL.v37,
  t70 := Try.repL.t70,
  a70 := Try.repL.a70,
  z70 := Try.repL.z70,
  v70 := Try.repL.v70,
  t72 := Try.repL.t72,
  a72 := Try.repL.a72,
  z72 := Try.repL.z72,
  v72 := Try.repL.v72,
  t75 := Try.repL.t75,
  a75 := Try.repL.a75,
  z75 := Try.repL.z75,
  v75 := Try.repL.v75,
  t164 := Try.repL.t164,
  a164 := Try.repL.a164,
  z164 := Try.repL.z164,
  v164 := Try.repL.v164 }
theorem Try.bstL : Lays.n169 Try.prog Try.repL_ren := {
  mixed := Try.repL.mixed,
  f169 := Try.repL.f169,
  t0 := Try.repL.t0,
  a0 := Try.repL.a0,
  z0 := Try.repL.z0,
  v0 := Try.repL.v0,
  t3 := Try.repL.t3,
  a3 := Try.repL.a3,
  z3 := Try.repL.z3,
  v3 := Try.repL.v3,
  t9 := Try.repL.t9,
  a9 := Try.repL.a9,
  z9 := Try.repL.z9,
  v9 := Try.repL.v9,
  t37 := Try.repL.t37,
  a37 := Try.repL.a37,
  z37 := Try.repL.z37,
  v37 := Try.repL.v37,
  t70 := Try.repL.t70,
  a70 := Try.repL.a70,
  z70 := Try.repL.z70,
  v70 := Try.repL.v70,
  t72 := Try.repL.t72,
  a72 := Try.repL.a72,
  z72 := Try.repL.z72,
  v72 := Try.repL.v72,
  t127 := Try.repL.t127,
  a127 := Try.repL.a127,
  z127 := Try.repL.z127,
  v127 := Try.repL.v127 }
theorem Try.blnL : Lays.n170 Try.prog Try.repL_ren := {
  mixed := Try.repL.mixed,
  f170 := Try.repL.f170,
  t0 := Try.repL.t0,
  a0 := Try.repL.a0,
  z0 := Try.repL.z0,
  v0 := Try.repL.v0,
  t3 := Try.repL.t3,
  a3 := Try.repL.a3,
  z3 := Try.repL.z3,
  v3 := Try.repL.v3,
  t37 := Try.repL.t37,
  a37 := Try.repL.a37,
  z37 := Try.repL.z37,
  v37 := Try.repL.v37,
  t70 := Try.repL.t70,
  a70 := Try.repL.a70,
  z70 := Try.repL.z70,
  v70 := Try.repL.v70,
  t72 := Try.repL.t72,
  a72 := Try.repL.a72,
  z72 := Try.repL.z72,
  v72 := Try.repL.v72 }
end Go.Proofs
namespace Go.Proofs.Ytoladghpoddlgaa
open Go.ChangeShapes Go.WideShapes Go.ChangeAt Go.RowKit Go.Shelf
set_option linter.unusedVariables false
set_option linter.unusedSimpArgs false
set_option maxRecDepth 100000
theorem repeat_one (c : UInt8) : ∀ n : Nat, Lib.repeatL [c] n = List.replicate n c
  | 0 => rfl
  | n + 1 => by rw [Lib.repeatL, repeat_one c n]; simp [List.replicate_succ]
theorem repeat_any (n : Nat) (hn : n ≤ 1000) (w : World) : Calls Try.prog 72 #[.string ⟨#[0]⟩, .int .i64 n] w fun e w' => e = .returned (.string (str (zs n))) ∧ Below w.heap.size w w' := by
  have h := Any.strings_Repeat Try.repL Try.repX ⟨#[0]⟩ n w (by omega) (by show 1 * n ≤ _; omega)
  rw [show (ByteArray.mk #[0]).data.toList = [0] from rfl, repeat_one] at h
  change Calls Try.prog 72 _ _ _ at h
  exact h
/-- A builder that a call has made, at B: the bytes d. -/
def Bld (w : World) (B : Nat) (d : BA) : Prop := Lib.IsBuilder 63 5 B B (Lib.byteCells d) w
theorem Bld.new (w : World) : Bld (w.alloc (.cells #[.pointer none, .slice none 0 0] 63)) w.heap.size [] :=
  .inl ⟨Nat.le_refl _, _, heap_alloc_new w _, World.ownsRow_nil _ _ _ _, by simp [Value.ownBlock]⟩
theorem bldAt_kept {T e B b : Nat} {p : Value} {bs : List Value} {w w' : World} (h : Lib.BuilderAt T e B b p bs w) (hb : Below w.heap.size w w') : Lib.BuilderAt T e B b p bs w' := by
  obtain ⟨h1, v, h2, h3, h4⟩ := h
  exact ⟨h1, v, (hb.block b (Array.getElem?_eq_some_iff.1 h2).1).trans h2, owns_kept2 h3 fun g hg => hb.block g (h3.lt g hg).2, h4⟩
theorem Bld.kept {w w' : World} {B : Nat} {d : BA} (h : Bld w B d) (hb : Below w.heap.size w w') : Bld w' B d := by
  rcases h with h | h
  · exact .inl (bldAt_kept h hb)
  · exact .inr (bldAt_kept h hb)
theorem Bld.lt {w : World} {B : Nat} {d : BA} (h : Bld w B d) : B < w.heap.size := by
  rcases h with h | h <;> exact h.lt
theorem cells_length (d : BA) : (Lib.byteCells d).length = d.length := by simp [Lib.byteCells]
theorem cells_append (d e : BA) : Lib.byteCells d ++ Lib.strCells (str e) = Lib.byteCells (d ++ e) := by
  simp [Lib.byteCells, Lib.strCells, str]
theorem bwrite_any {B : Nat} {d : BA} (e : BA) (w : World) (h : Bld w B d) (hl : d.length + e.length ≤ 100000) : Calls Try.prog 32 #[.pointer (some ⟨B, 0, none⟩), .string (str e)] w fun q w' => q = .returned (.tuple #[.int .i64 e.length, .nilIface]) ∧ Bld w' B (d ++ e) ∧ Below B w w' := by
  have := Any.Builder_WriteString Try.bwrL Try.repX B B (Lib.byteCells d) (str e) w h (by rw [cells_length, str_size]; omega) (Nat.le_of_lt h.lt)
  change Calls Try.prog 32 _ _ _ at this
  refine this.mono fun q w' ⟨h1, h2, h3⟩ => ⟨by rw [h1, str_size], .inr ?_, h3⟩
  rw [cells_append] at h2
  exact h2
theorem blen_any {B : Nat} {d : BA} (w : World) (h : Bld w B d) : Calls Try.prog 30 #[.pointer (some ⟨B, 0, none⟩)] w fun q w' => q = .returned (.int .i64 d.length) ∧ w = w' := by
  have := Any.Builder_Len Try.blnL B B (Lib.byteCells d) w h
  change Calls Try.prog 30 _ _ _ at this
  refine this.mono fun q w' ⟨h1, h2⟩ => ⟨by rw [h1, cells_length], h2.symm⟩
theorem bstring_any {B : Nat} {d : BA} (w : World) (h : Bld w B d) : Calls Try.prog 33 #[.pointer (some ⟨B, 0, none⟩)] w fun q w' => q = .returned (.string (str d)) ∧ Below B w w' := by
  have := Any.Builder_String_any Try.bstL Try.repX B B d w h (Nat.le_of_lt h.lt)
  change Calls Try.prog 33 _ _ _ at this
  exact this
end Go.Proofs.Ytoladghpoddlgaa
