/- A sector's byte turned; rows stored whole. -/
import Derived.Test.YtbdpmfgphhgigaaGreatBase
import Derived.Deep.RegionHeld3
import Derived.Laws.StructEq
namespace Go.Proofs.YtbdpmfgphhgigaaGreat
open Go.ChangeShapes Go.WideShapes Go.ChangeAt Go.RowKit
set_option linter.unusedVariables false
set_option linter.unusedSimpArgs false
set_option maxRecDepth 100000
theorem place64 (a : Int) : ∃ k : Nat, k < 64 ∧ wrap64 (a.tmod 64 + 64) = a.tmod 64 + 64 ∧ (a.tmod 64 + 64).tmod 64 = (k : Int) ∧ wrap64 (a.tmod 64) = a.tmod 64 ∧ wrap64 (k : Int) = k := by
  have e1 : a.tmod 64 < 64 := Int.tmod_lt_of_pos a (by omega)
  have e2 : -(64 : Int) < a.tmod 64 := by
    have := Int.tmod_lt_of_pos (-a) (b := (64 : Int)) (by omega)
    rw [Int.neg_tmod] at this
    omega
  generalize a.tmod 64 = x at *
  have e3 : wrap64 (x + 64) = x + 64 := by unfold wrap64; omega
  have e4 : (x + 64).tmod 64 = (((x + 64).toNat % 64 : Nat) : Int) := by
    rw [Int.tmod_eq_emod_of_nonneg (by omega)]
    omega
  have e5 : (x + 64).toNat % 64 < 64 := Nat.mod_lt _ (by omega)
  exact ⟨(x + 64).toNat % 64, e5, e3, e4, by unfold wrap64; omega, by unfold wrap64; omega⟩
theorem near64 (k : Nat) (h : k < 64) : wrap64 ((k : Int) + 1) = (k : Int) + 1 ∧ IntKind.i64.wrap ((k : Int) + 1) = (k : Int) + 1 :=
  ⟨by unfold wrap64; omega, IntWalk.i64_in _ (by omega)⟩
theorem join64 {sA sB sC : ByteArray} {k : Nat} (h : k < 64) (s1 : sA.size = k) (s2 : sB.size = 1) (s3 : sC.size = 64 - (k + 1)) : ¬ 9223372036854775807 < sA.size + sB.size ∧ ¬ 9223372036854775807 < (sA ++ sB).size + sC.size ∧ ¬ 9223372036854775807 < sA.size + sB.size + sC.size := by
  have e : (sA ++ sB).size + sC.size = 64 := by rw [ByteArray.size_append, s1, s2, s3]; omega
  have e1 : sA.size + sB.size ≤ 64 := by rw [s1, s2]; omega
  have e2 : sA.size + sB.size + sC.size = 64 := by rw [s1, s2, s3]; omega
  rw [e, e2]
  refine ⟨fun g => ?_, by decide, by decide⟩
  exact absurd (Nat.lt_of_lt_of_le g e1) (by decide)
theorem placeL (a : Int) (m : Nat) (h0 : 0 < m) (h1 : m ≤ 1000000) : ∃ k : Nat, k < m ∧ (wrap64 (a.tmod m + m)).tmod m = (k : Int) ∧ wrap64 (a.tmod m + m) = a.tmod m + m ∧ (a.tmod m + m).tmod m = (k : Int) ∧ wrap64 (a.tmod m) = a.tmod m ∧ wrap64 (k : Int) = k := by
  have e1 : a.tmod m < m := Int.tmod_lt_of_pos a (by omega)
  have e2 : -(m : Int) < a.tmod m := by
    have := Int.tmod_lt_of_pos (-a) (b := (m : Int)) (by omega)
    rw [Int.neg_tmod] at this
    omega
  generalize a.tmod m = x at *
  have e3 : wrap64 (x + m) = x + m := by unfold wrap64; omega
  have e4 : (x + m).tmod m = (((x + m).toNat % m : Nat) : Int) := by
    rw [Int.tmod_eq_emod_of_nonneg (by omega)]
    rw [Int.natCast_emod, Int.toNat_of_nonneg (by omega)]
  have e5 : (x + m).toNat % m < m := Nat.mod_lt _ h0
  exact ⟨(x + m).toNat % m, e5, by rw [e3]; exact e4, e3, e4, by unfold wrap64; omega, by unfold wrap64; omega⟩
def patch (l : BA) (k : Nat) (c : UInt8) : BA := l.take k ++ c :: l.drop (k + 1)
theorem patch_length {l : BA} {k : Nat} (h : k < l.length) (c : UInt8) : (patch l k c).length = l.length := by
  simp [patch]; omega
theorem patch_ne {l : BA} {k : Nat} (h : k < l.length) {c : UInt8} (hc : c ≠ l.getD k 0) : patch l k c ≠ l := by
  intro e
  apply hc
  have : (patch l k c).getD k 0 = c := by
    unfold patch
    rw [List.getD_eq_getElem?_getD, List.getElem?_append_right (by rw [List.length_take]; omega), List.length_take, show k - min k l.length = 0 by omega]
    rfl
  rw [e] at this
  exact this.symm
theorem turned_ne {x : Sx} (hx : okX x = true) {k : Nat} (h : k < (encX x).length) {c : UInt8} (hc : c ≠ (encX x).getD k 0) (hg : getOkX (patch (encX x) k c) = true) : gotX (patch (encX x) k c) ≠ x :=
  turnX hx (patch_ne h hc) hg
theorem str_join (a b : BA) : str a ++ str b = str (a ++ b) := by
  apply ByteArray.ext
  apply Array.ext'
  simp [str]
theorem xor_u8 (x y : UInt8) : bits .xor .u8 (x.toNat : Int) (y.toNat : Int) = ((x ^^^ y).toNat : Int) := by
  show IntKind.u8.wrap ((BitVec.ofInt 8 (x.toNat : Int) ^^^ BitVec.ofInt 8 (y.toNat : Int)).toNat : Int) = _
  rw [BitVec.ofInt_natCast, BitVec.ofInt_natCast, BitVec.toNat_xor, BitVec.toNat_ofNat, BitVec.toNat_ofNat, Nat.mod_eq_of_lt x.toNat_lt, Nat.mod_eq_of_lt y.toNat_lt, UInt8.toNat_xor]
  have h : x.toNat ^^^ y.toNat < 256 := by rw [← UInt8.toNat_xor]; exact UInt8.toNat_lt _
  exact IntWalk.u8_in _ (by omega)
theorem xor_ne (x y : UInt8) (hy : y ≠ 0) : x ^^^ y ≠ x := by
  intro h
  apply hy
  have : x ^^^ (x ^^^ y) = 0 := by rw [h]; exact UInt8.xor_self
  rwa [← UInt8.xor_assoc, UInt8.xor_self, UInt8.zero_xor] at this
theorem u8_of_int (b : Int) (h : (Lit.int .u8 b).wf = true) : ∃ c : UInt8, b = (c.toNat : Int) := by
  have h2 : 0 ≤ b ∧ b ≤ 255 := by
    simp [Lit.wf, IntKind.min, IntKind.max, IntKind.signed, IntKind.bits] at h
    omega
  refine ⟨byte b, ?_⟩
  rw [byte_toNat b h2.1]
  omega
theorem run_ixs (b : ByteArray) (i : Nat) (hi : i < b.size) (w : World) : (Instr.index 9 (.string b) (.int .i64 i)).run Tryz.prog w = .ok (.int .u8 ((b.data.toList.getD i 0).toNat : Int)) w := by
  rw [run_index_string w 9 b .i64 (i : Int) Tryz.underlying9, dif_pos ⟨by omega, by omega⟩]
  have e : b[((i : Int)).toNat]'(by omega) = b.data.toList.getD i 0 := by
    rw [List.getD_eq_getElem?_getD, List.getElem?_eq_getElem (by simpa using hi)]
    rfl
  rw [e]
theorem extract_is (s : ByteArray) (i j : Nat) : s.extract i j = str ((s.data.toList.take j).drop i) := by
  apply ByteArray.ext
  apply Array.ext'
  simp [str, ByteArray.data_extract, List.drop_take]
theorem run_slice_hi (s : ByteArray) (m : Nat) (hm : m ≤ s.size) (w : World) : (Instr.slice 9 (.string s) none (some (.int .i64 (m : Int))) none).run Tryz.prog w = .ok (.string (str (s.data.toList.take m))) w := by
  rw [run_slice_string_h (P := Tryz.prog) w 9 s Tryz.underlying9 .i64 (m : Int) (by omega) (by omega), extract_is, Int.toNat_natCast]
  rfl
theorem run_slice_lo (s : ByteArray) (m : Nat) (hm : m ≤ s.size) (w : World) : (Instr.slice 9 (.string s) (some (.int .i64 (m : Int))) none none).run Tryz.prog w = .ok (.string (str (s.data.toList.drop m))) w := by
  rw [run_slice_string_l (P := Tryz.prog) w 9 s Tryz.underlying9 .i64 (m : Int) (by omega) (by omega), extract_is, Int.toNat_natCast, List.take_of_length_le (by rw [size_data]; omega)]
section
variable {P : Program}
theorem step_store_row {ops : Array Oper} {o : Oper} {a : Act} {w : World} {K : Act → World → Prop} {Q : Exit → Act → World → Prop} {E : Prop} (hgd : o.guard = none) (ty : TypeId) (x y : Operand) (ho : o.op = .store ty x y)
    (g : Nat) (cells : Array Value) (hx : a.eval x = .pointer (some ⟨g, 0, none⟩)) (hy : a.eval y = .agg cells)
    (t : TypeId) (old : Array Value) (hg : Bx w g old t) (hi : (P.info? ty).map (·.size) = some cells.size)
    (hold : old.size = cells.size) (h1 : cells.all (·.oneCell') = true)
    (h : K (a.put o.dst undef) (w.setRow g cells)) : if Region.wanted o (yielded ops a.tmps) = true then Oper.wp P o a w K Q else E := by
  have hw : Region.wanted o (yielded ops a.tmps) = true := by simp [Region.wanted, hgd]
  rw [if_pos hw]
  exact wp_store_row ty x y ho g cells hx hy t old hg hi hold h1 h
end
theorem Bx.row {w : World} {B : Nat} {cs : Array Value} {t : TypeId} (h : Bx w B cs t) (ds : Array Value) : Bx (w.setRow B ds) B ds t := setRow_heap w B _ _ _ _ h
theorem srow_other (w : World) (B k : Nat) (ds : Array Value) (h : k ≠ B) : (w.setRow B ds).heap[k]? = w.heap[k]? := by
  simp [World.setRow, Array.getElem?_modify, Ne.symm h]
theorem row_size (w : World) (B : Nat) (ds : Array Value) : (w.setRow B ds).heap.size = w.heap.size := by simp [World.setRow]
theorem Bx.orow {w : World} {B D : Nat} {cs : Array Value} {t : TypeId} (h : Bx w B cs t) (hne : B ≠ D) (ds : Array Value) : Bx (w.setRow D ds) B cs t := (srow_other w D B ds hne).trans h
theorem below_srow {C B : Nat} {w0 w : World} {ds : Array Value} (h : Below C w0 w) (hB : C ≤ B) : Below C w0 (w.setRow B ds) :=
  ⟨h.os, h.tape, h.output, by rw [row_size]; exact h.size, fun k hk => (srow_other w B k ds (by omega)).trans (h.block k hk)⟩
/-- One byte, as a string. -/
theorem convert1 {X : World} {B : Nat} {c : UInt8} (hx : X.heap[B]? = some (.cells #[.int .u8 (c.toNat : Int)] 5 (0, 0))) (w : World) (h : Held X w) :
    (convert 64 9 (.slice (some ⟨B, 0, none⟩) 1 1)).run Tryz.prog w = .ok (.string (str [c])) w := by
  rw [show str [c] = strOfNums [(c.toNat : Int)] from by simp [str, strOfNums]]
  have hw : w.heap[B]? = _ := (Below.block h B (Array.getElem?_eq_some_iff.1 hx).1).trans hx
  refine run_convert_bytes_arg w 64 5 Tryz.underlying64 Tryz.underlying5 B 0 1 1 _ rfl (fun i hi => ?_) 9 Tryz.underlying9
  obtain rfl : i = 0 := by omega
  rw [cell_of_row _ _ _ _ _ _ hw, Nat.zero_add]
  rfl
/-- Behind V: all that was there stands; and block g holds one byte. -/
def HR (V : World) (g : Nat) (c : UInt8) (w : World) : Prop := Held V w ∧ w.heap[g]? = some (.cells #[.int .u8 (c.toNat : Int)] 5 (0, 0))
theorem HR.lt {V w : World} {g : Nat} {c : UInt8} (h : HR V g c w) : g < w.heap.size := (Array.getElem?_eq_some_iff.1 h.2).1
theorem HR.step {V w w' : World} {g : Nat} {c : UInt8} (h : HR V g c w) (hb : Below w.heap.size w w') : HR V g c w' := ⟨Held.step h.1 hb, (hb.block g h.lt).trans h.2⟩
theorem HR.row {V w : World} {g b : Nat} {c : UInt8} (h : HR V g c w) (hB : V.heap.size ≤ b) (hne : g ≠ b) (ds : Array Value) : HR V g c (w.setRow b ds) := by
  refine ⟨below_srow h.1 hB, ?_⟩
  rw [srow_other w b g ds hne]
  exact h.2
theorem HR.alloc {V w : World} {g : Nat} {c : UInt8} (h : HR V g c w) (o : Obj) : HR V g c (w.alloc o) := h.step ((Below.refl _ _).alloc (Nat.le_refl _) o)
theorem HR.convert {V w : World} {g : Nat} {c : UInt8} (h : HR V g c w) : (convert 64 9 (.slice (some ⟨g, 0, none⟩) 1 1)).run Tryz.prog w = .ok (.string (str [c])) w := convert1 h.2 w (Below.refl _ _)
theorem wpAnyH_mono {P : Program} {md : Region.Mode} {ops : Array Oper} {Q : Exit → Act → World → Prop} {S S' : World → Prop} (hS : ∀ w, S' w → S w) : ∀ {fuel : Nat} {listed : Array Bool} {a : Act} {w : World}, wpAnyH P md ops Q S' fuel listed a w → wpAnyH P md ops Q S fuel listed a w
  | 0, _, _, _, h => h
  | fuel + 1, _, _, _, h => ⟨h.1, fun i hi => wpOp_mono (fun a' w' h' => ⟨hS _ h'.1, wpAnyH_mono hS h'.2⟩) (h.2 i hi)⟩
def eqX (x y : Sx) : Bool := decide (x.ep = y.ep) && (decide (x.ix = y.ix) && (decide (x.fr = y.fr) && decide (x.pl = y.pl)))
theorem eqX_iff (x y : Sx) : eqX x y = true ↔ x = y := by
  obtain ⟨a0, a1, a2, a3⟩ := x
  obtain ⟨b0, b1, b2, b3⟩ := y
  simp [eqX]
theorem eqX_refl (x : Sx) : eqX x x = true := (eqX_iff x x).2 rfl
theorem eqX_not {x y : Sx} (h : x ≠ y) : eqX x y = false := by
  cases e : eqX x y with
  | false => rfl
  | true => exact absurd ((eqX_iff x y).1 e) h
theorem eq_sec (x y : Sx) (w : World) : (binOp .eql 23 (.agg #[.int .i64 x.ep, .int .i64 x.ix, .bool x.fr, .string (str x.pl)]) (.agg #[.int .i64 y.ep, .int .i64 y.ix, .bool y.fr, .string (str y.pl)])).run Tryz.prog w = .ok (.bool (eqX x y)) w := by
  have u3 := Tryz.underlying3
  have a3' := Tryz.isAgg3
  have z3' := Tryz.sizeOf3
  have u4 := Tryz.underlying4
  have a4 := Tryz.isAgg4
  have z4 := Tryz.sizeOf4
  have u9 := Tryz.underlying9
  have a9 := Tryz.isAgg9
  have z9 := Tryz.sizeOf9
  have hS : Tryz.prog.underlying 23 = some (.struct (Tryz.prog.fieldsOf 23)) := by kernel_rfl
  have hp : Tryz.prog.stoodInHeld 23 = false := by kernel_rfl
  rw [run_eql_struct, show (10000 : Nat) = 9999 + 1 from rfl, run_equalIn_agg w 9999 23 _ _ hS hp]
  simp only [Program.fieldsOf, Tryz.underlying23]
  obtain ⟨a0, a1, a2, a3⟩ := x
  obtain ⟨b0, b1, b2, b3⟩ := y
  have h1 : (str a3).toList = a3 := by rw [Lib.toList_data, str_toList]
  have h2 : (str b3).toList = b3 := by rw [Lib.toList_data, str_toList]
  unfold eqX
  dsimp only
  go_simp
  by_cases g0 : a0 = b0 <;> by_cases g1 : a1 = b1 <;> by_cases g2 : a2 = b2 <;> by_cases g3 : a3 = b3 <;> simp [g0, g1, g2, g3, h1, h2]
theorem neq_sec (x y : Sx) (w : World) : (binOp .neq 23 (.agg #[.int .i64 x.ep, .int .i64 x.ix, .bool x.fr, .string (str x.pl)]) (.agg #[.int .i64 y.ep, .int .i64 y.ix, .bool y.fr, .string (str y.pl)])).run Tryz.prog w = .ok (.bool (!eqX x y)) w := by
  have h := eq_sec x y w
  rw [run_eql_struct] at h
  rw [run_neq_struct]
  generalize (Op.equalIn 10000 23 (.agg #[.int .i64 x.ep, .int .i64 x.ix, .bool x.fr, .string (str x.pl)]) (.agg #[.int .i64 y.ep, .int .i64 y.ix, .bool y.fr, .string (str y.pl)])).run Tryz.prog w = r at *
  cases r with
  | ok b w' =>
    simp only [Result.andThen_ok, Result.ok.injEq, Value.bool.injEq] at h ⊢
    exact ⟨by rw [h.1], h.2⟩
  | _ => simp [Result.andThen] at h
end Go.Proofs.YtbdpmfgphhgigaaGreat
