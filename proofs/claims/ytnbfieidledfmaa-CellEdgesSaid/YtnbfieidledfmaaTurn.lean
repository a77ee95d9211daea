/- A byte put in the place of another one. -/
import Derived.Test.YtnbfieidledfmaaBase
import Derived.Deep.RegionHeld3
namespace Go.Proofs.Ytnbfieidledfmaa
open Go.ChangeShapes Go.WideShapes Go.ChangeAt Go.RowKit
set_option linter.unusedVariables false
set_option linter.unusedSimpArgs false
/-- The place that a number leads to, of m. -/
theorem place (a : Int) (m : Nat) (h0 : 0 < m) (h1 : m ≤ 1000) : ∃ k : Nat, k < m ∧ (wrap64 (a.tmod m + m)).tmod m = (k : Int) := by
  have e1 : a.tmod m < m := Int.tmod_lt_of_pos a (by omega)
  have e2 : -(m : Int) < a.tmod m := by
    have := Int.tmod_lt_of_pos (-a) (b := (m : Int)) (by omega)
    rw [Int.neg_tmod] at this
    omega
  generalize a.tmod m = x at *
  have e3 : wrap64 (x + m) = x + m := by unfold wrap64; omega
  refine ⟨(x + m).toNat % m, Nat.mod_lt _ h0, ?_⟩
  rw [e3, Int.tmod_eq_emod_of_nonneg (by omega)]
  rw [Int.natCast_emod, Int.toNat_of_nonneg (by omega)]
def patch (l : BA) (k : Nat) (c : UInt8) : BA := l.take k ++ c :: l.drop (k + 1)
theorem patch_length {l : BA} {k : Nat} (h : k < l.length) (c : UInt8) : (patch l k c).length = l.length := by
  simp [patch]; omega
theorem patch_at {l : BA} {k : Nat} (h : k < l.length) (c : UInt8) (j : Nat) : (patch l k c).getD j 0 = if j = k then c else l.getD j 0 := by
  unfold patch
  rw [List.getD_eq_getElem?_getD, List.getElem?_append]
  have hl : (l.take k).length = k := by rw [List.length_take]; omega
  rw [hl]
  by_cases e : j < k
  · rw [if_pos e, if_neg (by omega), List.getElem?_take, if_pos e, List.getD_eq_getElem?_getD]
  · rw [if_neg e]
    by_cases e2 : j = k
    · rw [if_pos e2, e2, Nat.sub_self]; rfl
    · rw [if_neg e2, show j - k = (j - k - 1) + 1 by omega, List.getElem?_cons_succ, List.getElem?_drop, List.getD_eq_getElem?_getD, show k + 1 + (j - k - 1) = j by omega]
theorem patch_same {l : BA} {k : Nat} (h : k < l.length) {c : UInt8} (hc : l.getD k 0 = c) : patch l k c = l := by
  have hk : l[k] = c := by rw [← hc, List.getD_eq_getElem?_getD, List.getElem?_eq_getElem h]; rfl
  unfold patch
  rw [← hk, ← List.drop_eq_getElem_cons h, List.take_append_drop]
theorem extract_str2 (l : BA) (i n : Nat) (h : l.length ≤ n) : (str l).extract i n = str (l.drop i) := by
  apply ByteArray.ext
  apply Array.ext'
  simp [str, ByteArray.data_extract]
  rw [List.take_of_length_le (by rw [List.length_drop]; omega)]
theorem patch_str (l : BA) (k n : Nat) (h : l.length ≤ n) (c : UInt8) : ((str l).extract 0 k ++ str [c]) ++ (str l).extract (k + 1) n = str (patch l k c) := by
  rw [extract_str, extract_str2 l _ _ h, str_append, str_append]
  simp only [str_toList, patch, List.append_assoc, List.cons_append, List.nil_append, List.drop_zero, Nat.sub_zero]
def u8 (x : Int) : UInt8 := UInt8.ofNat x.toNat
theorem u8_toNat {x : Int} (h0 : 0 ≤ x) (h1 : x ≤ 255) : ((u8 x).toNat : Int) = x := by
  unfold u8
  rw [UInt8.toNat_ofNat']
  omega
theorem u8_of_int (b : Int) (h : (Lit.int .u8 b).wf = true) : ∃ c : UInt8, b = (c.toNat : Int) := by
  have h2 : 0 ≤ b ∧ b ≤ 255 := by
    simp [Lit.wf, IntKind.min, IntKind.max, IntKind.signed, IntKind.bits] at h
    omega
  exact ⟨u8 b, (u8_toNat h2.1 h2.2).symm⟩
/-- One byte, as a string. -/
theorem convert1 {X : World} {B : Nat} {c : UInt8} (hx : X.heap[B]? = some (.cells #[.int .u8 (c.toNat : Int)] 5 (0, 0))) (w : World) (h : Held X w) :
    (convert 34 9 (.slice (some ⟨B, 0, none⟩) 1 1)).run Try.prog w = .ok (.string (str [c])) w := by
  rw [← strOfNums_bytes]
  have hw : w.heap[B]? = _ := (Below.block h B (Array.getElem?_eq_some_iff.1 hx).1).trans hx
  refine run_convert_bytes_arg w 34 5 Try.underlying34 Try.underlying5 B 0 1 1 _ rfl (fun i hi => ?_) 9 Try.underlying9
  obtain rfl : i = 0 := by omega
  rw [cell_of_row _ _ _ _ _ _ hw, Nat.zero_add]
  rfl
/-- Behind V: all that was there stands; and block g holds one byte. -/
def HR (V : World) (g : Nat) (c : UInt8) (w : World) : Prop := Held V w ∧ w.heap[g]? = some (.cells #[.int .u8 (c.toNat : Int)] 5 (0, 0))
theorem HR.lt {V w : World} {g : Nat} {c : UInt8} (h : HR V g c w) : g < w.heap.size := (Array.getElem?_eq_some_iff.1 h.2).1
theorem HR.step {V w w' : World} {g : Nat} {c : UInt8} (h : HR V g c w) (hb : Below w.heap.size w w') : HR V g c w' := ⟨Held.step h.1 hb, (hb.block g h.lt).trans h.2⟩
theorem HR.alloc {V w : World} {g : Nat} {c : UInt8} (h : HR V g c w) (o : Obj) : HR V g c (w.alloc o) := h.step ((Below.refl _ _).alloc (Nat.le_refl _) o)
theorem HR.convert {V w : World} {g : Nat} {c : UInt8} (h : HR V g c w) : (convert 34 9 (.slice (some ⟨g, 0, none⟩) 1 1)).run Try.prog w = .ok (.string (str [c])) w := convert1 h.2 w (Below.refl _ _)
theorem u8_in {x : Int} (h0 : 0 ≤ x) (h1 : x ≤ 255) : IntKind.u8.wrap x = x := by
  unfold IntKind.wrap
  simp [IntKind.bits, IntKind.signed]
  omega
theorem run_ix (b : ByteArray) (i : Nat) (hi : i < b.size) (w : World) : (Instr.index 9 (.string b) (.int .i64 i)).run Try.prog w = .ok (.int .u8 ((b.data.toList.getD i 0).toNat : Int)) w := by
  rw [run_index_string w 9 b .i64 (i : Int) Try.underlying9, dif_pos ⟨by omega, by omega⟩]
  have e : b[((i : Int)).toNat]'(by omega) = b.data.toList.getD i 0 := by
    rw [List.getD_eq_getElem?_getD, List.getElem?_eq_getElem (by simpa using hi)]
    rfl
  rw [e]
theorem xor_u8 (x y : UInt8) : bits .xor .u8 (x.toNat : Int) (y.toNat : Int) = ((x ^^^ y).toNat : Int) := by
  show IntKind.u8.wrap ((BitVec.ofInt 8 (x.toNat : Int) ^^^ BitVec.ofInt 8 (y.toNat : Int)).toNat : Int) = _
  rw [BitVec.ofInt_natCast, BitVec.ofInt_natCast, BitVec.toNat_xor, BitVec.toNat_ofNat, BitVec.toNat_ofNat, Nat.mod_eq_of_lt x.toNat_lt, Nat.mod_eq_of_lt y.toNat_lt, UInt8.toNat_xor]
  have h : x.toNat ^^^ y.toNat < 256 := by rw [← UInt8.toNat_xor]; exact UInt8.toNat_lt _
  exact u8_in (by omega) (by omega)
theorem xor_ne {x y : UInt8} (hy : y ≠ 0) : x ^^^ y ≠ x := by
  intro h
  have h2 : x ^^^ (x ^^^ y) = x ^^^ x := by rw [h]
  rw [← UInt8.xor_assoc, UInt8.xor_self, UInt8.zero_xor] at h2
  exact hy h2
theorem wpAnyH_mono {P : Program} {md : Region.Mode} {ops : Array Oper} {Q : Exit → Act → World → Prop} {S S' : World → Prop} (hS : ∀ w, S' w → S w) : ∀ {fuel : Nat} {listed : Array Bool} {a : Act} {w : World}, wpAnyH P md ops Q S' fuel listed a w → wpAnyH P md ops Q S fuel listed a w
  | 0, _, _, _, h => h
  | fuel + 1, _, _, _, h => ⟨h.1, fun i hi => wpOp_mono (fun a' w' h' => ⟨hS _ h'.1, wpAnyH_mono hS h'.2⟩) (h.2 i hi)⟩
/-- A body of which a byte is turned is none, or one of other cells. -/
theorem turned_ne {l : List Ce} (ho : putOk l = true) {k : Nat} (hk : k < 240) {y : UInt8} (hy : y ≠ 0) (hg : getOk (patch (bodyOf l) k ((bodyOf l).getD k 0 ^^^ y)) = true) : getS (patch (bodyOf l) k ((bodyOf l).getD k 0 ^^^ y)) ≠ l := by
  have hlen := bodyOf_length ho
  have hat := patch_at (l := bodyOf l) (k := k) (by omega) ((bodyOf l).getD k 0 ^^^ y) k
  rw [if_pos rfl] at hat
  obtain ⟨_, _, h3⟩ := getS_ok hg
  intro e
  rw [e] at h3
  rw [← h3] at hat
  exact xor_ne hy hat.symm
end Go.Proofs.Ytnbfieidledfmaa
