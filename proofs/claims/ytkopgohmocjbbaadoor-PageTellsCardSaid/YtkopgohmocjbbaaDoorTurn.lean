/- A byte put in the place of another one. -/
import Derived.Test.YtkopgohmocjbbaaDoorLaid
import Derived.Deep.RegionHeld3
namespace Go.Proofs.YtkopgohmocjbbaaDoor
open Go.ChangeShapes Go.WideShapes Go.ChangeAt Go.RowKit
set_option linter.unusedVariables false
set_option linter.unusedSimpArgs false
/-- The place that a number leads to, of m. -/
theorem place (a : Int) (m : Nat) (h0 : 0 < m) (h1 : m ≤ 1000) : ∃ k : Nat, k < m ∧ (wrap64 (a.tmod m + m)).tmod m = (k : Int) := by
  have e1 : a.tmod m < m := Int.tmod_lt_of_pos a (by omega)
  have e2 : -(m : Int) < a.tmod m := by
    have := Int.tmod_lt_of_pos (-a) (b := (m : Int)) (by omega)
    rw [Int.neg_tmod] at this
    omega
  generalize a.tmod m = x at *
  have e3 : wrap64 (x + m) = x + m := by unfold wrap64; omega
  refine ⟨(x + m).toNat % m, Nat.mod_lt _ h0, ?_⟩
  rw [e3, Int.tmod_eq_emod_of_nonneg (by omega)]
  rw [Int.natCast_emod, Int.toNat_of_nonneg (by omega)]
def patch (l : BA) (k : Nat) (c : UInt8) : BA := l.take k ++ c :: l.drop (k + 1)
theorem patch_length {l : BA} {k : Nat} (h : k < l.length) (c : UInt8) : (patch l k c).length = l.length := by
  simp [patch]; omega
theorem patch_at {l : BA} {k : Nat} (h : k < l.length) (c : UInt8) (j : Nat) : (patch l k c).getD j 0 = if j = k then c else l.getD j 0 := by
  unfold patch
  rw [List.getD_eq_getElem?_getD, List.getElem?_append]
  have hl : (l.take k).length = k := by rw [List.length_take]; omega
  rw [hl]
  by_cases e : j < k
  · rw [if_pos e, if_neg (by omega), List.getElem?_take, if_pos e, List.getD_eq_getElem?_getD]
  · rw [if_neg e]
    by_cases e2 : j = k
    · rw [if_pos e2, e2, Nat.sub_self]; rfl
    · rw [if_neg e2, show j - k = (j - k - 1) + 1 by omega, List.getElem?_cons_succ, List.getElem?_drop, List.getD_eq_getElem?_getD, show k + 1 + (j - k - 1) = j by omega]
theorem patch_same {l : BA} {k : Nat} (h : k < l.length) {c : UInt8} (hc : l.getD k 0 = c) : patch l k c = l := by
  have hk : l[k] = c := by rw [← hc, List.getD_eq_getElem?_getD, List.getElem?_eq_getElem h]; rfl
  unfold patch
  rw [← hk, ← List.drop_eq_getElem_cons h, List.take_append_drop]
theorem extract_str2 (l : BA) (i n : Nat) (h : l.length ≤ n) : (str l).extract i n = str (l.drop i) := by
  apply ByteArray.ext
  apply Array.ext'
  simp [str, ByteArray.data_extract]
  rw [List.take_of_length_le (by rw [List.length_drop]; omega)]
theorem patch_str (l : BA) (k n : Nat) (h : l.length ≤ n) (c : UInt8) : ((str l).extract 0 k ++ str [c]) ++ (str l).extract (k + 1) n = str (patch l k c) := by
  rw [extract_str, extract_str2 l _ _ h, str_append, str_append]
  simp only [str_toList, patch, List.append_assoc, List.cons_append, List.nil_append]
theorem u8_of_int (b : Int) (h : (Lit.int .u8 b).wf = true) : ∃ c : UInt8, b = (c.toNat : Int) := by
  have h2 : 0 ≤ b ∧ b ≤ 255 := by
    simp [Lit.wf, IntKind.min, IntKind.max, IntKind.signed, IntKind.bits] at h
    omega
  exact ⟨u8 b, (u8_toNat h2.1 h2.2).symm⟩
/-- One byte, as a string. -/
theorem convert1 {X : World} {B : Nat} {c : UInt8} (hx : X.heap[B]? = some (.cells #[.int .u8 (c.toNat : Int)] 5 (0, 0))) (w : World) (h : Held X w) :
    (convert 33 9 (.slice (some ⟨B, 0, none⟩) 1 1)).run Tryd.prog w = .ok (.string (str [c])) w := by
  rw [← strOfNums_bytes]
  have hw : w.heap[B]? = _ := (Below.block h B (Array.getElem?_eq_some_iff.1 hx).1).trans hx
  refine run_convert_bytes_arg w 33 5 Tryd.underlying33 Tryd.underlying5 B 0 1 1 _ rfl (fun i hi => ?_) 9 Tryd.underlying9
  obtain rfl : i = 0 := by omega
  rw [cell_of_row _ _ _ _ _ _ hw, Nat.zero_add]
  rfl
/-- Behind V: all that was there stands; and block g holds one byte. -/
def HR (V : World) (g : Nat) (c : UInt8) (w : World) : Prop := Held V w ∧ w.heap[g]? = some (.cells #[.int .u8 (c.toNat : Int)] 5 (0, 0))
theorem HR.lt {V w : World} {g : Nat} {c : UInt8} (h : HR V g c w) : g < w.heap.size := (Array.getElem?_eq_some_iff.1 h.2).1
theorem HR.step {V w w' : World} {g : Nat} {c : UInt8} (h : HR V g c w) (hb : Below w.heap.size w w') : HR V g c w' := ⟨Held.step h.1 hb, (hb.block g h.lt).trans h.2⟩
theorem HR.set4 {V w : World} {g b : Nat} {c : UInt8} (h : HR V g c w) (hB : V.heap.size ≤ b) (hne : g ≠ b) (v0 v1 v2 v3 : Value) : HR V g c ((((w.setCell ⟨b, 0, none⟩ v0).setCell ⟨b, 1, none⟩ v1).setCell ⟨b, 2, none⟩ v2).setCell ⟨b, 3, none⟩ v3) := by
  refine ⟨below_four h.1 hB _ _ _ _, ?_⟩
  rw [Below.heap_setCell _ _ _ _ hne, Below.heap_setCell _ _ _ _ hne, Below.heap_setCell _ _ _ _ hne, Below.heap_setCell _ _ _ _ hne]
  exact h.2
theorem HR.alloc {V w : World} {g : Nat} {c : UInt8} (h : HR V g c w) (o : Obj) : HR V g c (w.alloc o) := h.step ((Below.refl _ _).alloc (Nat.le_refl _) o)
theorem HR.convert {V w : World} {g : Nat} {c : UInt8} (h : HR V g c w) : (convert 33 9 (.slice (some ⟨g, 0, none⟩) 1 1)).run Tryd.prog w = .ok (.string (str [c])) w := convert1 h.2 w (Below.refl _ _)
end Go.Proofs.YtkopgohmocjbbaaDoor
