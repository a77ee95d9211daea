/- A byte put in the place of another one; bytes as a slice and back. -/
import Derived.Test.YtkopgohmocjbbaaBase
namespace Go.Proofs.Ytkopgohmocjbbaa
open Go.ChangeShapes Go.WideShapes Go.ChangeAt Go.RowKit
set_option linter.unusedVariables false
set_option linter.unusedSimpArgs false
/-- The place that a number leads to, of m. -/
theorem place (a : Int) (m : Nat) (h0 : 0 < m) (h1 : m ≤ 1000) : ∃ k : Nat, k < m ∧ (wrap64 (a.tmod m + m)).tmod m = (k : Int) := by
  have e1 : a.tmod m < m := Int.tmod_lt_of_pos a (by omega)
  have e2 : -(m : Int) < a.tmod m := by
    have := Int.tmod_lt_of_pos (-a) (b := (m : Int)) (by omega)
    rw [Int.neg_tmod] at this
    omega
  generalize a.tmod m = x at *
  have e3 : wrap64 (x + m) = x + m := by unfold wrap64; omega
  refine ⟨(x + m).toNat % m, Nat.mod_lt _ h0, ?_⟩
  rw [e3, Int.tmod_eq_emod_of_nonneg (by omega)]
  rw [Int.natCast_emod, Int.toNat_of_nonneg (by omega)]
theorem u8_of_int (b : Int) (h : (Lit.int .u8 b).wf = true) : ∃ c : UInt8, b = (c.toNat : Int) := by
  have h2 : 0 ≤ b ∧ b ≤ 255 := by
    simp [Lit.wf, IntKind.min, IntKind.max, IntKind.signed, IntKind.bits] at h
    omega
  refine ⟨UInt8.ofNat b.toNat, ?_⟩
  rw [UInt8.toNat_ofNat']
  omega
theorem u8_in {x : Int} (h0 : 0 ≤ x) (h1 : x ≤ 255) : IntKind.u8.wrap x = x := by
  unfold IntKind.wrap
  simp [IntKind.bits, IntKind.signed]
  omega
theorem xor_u8 (x y : UInt8) : bits .xor .u8 (x.toNat : Int) (y.toNat : Int) = ((x ^^^ y).toNat : Int) := by
  show IntKind.u8.wrap ((BitVec.ofInt 8 (x.toNat : Int) ^^^ BitVec.ofInt 8 (y.toNat : Int)).toNat : Int) = _
  rw [BitVec.ofInt_natCast, BitVec.ofInt_natCast, BitVec.toNat_xor, BitVec.toNat_ofNat, BitVec.toNat_ofNat, Nat.mod_eq_of_lt x.toNat_lt, Nat.mod_eq_of_lt y.toNat_lt, UInt8.toNat_xor]
  have h : x.toNat ^^^ y.toNat < 256 := by rw [← UInt8.toNat_xor]; exact UInt8.toNat_lt _
  exact u8_in (by omega) (by omega)
theorem xor_ne {x u : UInt8} (h : u ≠ 0) : x ≠ x ^^^ u := fun e => h (by
  have : x ^^^ x = x ^^^ (x ^^^ u) := by rw [← e]
  rw [← UInt8.xor_assoc, UInt8.xor_self, UInt8.zero_xor] at this
  exact this.symm)
theorem between_two {x y : BA} {a z : Nat} (len : y.length = x.length) (hz : z < x.length) (haz : a ≤ z) (h1 : x[a]? ≠ y[a]?) (h2 : x[z]? ≠ y[z]?) (h3 : ∀ j, j ≠ a → j ≠ z → x[j]? = y[j]?) : Between x y a (z + 1) :=
  ⟨len, by omega, by omega, fun i hi => h3 i (by omega) (by omega), h1, fun i hi => h3 i (by omega) (by omega), by rw [Nat.add_sub_cancel]; exact h2⟩
theorem between_set {x : BA} {i k : Nat} {c d : UInt8} (hi : i < x.length) (hk : k < x.length) (hne : i ≠ k) (h1 : x[i]? ≠ some c) (h2 : x[k]? ≠ some d) : Between x ((x.set i c).set k d) (min i k) (max i k + 1) := by
  have hl : ((x.set i c).set k d).length = x.length := by rw [List.length_set, List.length_set]
  have gi : ((x.set i c).set k d)[i]? = some c := by rw [List.getElem?_set_ne (Ne.symm hne), List.getElem?_set_self hi]
  have gk : ((x.set i c).set k d)[k]? = some d := List.getElem?_set_self (by rw [List.length_set]; exact hk)
  have go : ∀ j, j ≠ i → j ≠ k → x[j]? = ((x.set i c).set k d)[j]? := fun j h h' => by rw [List.getElem?_set_ne (Ne.symm h'), List.getElem?_set_ne (Ne.symm h)]
  by_cases h : i ≤ k
  · rw [Nat.min_eq_left h, Nat.max_eq_right h]
    exact between_two hl hk h (by rw [gi]; exact h1) (by rw [gk]; exact h2) go
  · rw [Nat.min_eq_right (by omega), Nat.max_eq_left (by omega)]
    exact between_two hl hi (by omega) (by rw [gk]; exact h2) (by rw [gi]; exact h1) (fun j a b => go j b a)
theorem Img.set {w : World} {B : Nat} {b : BA} (h : Img w B b) (i : Nat) (hi : i < b.length) (c : UInt8) : Img (w.setCell ⟨B, i, none⟩ (.int .u8 (c.toNat : Int))) B (b.set i c) := by
  have hc := h.some i hi
  refine ⟨by simpa [World.setCell] using h.1, fun j x hx => ?_, fun j hj => ?_⟩
  · by_cases e : j = i
    · subst e
      rw [List.getElem?_set_self hi] at hx
      cases hx
      have := World.cell?_setCells_in B [Value.int .u8 (c.toNat : Int)] j w (fun q hq => by have e0 : q = 0 := (by simpa using hq); subst e0; exact hc) 0 (by simp)
      simpa [World.setCells] using this
    · rw [List.getElem?_set_ne (Ne.symm e)] at hx
      have := World.cell?_setCells_out B [Value.int .u8 (c.toNat : Int)] i w ⟨B, j, none⟩ (fun _ _ => by show j < i ∨ i + 1 ≤ j; omega)
      rw [show w.setCells B i [Value.int .u8 (c.toNat : Int)] = w.setCell ⟨B, i, none⟩ (.int .u8 (c.toNat : Int)) from rfl] at this
      rw [this]
      exact h.2.1 j x hx
  · rw [List.length_set] at hj
    have := World.frozen?_setCells B [Value.int .u8 (c.toNat : Int)] i w ⟨B, j, none⟩
    rw [show w.setCells B i [Value.int .u8 (c.toNat : Int)] = w.setCell ⟨B, i, none⟩ (.int .u8 (c.toNat : Int)) from rfl] at this
    rw [this]
    exact h.2.2 j hj
theorem run_convB (w : World) (s : ByteArray) : (convert 9 39 (.string s)).run Try.prog w = .ok (.slice (some ⟨w.heap.size, 0, none⟩) s.size (grownCap w s.size 0 5)) (Lib.bytesWorld w 5 s) :=
  Lib.run_convert_string_bytes w 9 39 5 s Try.underlying9 Try.underlying39 Try.underlying5
theorem run_backB {w : World} {B : Nat} {b : BA} (h : Img w B b) (n c : Nat) (hn : b.length = n) : (convert 39 9 (.slice (some ⟨B, 0, none⟩) n c)).run Try.prog w = .ok (.string (str b)) w := by
  subst hn
  refine run_convert_bytes_back w 39 9 5 ⟨B, 0, none⟩ c b Try.underlying39 Try.underlying5 Try.underlying9 (fun j hj => ?_)
  have := h.2.1 j b[j] (List.getElem?_eq_getElem hj)
  rw [show (⟨B, 0, none⟩ : Addr).add j = ⟨B, 0 + j, none⟩ from Addr.add_mid B 0 j, Nat.zero_add]
  exact this
end Go.Proofs.Ytkopgohmocjbbaa
