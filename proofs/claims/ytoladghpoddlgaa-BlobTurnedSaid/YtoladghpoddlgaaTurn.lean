/- A byte put in the place of another one; what is read of pages of which a byte is turned. -/
import Derived.Test.YtoladghpoddlgaaOwnI
import Derived.Deep.RegionHeld3
namespace Go.Proofs.Ytoladghpoddlgaa
open Go.ChangeShapes Go.WideShapes Go.ChangeAt Go.RowKit
set_option linter.unusedVariables false
set_option linter.unusedSimpArgs false
set_option maxRecDepth 100000
/-- The place that a number leads to, of m. -/
theorem place (a : Int) (m : Nat) (h0 : 0 < m) (h1 : m ≤ 1000) : ∃ k : Nat, k < m ∧ (wrap64 (a.tmod m + m)).tmod m = (k : Int) := by
  have e1 : a.tmod m < m := Int.tmod_lt_of_pos a (by omega)
  have e2 : -(m : Int) < a.tmod m := by
    have := Int.tmod_lt_of_pos (-a) (b := (m : Int)) (by omega)
    rw [Int.neg_tmod] at this
    omega
  generalize a.tmod m = x at *
  have e3 : wrap64 (x + m) = x + m := by unfold wrap64; omega
  refine ⟨(x + m).toNat % m, Nat.mod_lt _ h0, ?_⟩
  rw [e3, Int.tmod_eq_emod_of_nonneg (by omega)]
  rw [Int.natCast_emod, Int.toNat_of_nonneg (by omega)]
def patch (l : BA) (k : Nat) (c : UInt8) : BA := l.take k ++ c :: l.drop (k + 1)
theorem patch_length {l : BA} {k : Nat} (h : k < l.length) (c : UInt8) : (patch l k c).length = l.length := by
  simp [patch]; omega
theorem patch_at {l : BA} {k : Nat} (h : k < l.length) (c : UInt8) (j : Nat) : (patch l k c).getD j 0 = if j = k then c else l.getD j 0 := by
  unfold patch
  rw [List.getD_eq_getElem?_getD, List.getElem?_append]
  have hl : (l.take k).length = k := by rw [List.length_take]; omega
  rw [hl]
  by_cases e : j < k
  · rw [if_pos e, if_neg (by omega), List.getElem?_take, if_pos e, List.getD_eq_getElem?_getD]
  · rw [if_neg e]
    by_cases e2 : j = k
    · rw [if_pos e2, e2, Nat.sub_self]; rfl
    · rw [if_neg e2, show j - k = (j - k - 1) + 1 by omega, List.getElem?_cons_succ, List.getElem?_drop, List.getD_eq_getElem?_getD, show k + 1 + (j - k - 1) = j by omega]
theorem extract_str2 (l : BA) (i n : Nat) (h : l.length ≤ n) : (str l).extract i n = str (l.drop i) := by
  apply ByteArray.ext
  apply Array.ext'
  simp [str, ByteArray.data_extract]
  rw [List.take_of_length_le (by rw [List.length_drop]; omega)]
theorem patch_str (l : BA) (k n : Nat) (h : l.length ≤ n) (c : UInt8) : ((str l).extract 0 k ++ str [c]) ++ (str l).extract (k + 1) n = str (patch l k c) := by
  rw [extract_str, extract_str2 l _ _ h, str_append, str_append]
  simp only [str_toList, patch, List.append_assoc, List.cons_append, List.nil_append, Nat.sub_zero, List.drop_zero]
theorem u8_of_int (b : Int) (h : (Lit.int .u8 b).wf = true) : ∃ c : UInt8, b = (c.toNat : Int) := by
  have h2 : 0 ≤ b ∧ b ≤ 255 := by
    simp [Lit.wf, IntKind.min, IntKind.max, IntKind.signed, IntKind.bits] at h
    omega
  refine ⟨UInt8.ofNat b.toNat, ?_⟩
  have e : (UInt8.ofNat b.toNat).toNat = b.toNat % 256 := rfl
  omega
theorem xor_u8 (x y : UInt8) : bits .xor .u8 (x.toNat : Int) (y.toNat : Int) = ((x ^^^ y).toNat : Int) := by
  show IntKind.u8.wrap ((BitVec.ofInt 8 (x.toNat : Int) ^^^ BitVec.ofInt 8 (y.toNat : Int)).toNat : Int) = _
  rw [BitVec.ofInt_natCast, BitVec.ofInt_natCast, BitVec.toNat_xor, BitVec.toNat_ofNat, BitVec.toNat_ofNat, Nat.mod_eq_of_lt x.toNat_lt, Nat.mod_eq_of_lt y.toNat_lt, UInt8.toNat_xor]
  have h : x.toNat ^^^ y.toNat < 256 := by rw [← UInt8.toNat_xor]; exact UInt8.toNat_lt _
  show IntKind.u8.wrap _ = _
  unfold IntKind.wrap
  simp [IntKind.signed, IntKind.bits]
  omega
theorem xor_ne (x y : UInt8) (h : y ≠ 0) : x ^^^ y ≠ x := fun e => h (by
  have : x ^^^ (x ^^^ y) = x ^^^ x := by rw [e]
  rw [← UInt8.xor_assoc, UInt8.xor_self, UInt8.zero_xor] at this
  exact this)
/-! What is read of a page of which a byte is turned. -/
theorem patch_set {l : BA} {k : Nat} (h : k < l.length) (c : UInt8) : patch l k c = l.set k c := by
  unfold patch
  rw [List.set_eq_take_append_cons_drop, if_pos h]
theorem set_ne {l : BA} {k : Nat} (h : k < l.length) {c : UInt8} (hc : c ≠ l.getD k 0) : l.set k c ≠ l := fun e => by
  have h1 : (l.set k c)[k]'(by rw [List.length_set]; exact h) = c := List.getElem_set_self ..
  have h2 : l.getD k 0 = l[k] := by simp [List.getD, h]
  rw [h2] at hc
  apply hc
  rw [← h1]
  congr 1
theorem page_body (x : Int) (d : BA) : (pgOf x d).b.data.toList = d ++ zs (240 - d.length) := str_toList _
theorem turned_hold {x : Int} {d : BA} {k : Nat} {y : UInt8} (hd : d.length ≤ 240) (hk : k < 240) (hy : y ≠ (d ++ zs (240 - d.length)).getD k 0) : holdB ⟨5, 0, x, str (patch (d ++ zs (240 - d.length)) k y)⟩ d.length = decide (k < d.length) := by
  have hl : (d ++ zs (240 - d.length)).length = 240 := by rw [List.length_append, zs_length]; omega
  rw [patch_set (by omega)]
  have hs : (str ((d ++ zs (240 - d.length)).set k y)).size = 240 := by rw [str_size, List.length_set, hl]
  have hz : (d ++ zs (240 - d.length)).drop d.length = zs (240 - d.length) := List.drop_left' rfl
  by_cases h : k < d.length
  · rw [decide_eq_true h]
    refine holdB_iff.2 ⟨rfl, hs, ?_⟩
    show (str _).data.toList.drop _ = _
    rw [str_toList, List.drop_set, if_pos h, hz]
  · rw [decide_eq_false h]
    refine holdB_no fun ⟨_, _, e⟩ => ?_
    have e' : ((d ++ zs (240 - d.length)).set k y).drop d.length = zs (240 - d.length) := by
      have e2 : (str ((d ++ zs (240 - d.length)).set k y)).data.toList.drop d.length = zs (240 - d.length) := e
      rw [str_toList] at e2
      exact e2
    rw [List.drop_set, if_neg h, hz] at e'
    have hkz : k - d.length < (zs (240 - d.length)).length := by rw [zs_length]; omega
    refine set_ne hkz ?_ e'
    rw [List.getD_eq_getElem?_getD, List.getElem?_append_right (by omega)] at hy
    rw [List.getD_eq_getElem?_getD]
    exact hy
theorem turned_take {d : BA} {k : Nat} {y : UInt8} (hd : d.length ≤ 240) (hk : k < d.length) (hy : y ≠ (d ++ zs (240 - d.length)).getD k 0) : (patch (d ++ zs (240 - d.length)) k y).take d.length ≠ d := by
  rw [patch_set (by rw [List.length_append]; omega), List.take_set, List.take_left' rfl]
  refine set_ne hk ?_
  rw [List.getD_eq_getElem?_getD, List.getElem?_append_left hk] at hy
  rw [List.getD_eq_getElem?_getD]
  exact hy
/-- The pages of v in L, of the i-th of which the byte k is y. -/
def turnP (v : BA) (L : List Int) (K i k : Nat) (y : UInt8) : List Pg := (pagesL v L K).set i ⟨5, 0, nextN L i, str (patch ((v.drop (200 * i)).take 200 ++ zs (240 - ((v.drop (200 * i)).take 200).length)) k y)⟩
theorem turned_get {v : BA} {L : List Int} {K i k : Nat} {y : UInt8} (hL : L.length = K) (hf : putOk v L = true) (hi : i < K) (hk : k < 240) (hy : y ≠ (pageAt v L i).b.data.toList.getD k 0) :
    getOk v.length (turnP v L K i k y) = (decide (200 * i + k < v.length) && decide (k < 200)) ∧ (getOk v.length (turnP v L K i k y) = true → getS v.length (turnP v L K i k y) ≠ v) := by
  unfold pageAt at hy
  rw [page_body] at hy
  rcases putOk_len hf with ⟨h1, h2, h3, h4⟩ | ⟨h1, h2, h3, h4⟩
  · obtain ⟨a, rfl⟩ := List.length_eq_one_iff.1 h1
    obtain rfl : K = 1 := by rw [← hL]; rfl
    obtain rfl : i = 0 := by omega
    have hv : (v.drop (200 * 0)).take 200 = v := by rw [Nat.mul_zero, List.drop_zero, List.take_of_length_le h3]
    have hT : turnP v [a] 1 0 k y = [⟨5, 0, 0, str (patch (v ++ zs (240 - v.length)) k y)⟩] := by
      unfold turnP
      rw [hv]
      rfl
    rw [hv] at hy
    have hh := turned_hold (x := 0) (d := v) (by omega) hk hy
    have g : getOk v.length (turnP v [a] 1 0 k y) = decide (k < v.length) := by
      rw [hT, getOk_one (by omega) (by omega), Int.toNat_natCast, hh]
      simp
    rw [g]
    refine ⟨?_, fun e => ?_⟩
    · by_cases h : k < v.length
      · rw [decide_eq_true h, decide_eq_true (show 200 * 0 + k < v.length by omega), decide_eq_true (show k < 200 by omega)]; rfl
      · rw [decide_eq_false h, decide_eq_false (show ¬ 200 * 0 + k < v.length by omega)]; rfl
    · have h : k < v.length := of_decide_eq_true e
      rw [← g] at e
      rw [hT] at e ⊢
      rw [getS_one (by omega) (by omega) e, Int.toNat_natCast]
      show (str _).data.toList.take _ ≠ _
      rw [str_toList]
      exact turned_take (by omega) h hy
  · obtain ⟨a, b, rfl⟩ : ∃ a b, L = [a, b] := by
      rcases L with _ | ⟨a, _ | ⟨b, _ | ⟨c, L⟩⟩⟩ <;> simp at h1
      exact ⟨a, b, rfl⟩
    obtain rfl : K = 2 := by rw [← hL]; rfl
    obtain ⟨_, hb, _⟩ := rightL_two h4
    have hb0 : b ≠ 0 := by omega
    have l1 : (v.take 200).length = 200 := by rw [List.length_take]; omega
    have l2 : (v.drop 200).length = v.length - 200 := List.length_drop
    have hq : (v.drop 200).take 200 = v.drop 200 := List.take_of_length_le (by omega)
    have p1 := pgOf_holds b (v.take 200) (by omega)
    have p2 := pgOf_holds 0 (v.drop 200) (by omega)
    rw [l1] at p1
    rw [l2] at p2
    have k1 := pgOf_take b (v.take 200)
    have k2 := pgOf_take 0 (v.drop 200)
    rw [l1] at k1
    rw [l2] at k2
    rcases (show i = 0 ∨ i = 1 by omega) with rfl | rfl
    · have hv : (v.drop (200 * 0)).take 200 = v.take 200 := by rw [Nat.mul_zero, List.drop_zero]
      have hT : turnP v [a, b] 2 0 k y = [⟨5, 0, b, str (patch (v.take 200 ++ zs (240 - (v.take 200).length)) k y)⟩, pgOf 0 (v.drop 200)] := by
        have e := putS_two hf
        rw [putS_yes hf] at e
        unfold turnP
        rw [hv]
        have e2 : pagesL v [a, b] 2 = [pgOf b (v.take 200), pgOf 0 (v.drop 200)] := e
        rw [e2]
        rfl
      rw [hv] at hy
      have hh := turned_hold (x := b) (d := v.take 200) (by omega) hk hy
      rw [l1] at hh
      have g : getOk v.length (turnP v [a, b] 2 0 k y) = decide (k < 200) := by
        rw [hT, getOk_two (by omega) (by omega), Int.toNat_natCast, l1, hh, p2, pgOf_x, decide_eq_true hb0]
        simp
      rw [g]
      refine ⟨?_, fun e => ?_⟩
      · by_cases h : k < 200
        · rw [decide_eq_true h, decide_eq_true (show 200 * 0 + k < v.length by omega)]; rfl
        · rw [decide_eq_false h, Bool.and_false]
      · have h : k < 200 := of_decide_eq_true e
        rw [← g] at e
        rw [hT] at e ⊢
        rw [getS_two (by omega) (by omega) e, Int.toNat_natCast, k2]
        intro e3
        have e4 : (str (patch (v.take 200 ++ zs (240 - (v.take 200).length)) k y)).data.toList.take 200 ++ v.drop 200 = v.take 200 ++ v.drop 200 := by rw [List.take_append_drop]; exact e3
        have e5 := List.append_cancel_right e4
        rw [str_toList] at e5
        have := turned_take (d := v.take 200) (k := k) (y := y) (by omega) (by omega) hy
        rw [l1] at this
        rw [l1] at e5
        exact this e5
    · have hv : (v.drop (200 * 1)).take 200 = v.drop 200 := by rw [Nat.mul_one]; exact hq
      have hT : turnP v [a, b] 2 1 k y = [pgOf b (v.take 200), ⟨5, 0, 0, str (patch (v.drop 200 ++ zs (240 - (v.drop 200).length)) k y)⟩] := by
        have e := putS_two hf
        rw [putS_yes hf] at e
        unfold turnP
        rw [hv]
        have e2 : pagesL v [a, b] 2 = [pgOf b (v.take 200), pgOf 0 (v.drop 200)] := e
        rw [e2]
        rfl
      rw [hv] at hy
      have hh := turned_hold (x := 0) (d := v.drop 200) (by omega) hk hy
      rw [l2] at hh
      have g : getOk v.length (turnP v [a, b] 2 1 k y) = decide (k < v.length - 200) := by
        rw [hT, getOk_two (by omega) (by omega), Int.toNat_natCast, l2, hh, p1, pgOf_x, decide_eq_true hb0]
        simp
      rw [g]
      refine ⟨?_, fun e => ?_⟩
      · by_cases h : k < v.length - 200
        · rw [decide_eq_true h, decide_eq_true (show 200 * 1 + k < v.length by omega), decide_eq_true (show k < 200 by omega)]; rfl
        · rw [decide_eq_false h, decide_eq_false (show ¬ 200 * 1 + k < v.length by omega)]; rfl
      · have h : k < v.length - 200 := of_decide_eq_true e
        rw [← g] at e
        rw [hT] at e ⊢
        rw [getS_two (by omega) (by omega) e, Int.toNat_natCast, k1]
        intro e3
        have e4 : v.take 200 ++ (str (patch (v.drop 200 ++ zs (240 - (v.drop 200).length)) k y)).data.toList.take (v.length - 200) = v.take 200 ++ v.drop 200 := by rw [List.take_append_drop]; exact e3
        have e5 := List.append_cancel_left e4
        rw [str_toList] at e5
        have := turned_take (d := v.drop 200) (k := k) (y := y) (by omega) (by omega) hy
        rw [l2] at this
        rw [l2] at e5
        exact this e5
end Go.Proofs.Ytoladghpoddlgaa
