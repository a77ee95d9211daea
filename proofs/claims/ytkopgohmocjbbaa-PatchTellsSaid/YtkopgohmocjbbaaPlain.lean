/- Plain mathematics for changes of pages: what a patch makes of a page's bytes, where two pages differ first and last. No program. -/
import Derived.Lib.Strings
import Derived.Lib.Hide
namespace Go.Proofs.Ytkopgohmocjbbaa
set_option linter.unusedVariables false
abbrev BA := List UInt8
def str (b : BA) : ByteArray := ⟨b.toArray⟩
theorem str_size (b : BA) : (str b).size = b.length := by simp [str, ByteArray.size]
theorem str_toList (b : BA) : (str b).data.toList = b := by simp [str]
theorem str_inj {a b : BA} (h : str a = str b) : a = b := by rw [← str_toList a, h, str_toList]
theorem str_data (x : ByteArray) : str x.data.toList = x := by cases x; simp [str]
theorem str_append (x : ByteArray) (l : BA) : x ++ str l = str (x.data.toList ++ l) := by
  apply ByteArray.ext
  rw [ByteArray.data_append]
  apply Array.ext'
  simp [str]
theorem append_str (x y : ByteArray) : x ++ y = str (x.data.toList ++ y.data.toList) := by
  rw [← str_append, str_data]
theorem extract_str (x : ByteArray) (a b : Nat) : x.extract a b = str ((x.data.toList.drop a).take (b - a)) := by
  rw [← Lib.extract_data, str_data]
theorem size_data (x : ByteArray) : x.data.toList.length = x.size := (Lib.size_eq x).symm
def zs (n : Nat) : BA := List.replicate n 0
theorem zs_length (n : Nat) : (zs n).length = n := by simp [zs]
/-- A page that begins with bytes. -/
def pageOf (b : BA) : BA := (b ++ zs 256).take 256
theorem pageOf_length (b : BA) : (pageOf b).length = 256 := by
  unfold pageOf
  rw [List.length_take, List.length_append, zs_length]
  omega
theorem pageOf_long {b : BA} (h : 256 < b.length) : pageOf b = b.take 256 := by
  unfold pageOf; rw [List.take_append_of_le_length (by omega)]
theorem pageOf_short {b : BA} (h : b.length ≤ 256) : pageOf b = b ++ zs (256 - b.length) := by
  unfold pageOf
  rw [List.take_append, List.take_of_length_le h, zs, List.take_replicate, zs]
  congr 2; omega
/-- A patch: page, place, bytes. -/
structure Pt where
  pg : Int
  ofs : Int
  bs : ByteArray
def nilP : Pt := ⟨0, 0, ⟨#[]⟩⟩
def Pt.Ok (p : Pt) : Prop := (0 ≤ p.pg ∧ p.pg ≤ 63) ∧ 0 ≤ p.ofs ∧ 0 < p.bs.size ∧ p.ofs + p.bs.size ≤ 256
instance decOk (p : Pt) : Decidable p.Ok := by unfold Pt.Ok; exact inferInstance
def okP (p : Pt) : Bool := decide p.Ok
theorem okP_iff {p : Pt} : okP p = true ↔ p.Ok := by unfold okP; exact decide_eq_true_iff
theorem okP_no {p : Pt} : okP p = false ↔ ¬ p.Ok := by unfold okP; exact decide_eq_false_iff_not
/-- What a patch makes of bytes. -/
def over (b : BA) (p : Pt) : BA := b.take p.ofs.toNat ++ p.bs.data.toList ++ b.drop (p.ofs.toNat + p.bs.size)
theorem over_length {b : BA} {p : Pt} (hp : p.Ok) (hb : b.length = 256) : (over b p).length = 256 := by
  obtain ⟨_, h1, h2, h3⟩ := hp
  unfold over
  rw [List.length_append, List.length_append, List.length_take, List.length_drop, size_data]
  omega
theorem over_get {b : BA} {p : Pt} (hp : p.Ok) (hb : b.length = 256) (j : Nat) (hj : j < 256) :
    (over b p)[j]? = if p.ofs.toNat ≤ j ∧ j < p.ofs.toNat + p.bs.size then p.bs.data.toList[j - p.ofs.toNat]? else b[j]? := by
  obtain ⟨_, h1, h2, h3⟩ := hp
  have hs := size_data p.bs
  unfold over
  have hl : (b.take p.ofs.toNat).length = p.ofs.toNat := by rw [List.length_take]; omega
  by_cases c1 : j < p.ofs.toNat
  · rw [if_neg (by omega), List.append_assoc, List.getElem?_append_left (by omega), List.getElem?_take_of_lt c1]
  · by_cases c2 : j < p.ofs.toNat + p.bs.size
    · rw [if_pos (by omega), List.getElem?_append_left (by rw [List.length_append]; omega), List.getElem?_append_right (by omega), hl]
    · rw [if_neg (by omega), List.getElem?_append_right (by rw [List.length_append]; omega), List.length_append, hl, hs, List.getElem?_drop]
      congr 1; omega
def stepP (page : Int) (b : BA) (p : Pt) : BA := if p.pg = page then over b p else b
theorem stepP_length {page : Int} {b : BA} {p : Pt} (hp : p.Ok) (hb : b.length = 256) : (stepP page b p).length = 256 := by
  unfold stepP; split
  · exact over_length hp hb
  · exact hb
def folds (page : Int) (b : BA) (l : List Pt) : BA := l.foldl (stepP page) b
theorem folds_nil (page : Int) (b : BA) : folds page b [] = b := rfl
theorem folds_snoc (page : Int) (b : BA) (l : List Pt) (p : Pt) : folds page b (l ++ [p]) = stepP page (folds page b l) p := by simp [folds]
theorem folds_length {page : Int} {b : BA} {l : List Pt} (h : ∀ p ∈ l, p.Ok) (hb : b.length = 256) : (folds page b l).length = 256 := by
  induction l generalizing b with
  | nil => exact hb
  | cons p l ih => exact ih (fun q hq => h q (List.mem_cons_of_mem _ hq)) (stepP_length (h p (List.mem_cons_self ..)) hb)
theorem folds_one (p : Pt) (b : BA) : folds p.pg b [p] = over b p := by simp [folds, stepP]
theorem take_snoc (l : List Pt) (k : Nat) (h : k < l.length) : l.take (k + 1) = l.take k ++ [l.getD k nilP] := by
  rw [List.take_succ_eq_append_getElem h]
  simp [List.getD, h]
/-- All of a list. -/
def allOk (b : BA) (l : List Pt) : Bool := decide (b.length = 256) && l.all okP
def allS (page : Int) (b : BA) (l : List Pt) : BA := if allOk b l then folds page b l else []
/-- Where two lists differ first. -/
def lo : BA → BA → Nat
  | a :: x, b :: y => if a = b then lo x y + 1 else 0
  | _, _ => 0
theorem lo_le : ∀ (x y : BA), x.length = y.length → lo x y ≤ x.length
  | [], _, _ => by simp [lo]
  | a :: x, [], h => by simp at h
  | a :: x, b :: y, h => by
    unfold lo
    have := lo_le x y (by simpa using h)
    split
    · simp; omega
    · simp
theorem lo_same : ∀ (x y : BA), x.length = y.length → ∀ i, i < lo x y → x[i]? = y[i]?
  | [], _, _, i, hi => by simp [lo] at hi
  | a :: x, [], h, i, hi => by simp at h
  | a :: x, b :: y, h, i, hi => by
    unfold lo at hi
    split at hi
    · rename_i hab
      subst hab
      rcases i with _ | i
      · rfl
      · simpa using lo_same x y (by simpa using h) i (by omega)
    · omega
theorem lo_parts : ∀ (x y : BA), x.length = y.length → lo x y < x.length → x[lo x y]? ≠ y[lo x y]?
  | [], _, _, hl => by simp [lo] at hl
  | a :: x, [], h, _ => by simp at h
  | a :: x, b :: y, h, hl => by
    unfold lo at hl ⊢
    split
    · rename_i hab
      rw [if_pos hab] at hl
      simpa using lo_parts x y (by simpa using h) (by simpa using hl)
    · rename_i hab
      simpa using hab
theorem lo_all : ∀ (x y : BA), x.length = y.length → lo x y = x.length → x = y
  | [], y, h, _ => by cases y with | nil => rfl | cons b y => simp at h
  | a :: x, [], h, _ => by simp at h
  | a :: x, b :: y, h, hl => by
    unfold lo at hl
    split at hl
    · rename_i hab
      rw [hab, lo_all x y (by simpa using h) (by simpa using hl)]
    · simp at hl
/-- Behind where they differ last. -/
def hi (x y : BA) : Nat := x.length - lo x.reverse y.reverse
/-- They differ from a on, up to z. -/
structure Between (x y : BA) (a z : Nat) : Prop where
  len : y.length = x.length
  lt : a < z
  le : z ≤ x.length
  low : ∀ i, i < a → x[i]? = y[i]?
  at1 : x[a]? ≠ y[a]?
  high : ∀ i, z ≤ i → x[i]? = y[i]?
  at2 : x[z - 1]? ≠ y[z - 1]?
theorem between {x y : BA} (h : y.length = x.length) (hne : x ≠ y) : Between x y (lo x y) (hi x y) := by
  have h1 := lo_le x y h.symm
  have h2 : lo x y ≠ x.length := fun e => hne (lo_all x y h.symm e)
  have hr : x.reverse.length = y.reverse.length := by simp [h]
  have h3 := lo_le _ _ hr
  have h4 : lo x.reverse y.reverse ≠ x.reverse.length := fun e => hne (List.reverse_inj.1 (lo_all _ _ hr e))
  rw [List.length_reverse] at h3 h4
  have low := lo_same x y h.symm
  have at1 := lo_parts x y h.symm (by omega)
  have hs := lo_same _ _ hr
  have hp := lo_parts _ _ hr (by rw [List.length_reverse]; omega)
  have rev : ∀ (u : BA) i, i < u.length → u.reverse[i]? = u[u.length - 1 - i]? := fun u i hi => List.getElem?_reverse hi
  have high : ∀ i, hi x y ≤ i → x[i]? = y[i]? := fun i hi' => by
    by_cases hil : i < x.length
    · have := hs (x.length - 1 - i) (by unfold hi at hi'; omega)
      rw [rev x _ (by omega), rev y _ (by omega), h] at this
      rwa [show x.length - 1 - (x.length - 1 - i) = i by omega] at this
    · rw [List.getElem?_eq_none (by omega), List.getElem?_eq_none (by omega)]
  have at2 : x[hi x y - 1]? ≠ y[hi x y - 1]? := by
    rw [rev x _ (by omega), rev y _ (by omega), h] at hp
    rwa [show x.length - 1 - lo x.reverse y.reverse = hi x y - 1 by unfold hi; omega] at hp
  have hlt : lo x y < hi x y := by
    rcases Nat.lt_or_ge (lo x y) (hi x y) with h5 | h5
    · exact h5
    · exact absurd (high _ h5) at1
  exact ⟨h, hlt, by unfold hi; omega, low, at1, high, at2⟩
theorem Between.same {x y : BA} {a z b u : Nat} (h : Between x y a z) (k : Between x y b u) : a = b ∧ z = u := by
  constructor
  · rcases Nat.lt_trichotomy a b with h1 | h1 | h1
    · exact absurd (k.low a h1) h.at1
    · exact h1
    · exact absurd (h.low b h1) k.at1
  · have hz := h.lt; have hu := k.lt
    rcases Nat.lt_trichotomy z u with h1 | h1 | h1
    · exact absurd (h.high (u - 1) (by omega)) k.at2
    · exact h1
    · exact absurd (k.high (z - 1) (by omega)) h.at2
theorem Between.symm {x y : BA} {a z : Nat} (h : Between x y a z) : Between y x a z :=
  ⟨h.len.symm, h.lt, by rw [h.len]; exact h.le, fun i hi => (h.low i hi).symm, h.at1.symm, fun i hi => (h.high i hi).symm, h.at2.symm⟩
/-- What changed. -/
def dif (page : Int) (x y : BA) : Pt := ⟨page, lo x y, str ((y.drop (lo x y)).take (hi x y - lo x y))⟩
def okD (page : Int) (x y : BA) : Bool := decide ((0 ≤ page ∧ page ≤ 63) ∧ x.length = 256 ∧ y.length = 256 ∧ x ≠ y)
def difS (page : Int) (x y : BA) : Pt := if okD page x y then dif page x y else nilP
theorem dif_size {page : Int} {x y : BA} (h : y.length = x.length) (hne : x ≠ y) : (dif page x y).bs.size = hi x y - lo x y := by
  have := between h hne
  have h1 := this.lt; have h2 := this.le; have h3 := this.len
  simp only [dif]
  rw [str_size, List.length_take, List.length_drop]
  omega
theorem dif_ok {page : Int} {x y : BA} (hp : 0 ≤ page ∧ page ≤ 63) (hx : x.length = 256) (h : y.length = 256) (hne : x ≠ y) : (dif page x y).Ok := by
  have hb := between (h.trans hx.symm) hne
  have h1 := hb.lt; have h2 := hb.le
  refine ⟨hp, by simp [dif], ?_, ?_⟩
  · rw [dif_size (h.trans hx.symm) hne]; omega
  · rw [dif_size (h.trans hx.symm) hne]; simp only [dif]; omega
/-- What changed makes of the one the other. -/
theorem over_dif {page : Int} {x y : BA} (hp : 0 ≤ page ∧ page ≤ 63) (hx : x.length = 256) (h : y.length = 256) (hne : x ≠ y) : over x (dif page x y) = y := by
  have ho := dif_ok hp hx h hne
  have hb := between (h.trans hx.symm) hne
  have hs := dif_size (page := page) (h.trans hx.symm) hne
  have h1 := hb.lt; have h2 := hb.le
  apply List.ext_getElem?
  intro j
  by_cases hj : j < 256
  · rw [over_get ho hx j hj, hs]
    have e : (dif page x y).ofs.toNat = lo x y := by simp [dif]
    rw [e]
    split
    · simp only [dif]
      rw [str_toList, List.getElem?_take_of_lt (by omega), List.getElem?_drop]
      congr 1; omega
    · rename_i hc
      by_cases hl : j < lo x y
      · exact hb.low j hl
      · exact hb.high j (by omega)
  · rw [List.getElem?_eq_none (by rw [over_length ho hx]; omega), List.getElem?_eq_none (by omega)]
/-- The whole page. -/
def whole (page : Int) (y : ByteArray) : Pt := ⟨page, 0, y⟩
theorem whole_ok {page : Int} {y : ByteArray} (hp : 0 ≤ page ∧ page ≤ 63) (h : y.size = 256) : (whole page y).Ok := ⟨hp, by simp [whole], by simp [whole, h], by simp [whole, h]⟩
theorem over_whole {page : Int} {x : BA} {y : ByteArray} (hx : x.length = 256) (h : y.size = 256) : over x (whole page y) = y.data.toList := by
  unfold over whole
  simp only [Int.toNat_zero, List.take_zero, List.nil_append, Nat.zero_add, h]
  rw [List.drop_of_length_le (by omega), List.append_nil]
end Go.Proofs.Ytkopgohmocjbbaa
