/- Plain mathematics for cells: a cell's bytes, a body of cells, what a body is read as; keys, their order. No program. -/
import Derived.Lib.Strings
import Derived.Lib.Bytealg
import Derived.Lib.Hide
namespace Go.Proofs.YtljegjcajlkgiaaGreat
set_option linter.unusedVariables false
abbrev BA := List UInt8
def str (b : BA) : ByteArray := ⟨b.toArray⟩
theorem str_size (b : BA) : (str b).size = b.length := by simp [str, ByteArray.size]
theorem str_toList (b : BA) : (str b).data.toList = b := by simp [str]
theorem str_inj {a b : BA} (h : str a = str b) : a = b := by rw [← str_toList a, h, str_toList]
theorem str_data (x : ByteArray) : str x.data.toList = x := by cases x; simp [str]
theorem str_list (b : BA) : (str b).toList = b := by rw [ByteArray.toList_eq]; exact str_toList b
theorem data_inj {x y : ByteArray} (h : x.data.toList = y.data.toList) : x = y := by rw [← str_data x, h, str_data]
theorem str_append (x : ByteArray) (l : BA) : x ++ str l = str (x.data.toList ++ l) := by
  apply ByteArray.ext
  rw [ByteArray.data_append]
  apply Array.ext'
  simp [str]
theorem append_str (x y : ByteArray) : x ++ y = str (x.data.toList ++ y.data.toList) := by
  rw [← str_append, str_data]
theorem str_join (a b : BA) : str a ++ str b = str (a ++ b) := by rw [append_str, str_toList, str_toList]
theorem extract_str (x : ByteArray) (a b : Nat) : x.extract a b = str ((x.data.toList.drop a).take (b - a)) := by
  rw [← Lib.extract_data, str_data]
theorem size_data (x : ByteArray) : x.data.toList.length = x.size := (Lib.size_eq x).symm
theorem str_nil {x : ByteArray} (h : x.size = 0) : x = ⟨#[]⟩ := by
  have : x.data.toList = [] := List.eq_nil_of_length_eq_zero (by rw [size_data]; exact h)
  rw [← str_data x, this]
  rfl
def zs (n : Nat) : BA := List.replicate n 0
theorem zs_length (n : Nat) : (zs n).length = n := by simp [zs]

/-! Keys, their order. -/
open Lib (compareBytes)
theorem cb_self : ∀ a : BA, compareBytes a a = 0
  | [] => rfl
  | x :: a => by unfold compareBytes; simp [UInt8.lt_irrefl, cb_self a]
theorem cb_eq : ∀ a b : BA, compareBytes a b = 0 → a = b
  | [], [], _ => rfl
  | [], _ :: _, h => by simp [compareBytes] at h
  | _ :: _, [], h => by simp [compareBytes] at h
  | x :: a, y :: b, h => by
    unfold compareBytes at h
    by_cases h1 : x < y
    · rw [if_pos h1] at h; omega
    · rw [if_neg h1] at h
      by_cases h2 : y < x
      · rw [if_pos h2] at h; omega
      · rw [if_neg h2] at h
        rw [cb_eq a b h, UInt8.le_antisymm (UInt8.not_lt.1 h2) (UInt8.not_lt.1 h1)]
theorem cb_neg : ∀ a b : BA, compareBytes b a = - compareBytes a b
  | [], [] => rfl
  | [], _ :: _ => rfl
  | _ :: _, [] => rfl
  | x :: a, y :: b => by
    unfold compareBytes
    by_cases h1 : x < y
    · rw [if_pos h1, if_neg (UInt8.not_lt.2 (UInt8.le_of_lt h1)), if_pos h1]; rfl
    · rw [if_neg h1]
      by_cases h2 : y < x
      · rw [if_pos h2, if_neg h1, if_pos h2]
      · rw [if_neg h2, if_neg h2, if_neg h1, cb_neg a b]
theorem bytesLess_cb : ∀ a b : BA, Op.bytesLess a b = decide (compareBytes a b < 0)
  | [], [] => rfl
  | [], _ :: _ => by simp [Op.bytesLess, compareBytes]
  | _ :: _, [] => by simp [Op.bytesLess, compareBytes]
  | x :: a, y :: b => by
    unfold Op.bytesLess compareBytes
    by_cases h1 : x < y
    · simp [h1]
    · by_cases h2 : y < x
      · have : (x == y) = false := by rw [beq_eq_false_iff_ne]; intro e; subst e; exact h1 h2
        simp [h1, h2, this]
      · have : x = y := UInt8.le_antisymm (UInt8.not_lt.1 h2) (UInt8.not_lt.1 h1)
        subst this
        simp [h1, bytesLess_cb a b]
theorem cb_trans : ∀ a b c : BA, compareBytes a b < 0 → compareBytes b c < 0 → compareBytes a c < 0
  | [], [], _, h, _ => by simp [compareBytes] at h
  | [], _ :: _, [], _, k => by simp [compareBytes] at k
  | [], _ :: _, _ :: _, _, _ => by simp [compareBytes]
  | _ :: _, [], _, h, _ => by simp [compareBytes] at h
  | _ :: _, _ :: _, [], _, k => by simp [compareBytes] at k
  | x :: a, y :: b, z :: c, h, k => by
    unfold compareBytes at h k ⊢
    by_cases h1 : x < y
    · by_cases k1 : y < z
      · rw [if_pos (UInt8.lt_trans h1 k1)]; omega
      · rw [if_neg k1] at k
        by_cases k2 : z < y
        · rw [if_pos k2] at k; omega
        · have : y = z := UInt8.le_antisymm (UInt8.not_lt.1 k2) (UInt8.not_lt.1 k1)
          subst this
          rw [if_pos h1]; omega
    · rw [if_neg h1] at h
      by_cases h2 : y < x
      · rw [if_pos h2] at h; omega
      · rw [if_neg h2] at h
        have : x = y := UInt8.le_antisymm (UInt8.not_lt.1 h2) (UInt8.not_lt.1 h1)
        subst this
        by_cases k1 : x < z
        · rw [if_pos k1]; omega
        · rw [if_neg k1] at k ⊢
          by_cases k2 : z < x
          · rw [if_pos k2] at k; omega
          · rw [if_neg k2] at k ⊢
            exact cb_trans a b c h k

/-- A cell: key, value, page, size. -/
structure Ce where
  key : ByteArray
  val : ByteArray
  blob : Int
  size : Int
def nilC : Ce := ⟨⟨#[]⟩, ⟨#[]⟩, 0, 0⟩
instance inhC : Inhabited Ce := ⟨nilC⟩
theorem Ce.same {a b : Ce} (h0 : a.key = b.key) (h1 : a.val = b.val) (h2 : a.blob = b.blob) (h3 : a.size = b.size) : a = b := by
  cases a; cases b; simp_all
def Ce.Ok (c : Ce) : Prop := (1 ≤ c.key.size ∧ c.key.size ≤ 16) ∧ ((c.blob = 0 ∧ c.val.size ≤ 40 ∧ c.size = 0) ∨ ((2 ≤ c.blob ∧ c.blob ≤ 63) ∧ c.val.size = 0 ∧ 41 ≤ c.size ∧ c.size ≤ 400))
instance decOk (c : Ce) : Decidable c.Ok := by unfold Ce.Ok; exact inferInstance
def okC (c : Ce) : Bool := decide c.Ok
theorem okC_iff {c : Ce} : okC c = true ↔ c.Ok := by unfold okC; exact decide_eq_true_iff
theorem okC_no {c : Ce} : okC c = false ↔ ¬ c.Ok := by unfold okC; exact decide_eq_false_iff_not
def sizeC (c : Ce) : Nat := 4 + c.key.size + (if c.blob = 0 then c.val.size else 2)
theorem size_ok {c : Ce} (h : c.Ok) : 5 ≤ sizeC c ∧ sizeC c ≤ 60 := by
  obtain ⟨⟨h1, h2⟩, h | h⟩ := h
  · unfold sizeC; rw [if_pos h.1]; omega
  · unfold sizeC; rw [if_neg (by omega)]; omega
def sums (l : List Ce) : Nat := (l.map sizeC).sum
theorem sums_nil : sums [] = 0 := rfl
theorem sums_cons (c : Ce) (l : List Ce) : sums (c :: l) = sizeC c + sums l := by simp [sums]
theorem sums_append (l m : List Ce) : sums (l ++ m) = sums l + sums m := by simp [sums]
theorem take_snoc (l : List Ce) (k : Nat) (h : k < l.length) : l.take (k + 1) = l.take k ++ [l.getD k nilC] := by
  rw [List.take_succ_eq_append_getElem h]
  simp [List.getD, h]
theorem getD_mem {l : List Ce} {k : Nat} (h : k < l.length) : l.getD k nilC ∈ l := by
  rw [List.getD_eq_getElem?_getD, List.getElem?_eq_getElem h]; exact List.getElem_mem h
theorem getD_at {l : List Ce} {k : Nat} (h : k < l.length) : l.getD k nilC = l[k] := by
  rw [List.getD_eq_getElem?_getD, List.getElem?_eq_getElem h]; rfl
theorem sums_take (l : List Ce) (k : Nat) (h : k < l.length) : sums (l.take (k + 1)) = sums (l.take k) + sizeC (l.getD k nilC) := by
  rw [take_snoc l k h, sums_append, sums_cons, sums_nil]; omega
theorem sums_le (l : List Ce) (k : Nat) : sums (l.take k) ≤ sums l := by
  have h := sums_append (l.take k) (l.drop k)
  rw [List.take_append_drop] at h
  omega
theorem sums_five {l : List Ce} (h : ∀ c ∈ l, c.Ok) : 5 * l.length ≤ sums l := by
  induction l with
  | nil => simp [sums]
  | cons c l ih =>
    rw [sums_cons]
    have := ih fun d hd => h d (List.mem_cons_of_mem _ hd)
    have := (size_ok (h c (List.mem_cons_self ..))).1
    simp only [List.length_cons]; omega
/-- How keys compare. -/
def cmpK (a b : Ce) : Int := compareBytes a.key.data.toList b.key.data.toList
def ltK (a b : Ce) : Bool := decide (cmpK a b < 0)
theorem ltK_irrefl (a : Ce) : ltK a a = false := by unfold ltK cmpK; rw [cb_self]; rfl
theorem ltK_trans {a b c : Ce} (h : ltK a b = true) (k : ltK b c = true) : ltK a c = true := by
  unfold ltK at *
  exact decide_eq_true (cb_trans _ _ _ (of_decide_eq_true h) (of_decide_eq_true k))
theorem ltK_key {a b : Ce} (h : ltK a b = true) : a.key.data.toList ≠ b.key.data.toList := by
  intro e
  unfold ltK cmpK at h
  rw [e, cb_self] at h
  simp at h
theorem ltK_or {a b : Ce} (h : ltK b a = false) (k : a.key.data.toList ≠ b.key.data.toList) : ltK a b = true := by
  have h1 : ¬ cmpK b a < 0 := of_decide_eq_false h
  unfold cmpK at h1
  rw [cb_neg] at h1
  refine decide_eq_true ?_
  unfold cmpK
  have h2 : compareBytes a.key.data.toList b.key.data.toList ≠ 0 := fun e => k (cb_eq _ _ e)
  omega
theorem ltK_asym {a b : Ce} (h : ltK a b = true) : ltK b a = false := by
  cases g : ltK b a with
  | false => rfl
  | true => have := ltK_trans h g; rw [ltK_irrefl] at this; cases this
def keysOf (l : List Ce) : List BA := l.map fun c => c.key.data.toList
def risesB (l : List Ce) : Bool := (List.range (l.length - 1)).all fun j => ltK (l.getD j nilC) (l.getD (j + 1) nilC)
theorem rises_iff {l : List Ce} : risesB l = true ↔ ∀ j, j + 1 < l.length → ltK (l.getD j nilC) (l.getD (j + 1) nilC) = true := by
  unfold risesB
  rw [List.all_eq_true]
  constructor
  · intro h j hj; exact h j (List.mem_range.2 (by omega))
  · intro h j hj; exact h j (by have := List.mem_range.1 hj; omega)
theorem rises_no {l : List Ce} {j : Nat} (hj : j + 1 < l.length) (h : ltK (l.getD j nilC) (l.getD (j + 1) nilC) = false) : risesB l = false := by
  cases g : risesB l with
  | false => rfl
  | true => rw [rises_iff] at g; rw [g j hj] at h; cases h
theorem rises_far {l : List Ce} (h : risesB l = true) (i : Nat) : ∀ d, i + d + 1 < l.length → ltK (l.getD i nilC) (l.getD (i + d + 1) nilC) = true
  | 0, hd => rises_iff.1 h i hd
  | d + 1, hd => ltK_trans (rises_far h i d (by omega)) (rises_iff.1 h (i + d + 1) hd)
theorem rises_pair {l : List Ce} (h : risesB l = true) : l.Pairwise fun a b => ltK a b = true := by
  rw [List.pairwise_iff_getElem]
  intro i j hi hj hij
  obtain ⟨d, rfl⟩ : ∃ d, j = i + d + 1 := ⟨j - i - 1, by omega⟩
  have := rises_far h i d hj
  rwa [getD_at hi, getD_at hj] at this
theorem pair_rises {l : List Ce} (h : l.Pairwise fun a b => ltK a b = true) : risesB l = true := by
  rw [rises_iff]
  intro j hj
  rw [getD_at (by omega : j < l.length), getD_at hj]
  exact List.pairwise_iff_getElem.1 h j (j + 1) (by omega) hj (by omega)
theorem rises_nodup {l : List Ce} (h : risesB l = true) : (keysOf l).Nodup := by
  unfold keysOf List.Nodup
  rw [List.pairwise_map]
  exact (rises_pair h).imp fun h => ltK_key h
/-- A sorted row rises just if its keys are different ones. -/
theorem rises_sorted {l m : List Ce} (hp : m.Perm l) (hs : ∀ j, j + 1 < m.length → ltK (m.getD (j + 1) nilC) (m.getD j nilC) = false) : risesB m = decide (keysOf l).Nodup := by
  have hk : (keysOf m).Perm (keysOf l) := hp.map _
  cases g : risesB m with
  | true => rw [decide_eq_true (hk.nodup_iff.1 (rises_nodup g))]
  | false =>
    refine (decide_eq_false fun hn => ?_).symm
    rw [← hk.nodup_iff] at hn
    have : risesB m = true := by
      rw [rises_iff]
      intro j hj
      refine ltK_or (hs j hj) ?_
      rw [getD_at (by omega : j < m.length), getD_at hj]
      unfold keysOf List.Nodup at hn
      rw [List.pairwise_map] at hn
      exact List.pairwise_iff_getElem.1 hn j (j + 1) (by omega) hj (by omega)
    rw [this] at g
    cases g
def fitsB (l : List Ce) : Bool := l.all okC && decide (1 + sums l ≤ 240) && decide (keysOf l).Nodup
theorem fits_iff {l : List Ce} : fitsB l = true ↔ (∀ c ∈ l, c.Ok) ∧ 1 + sums l ≤ 240 ∧ (keysOf l).Nodup := by
  unfold fitsB
  rw [Bool.and_eq_true, Bool.and_eq_true, List.all_eq_true, decide_eq_true_iff, decide_eq_true_iff]
  constructor
  · rintro ⟨⟨h1, h2⟩, h3⟩; exact ⟨fun c hc => okC_iff.1 (h1 c hc), h2, h3⟩
  · rintro ⟨h1, h2, h3⟩; exact ⟨⟨fun c hc => okC_iff.2 (h1 c hc), h2⟩, h3⟩
theorem fits_no {l : List Ce} (h : ¬ ((∀ c ∈ l, c.Ok) ∧ 1 + sums l ≤ 240 ∧ (keysOf l).Nodup)) : fitsB l = false := by
  cases g : fitsB l with
  | false => rfl
  | true => exact absurd (fits_iff.1 g) h
theorem fits_len {l : List Ce} (h : fitsB l = true) : l.length ≤ 47 := by
  have h := fits_iff.1 h
  have := sums_five h.1
  omega
def putOk (l : List Ce) : Bool := fitsB l && risesB l
theorem putOk_iff {l : List Ce} : putOk l = true ↔ (∀ c ∈ l, c.Ok) ∧ 1 + sums l ≤ 240 ∧ risesB l = true := by
  unfold putOk
  rw [Bool.and_eq_true, fits_iff]
  constructor
  · rintro ⟨⟨h1, h2, h3⟩, h4⟩; exact ⟨h1, h2, h4⟩
  · rintro ⟨h1, h2, h4⟩; exact ⟨⟨h1, h2, rises_nodup h4⟩, h4⟩
theorem putOk_fits {l : List Ce} (h : putOk l = true) : fitsB l = true := by unfold putOk at h; rw [Bool.and_eq_true] at h; exact h.1

/-! Bytes. -/
def two (n : Int) : BA := [UInt8.ofNat (n.toNat / 256), UInt8.ofNat n.toNat]
def tailC (c : Ce) : BA := if c.blob = 0 then [0] ++ two c.val.size ++ c.val.data.toList else [1] ++ two c.size ++ two c.blob
def encC (c : Ce) : BA := [UInt8.ofNat c.key.size] ++ c.key.data.toList ++ tailC c
theorem tailC_length (c : Ce) : (tailC c).length = 3 + (if c.blob = 0 then c.val.size else 2) := by
  unfold tailC
  split
  · simp only [two, List.length_append, List.length_cons, List.length_nil, size_data]
  · simp [two]
theorem encC_length (c : Ce) : (encC c).length = sizeC c := by
  unfold encC sizeC
  rw [List.length_append, List.length_append, tailC_length, size_data, List.length_singleton]
  split <;> omega
def encs (l : List Ce) : BA := l.flatMap encC
theorem encs_nil : encs [] = [] := rfl
theorem encs_cons (c : Ce) (l : List Ce) : encs (c :: l) = encC c ++ encs l := by simp [encs]
theorem encs_append (l m : List Ce) : encs (l ++ m) = encs l ++ encs m := by simp [encs]
theorem encs_take (l : List Ce) (k : Nat) (h : k < l.length) : encs (l.take (k + 1)) = encs (l.take k) ++ encC (l.getD k nilC) := by
  rw [take_snoc l k h, encs_append]; simp [encs]
theorem encs_length (l : List Ce) : (encs l).length = sums l := by
  induction l with
  | nil => rfl
  | cons c l ih => rw [encs_cons, List.length_append, encC_length, ih, sums_cons]
def bodyOf (l : List Ce) : BA := UInt8.ofNat l.length :: encs l ++ zs (239 - sums l)
theorem bodyOf_length {l : List Ce} (h : putOk l = true) : (bodyOf l).length = 240 := by
  have := (putOk_iff.1 h).2.1
  unfold bodyOf
  rw [List.length_append, List.length_cons, encs_length, zs_length]
  omega
def putS (l : List Ce) : BA := if putOk l then bodyOf l else []
/-- A number's bytes, the most significant one first. -/
def numB (b : BA) : Nat := b.foldl (fun n x => n * 256 + x.toNat) 0
theorem numB_nil : numB [] = 0 := rfl
theorem numB_snoc (b : BA) (x : UInt8) : numB (b ++ [x]) = numB b * 256 + x.toNat := by simp [numB]
theorem numB_one (x : UInt8) : numB [x] = x.toNat := by simp [numB]
theorem numB_lt : ∀ b : BA, b.length ≤ 2 → numB b < 65536
  | [], _ => by simp [numB]
  | [x], _ => by rw [numB_one]; have := x.toNat_lt; omega
  | [x, y], _ => by simp [numB]; have := x.toNat_lt; have := y.toNat_lt; omega
  | _ :: _ :: _ :: _, h => by simp at h
theorem numB_lt1 : ∀ b : BA, b.length ≤ 1 → numB b < 256
  | [], _ => by simp [numB]
  | [x], _ => by rw [numB_one]; have := x.toNat_lt; omega
  | _ :: _ :: _, h => by simp at h
theorem numB_two {n : Int} (h0 : 0 ≤ n) (h1 : n < 65536) : numB (two n) = n.toNat := by
  unfold two numB
  simp [UInt8.toNat_ofNat']
  omega
theorem byte_nat {n : Nat} (h : n < 256) : (UInt8.ofNat n).toNat = n := by rw [UInt8.toNat_ofNat']; omega
/-! One cell of bytes. -/
def key1 (s : BA) : BA := (s.drop 1).take (numB (s.take 1))
def mid1 (s : BA) : BA := (s.drop 1).drop (numB (s.take 1))
def kind1 (s : BA) : Nat := numB ((mid1 s).take 1)
def size1 (s : BA) : Nat := numB (((mid1 s).drop 1).take 2)
def tail1 (s : BA) : BA := ((mid1 s).drop 1).drop 2
def cell1 (s : BA) : Ce := if kind1 s = 0 then ⟨str (key1 s), str ((tail1 s).take (size1 s)), 0, 0⟩ else ⟨str (key1 s), ⟨#[]⟩, numB ((tail1 s).take 2), size1 s⟩
def rest1 (s : BA) : BA := if kind1 s = 0 then (tail1 s).drop (size1 s) else (tail1 s).drop 2
def restN : Nat → BA → BA
  | 0, s => s
  | n + 1, s => rest1 (restN n s)
def cellsN : Nat → BA → List Ce
  | 0, _ => []
  | n + 1, s => cellsN n s ++ [cell1 (restN n s)]
theorem cellsN_length (n : Nat) (s : BA) : (cellsN n s).length = n := by
  induction n with
  | zero => rfl
  | succ n ih => rw [cellsN, List.length_append, ih]; rfl
structure Parts (c : Ce) (s r : BA) : Prop where
  key : key1 s = c.key.data.toList
  mid : mid1 s = tailC c ++ r
  kind : kind1 s = if c.blob = 0 then 0 else 1
  size : size1 s = if c.blob = 0 then c.val.size else c.size.toNat
  tail : tail1 s = (if c.blob = 0 then c.val.data.toList else two c.blob) ++ r
theorem parts {c : Ce} (h : c.Ok) (r : BA) : Parts c (encC c ++ r) r := by
  have hk : numB ((encC c ++ r).take 1) = c.key.size := by
    have : (encC c ++ r).take 1 = [UInt8.ofNat c.key.size] := by simp [encC]
    rw [this, numB_one, byte_nat (by have := h.1; omega)]
  have hd : (encC c ++ r).drop 1 = c.key.data.toList ++ (tailC c ++ r) := by simp [encC]
  have hm : mid1 (encC c ++ r) = tailC c ++ r := by
    unfold mid1
    rw [hk, hd, List.drop_left' (size_data _)]
  refine ⟨?_, hm, ?_, ?_, ?_⟩
  · unfold key1
    rw [hk, hd, List.take_left' (size_data _)]
  · unfold kind1
    rw [hm]
    unfold tailC
    split <;> simp [numB]
  · unfold size1
    rw [hm]
    unfold tailC
    obtain ⟨_, h | h⟩ := h
    · rw [if_pos h.1, if_pos h.1]
      have : (([0] ++ two c.val.size ++ c.val.data.toList ++ r).drop 1).take 2 = two c.val.size := by simp [two]
      rw [this, numB_two (by omega) (by omega)]
      omega
    · rw [if_neg (by omega), if_neg (by omega)]
      have : (([1] ++ two c.size ++ two c.blob ++ r).drop 1).take 2 = two c.size := by simp [two]
      rw [this, numB_two (by omega) (by omega)]
  · unfold tail1
    rw [hm]
    unfold tailC
    split <;> simp [two]
theorem cell1_enc {c : Ce} (h : c.Ok) (r : BA) : cell1 (encC c ++ r) = c ∧ rest1 (encC c ++ r) = r := by
  obtain ⟨p1, p2, p3, p4, p5⟩ := parts h r
  unfold cell1 rest1
  rw [p3, p1, p4, p5, str_data]
  obtain ⟨_, h | h⟩ := h
  · simp only [h.1, if_true]
    rw [List.take_left' (size_data _), List.drop_left' (size_data _), str_data]
    exact ⟨Ce.same rfl rfl h.1.symm h.2.2.symm, rfl⟩
  · have h0 : ¬ c.blob = 0 := by omega
    simp only [h0, if_false, Nat.one_ne_zero]
    rw [List.take_left' (by simp [two]), List.drop_left' (by simp [two]), numB_two (by omega) (by omega)]
    exact ⟨Ce.same rfl (str_nil h.2.1).symm (by show ((c.blob.toNat : Nat) : Int) = c.blob; omega) (by show ((c.size.toNat : Nat) : Int) = c.size; omega), rfl⟩
theorem readN {l : List Ce} (h : ∀ c ∈ l, c.Ok) (z : BA) : ∀ n, n ≤ l.length → restN n (encs l ++ z) = encs (l.drop n) ++ z ∧ cellsN n (encs l ++ z) = l.take n
  | 0, _ => ⟨rfl, by simp [cellsN]⟩
  | n + 1, hn => by
    obtain ⟨h1, h2⟩ := readN h z n (by omega)
    have hd : l.drop n = l.getD n nilC :: l.drop (n + 1) := by rw [getD_at (by omega : n < l.length)]; exact List.drop_eq_getElem_cons (by omega)
    have h3 := cell1_enc (h _ (getD_mem (show n < l.length by omega))) (encs (l.drop (n + 1)) ++ z)
    rw [restN, cellsN, h1, h2, hd, encs_cons, List.append_assoc, h3.1, h3.2, take_snoc l n (by omega)]
    exact ⟨rfl, rfl⟩
def parse (b : BA) : List Ce := cellsN (numB (b.take 1)) (b.drop 1)
theorem parse_body {l : List Ce} (h : putOk l = true) : numB ((bodyOf l).take 1) = l.length ∧ (bodyOf l).drop 1 = encs l ++ zs (239 - sums l) ∧ parse (bodyOf l) = l := by
  have hl := fits_len (putOk_fits h)
  have h1 : numB ((bodyOf l).take 1) = l.length := by
    unfold bodyOf
    rw [show (UInt8.ofNat l.length :: encs l ++ zs (239 - sums l)).take 1 = [UInt8.ofNat l.length] by simp, numB_one, byte_nat (by omega)]
  have h2 : (bodyOf l).drop 1 = encs l ++ zs (239 - sums l) := by unfold bodyOf; simp
  refine ⟨h1, h2, ?_⟩
  unfold parse
  rw [h1, h2, (readN (putOk_iff.1 h).1 _ l.length (Nat.le_refl _)).2, List.take_length]
def getOk (b : BA) : Bool := putOk (parse b) && decide (bodyOf (parse b) = b)
def getS (b : BA) : List Ce := if getOk b then parse b else []
theorem getOk_iff {b : BA} : getOk b = true ↔ putOk (parse b) = true ∧ bodyOf (parse b) = b := by
  unfold getOk
  rw [Bool.and_eq_true, decide_eq_true_iff]
theorem getOk_body {l : List Ce} (h : putOk l = true) : getOk (bodyOf l) = true ∧ getS (bodyOf l) = l := by
  have hp := (parse_body h).2.2
  have : getOk (bodyOf l) = true := by rw [getOk_iff, hp]; exact ⟨h, rfl⟩
  unfold getS
  rw [this]
  exact ⟨rfl, hp⟩
theorem getS_ok {b : BA} (h : getOk b = true) : getS b = parse b ∧ putOk (getS b) = true ∧ bodyOf (getS b) = b := by
  have hg : getS b = parse b := by unfold getS; rw [h]; rfl
  have := getOk_iff.1 h
  rw [hg]
  exact ⟨rfl, this.1, this.2⟩
theorem getOk_len {b : BA} (h : getOk b = true) : b.length = 240 := by
  have := getOk_iff.1 h
  rw [← this.2, bodyOf_length this.1]
theorem getOk_none {b : BA} (h : b.length ≠ 240) : getOk b = false := by
  cases g : getOk b with
  | false => rfl
  | true => exact absurd (getOk_len g) h
/-- How a body of cells is read, cell by cell. -/
theorem getOk_rest {b : BA} (h : getOk b = true) : ∃ l, l = parse b ∧ numB (b.take 1) = l.length ∧ (∀ c ∈ l, c.Ok) ∧ ∀ n, n < l.length → ∃ r, restN n (b.drop 1) = encC (l.getD n nilC) ++ r := by
  obtain ⟨h1, h2⟩ := getOk_iff.1 h
  generalize parse b = l at *
  obtain ⟨p1, p2, p3⟩ := parse_body h1
  rw [h2] at p1 p2
  have ho := (putOk_iff.1 h1).1
  refine ⟨l, rfl, p1, ho, fun n hn => ?_⟩
  have hd : l.drop n = l.getD n nilC :: l.drop (n + 1) := by rw [getD_at hn]; exact List.drop_eq_getElem_cons hn
  rw [p2, (readN ho _ n (by omega)).1, hd, encs_cons, List.append_assoc]
  exact ⟨_, rfl⟩
end Go.Proofs.YtljegjcajlkgiaaGreat
