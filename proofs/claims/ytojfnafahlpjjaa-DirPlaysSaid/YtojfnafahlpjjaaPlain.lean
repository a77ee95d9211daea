/- Plain mathematics of directories: entries as bytes, doubled, halved, set. No program. -/
import Derived.Lib.Strings
import Derived.Lib.Hide
namespace Go.Proofs.Ytojfnafahlpjjaa
set_option linter.unusedVariables false
abbrev BA := List UInt8
def str (b : BA) : ByteArray := ⟨b.toArray⟩
theorem str_size (b : BA) : (str b).size = b.length := by simp [str, ByteArray.size]
theorem str_toList (b : BA) : (str b).data.toList = b := by simp [str]
theorem str_inj {a b : BA} (h : str a = str b) : a = b := by rw [← str_toList a, h, str_toList]
theorem str_data (x : ByteArray) : str x.data.toList = x := by cases x; simp [str]
theorem str_append (x : ByteArray) (l : BA) : x ++ str l = str (x.data.toList ++ l) := by
  apply ByteArray.ext
  rw [ByteArray.data_append]
  apply Array.ext'
  simp [str]
theorem str_join (a b : BA) : str a ++ str b = str (a ++ b) := by rw [str_append, str_toList]
theorem str_list (b : BA) : (str b).toList = b := by rw [ByteArray.toList_eq]; exact str_toList b
theorem extract_str (x : ByteArray) (a b : Nat) : x.extract a b = str ((x.data.toList.drop a).take (b - a)) := by
  rw [← Lib.extract_data, str_data]
theorem cut_str (b : BA) (p q d : Nat) (h : q = p + d) : (str b).extract p q = str ((b.drop p).take d) := by
  subst h
  rw [extract_str, str_toList, Nat.add_sub_cancel_left]
theorem size_data (x : ByteArray) : x.data.toList.length = x.size := (Lib.size_eq x).symm
def zs (n : Nat) : BA := List.replicate n 0
theorem zs_length (n : Nat) : (zs n).length = n := by simp [zs]
theorem zs_drop (n k : Nat) : (zs n).drop k = zs (n - k) := by simp [zs]
theorem getElem_zs (n i : Nat) : (zs n)[i]? = if i < n then some 0 else none := by unfold zs; rw [List.getElem?_replicate]
/-- A number below 256 as two bytes; entries as bytes; a body. -/
def two (x : Int) : BA := [0, UInt8.ofNat x.toNat]
def bdL (l : List Int) : BA := l.flatMap two
def mkD (l : List Int) : BA := bdL l ++ zs (240 - 2 * l.length)
theorem bdL_length (l : List Int) : (bdL l).length = 2 * l.length := by
  induction l with
  | nil => rfl
  | cons a l ih => simp only [bdL, two, List.flatMap_cons, List.length_append, List.length_cons, List.length_nil] at ih ⊢; omega
theorem bdL_snoc (l : List Int) (x : Int) : bdL (l ++ [x]) = bdL l ++ two x := by simp [bdL]
theorem bdL_append (l m : List Int) : bdL (l ++ m) = bdL l ++ bdL m := by simp [bdL]
theorem bdL_get : ∀ (l : List Int) (j : Nat), (bdL l)[j]? = if j < 2 * l.length then some (if j % 2 = 0 then 0 else UInt8.ofNat (l.getD (j / 2) 0).toNat) else none
  | [], j => by simp [bdL]
  | a :: l, 0 => by simp [bdL, two]
  | a :: l, 1 => by simp [bdL, two]; omega
  | a :: l, j + 2 => by
    have ih := bdL_get l j
    have e : (bdL (a :: l))[j + 2]? = (bdL l)[j]? := by
      simp only [bdL, two, List.flatMap_cons]
      rw [List.getElem?_append_right (by simp)]
      simp
    rw [e, ih, List.length_cons]
    have h1 : (j + 2) % 2 = j % 2 := by omega
    have h2 : (j + 2) / 2 = j / 2 + 1 := by omega
    rw [h1, h2, List.getD_cons_succ]
    by_cases h : j < 2 * l.length
    · rw [if_pos h, if_pos (show j + 2 < 2 * (l.length + 1) by omega)]
    · rw [if_neg h, if_neg (show ¬ j + 2 < 2 * (l.length + 1) by omega)]
theorem mkD_length {l : List Int} (h : l.length ≤ 120) : (mkD l).length = 240 := by unfold mkD; rw [List.length_append, bdL_length, zs_length]; omega
theorem mkD_get (l : List Int) (h : l.length ≤ 120) (j : Nat) : (mkD l)[j]? = if j < 2 * l.length then some (if j % 2 = 0 then 0 else UInt8.ofNat (l.getD (j / 2) 0).toNat) else if j < 240 then some 0 else none := by
  unfold mkD
  by_cases hj : j < 2 * l.length
  · rw [List.getElem?_append_left (by rw [bdL_length]; exact hj), bdL_get, if_pos hj, if_pos hj]
  · rw [List.getElem?_append_right (by rw [bdL_length]; omega), bdL_length, getElem_zs, if_neg hj]
    by_cases h2 : j < 240
    · rw [if_pos (by omega), if_pos h2]
    · rw [if_neg (by omega), if_neg h2]
theorem mkD_drop {l : List Int} : (mkD l).drop (2 * l.length) = zs (240 - 2 * l.length) := by
  unfold mkD
  rw [← bdL_length, List.drop_left]
/-- The number at place i. -/
def numAt (b : BA) (i : Nat) : Int := (b.getD (2 * i) 0).toNat * 256 + (b.getD (2 * i + 1) 0).toNat
def entB (b : BA) (n : Nat) : List Int := (List.range n).map (numAt b)
theorem entB_length (b : BA) (n : Nat) : (entB b n).length = n := by simp [entB]
theorem entB_succ (b : BA) (n : Nat) : entB b (n + 1) = entB b n ++ [numAt b n] := by simp [entB, List.range_succ]
theorem entB_getD (b : BA) {n i : Nat} (h : i < n) : (entB b n).getD i 0 = numAt b i := by simp [entB, List.getD, h]
theorem numAt_range (b : BA) (i : Nat) : 0 ≤ numAt b i ∧ numAt b i < 65536 := by
  unfold numAt
  have h1 := (b.getD (2 * i) 0).toNat_lt
  have h2 := (b.getD (2 * i + 1) 0).toNat_lt
  omega
def rightB (x : Int) : Bool := decide (2 ≤ x) && decide (x < 64)
theorem rightB_iff {x : Int} : rightB x = true ↔ 2 ≤ x ∧ x < 64 := by simp [rightB]
theorem rightB_no {x : Int} (h : ¬ (2 ≤ x ∧ x < 64)) : rightB x = false := by
  cases e : rightB x
  · rfl
  · exact absurd (rightB_iff.1 e) h
/-- Entries of a directory of depth e. -/
def GoodD (l : List Int) (e : Nat) : Prop := e ≤ 5 ∧ l.length = 2 ^ e ∧ ∀ x ∈ l, 2 ≤ x ∧ x < 64
theorem pow_le {e : Nat} (h : e ≤ 5) : 1 ≤ 2 ^ e ∧ 2 ^ e ≤ 32 :=
  ⟨Nat.one_le_two_pow, Nat.le_trans (Nat.pow_le_pow_right (by omega) h) (by decide)⟩
theorem GoodD.len {l : List Int} {e : Nat} (h : GoodD l e) : 1 ≤ l.length ∧ l.length ≤ 32 := by rw [h.2.1]; exact pow_le h.1
theorem GoodD.ne {l : List Int} {e : Nat} (h : GoodD l e) : l ≠ [] := by rintro rfl; have := h.len; simp at this
theorem GoodD.body {l : List Int} {e : Nat} (h : GoodD l e) : (mkD l).length = 240 := mkD_length (by have := h.len; omega)
theorem GoodD.at {l : List Int} {e i : Nat} (h : GoodD l e) (hi : i < l.length) : 2 ≤ l.getD i 0 ∧ l.getD i 0 < 64 := by
  refine h.2.2 _ ?_
  rw [List.getD_eq_getElem?_getD, List.getElem?_eq_getElem hi]
  exact List.getElem_mem _
/-- The entries of a page: those of a directory, else none. -/
def dirS (k d : Int) (b : BA) : List Int :=
  if k = 1 ∧ 0 ≤ d ∧ d < 6 ∧ b.length = 240 then
    (if (entB b (2 ^ d.toNat)).all rightB = true ∧ b.drop (2 * 2 ^ d.toNat) = zs (240 - 2 * 2 ^ d.toNat) then entB b (2 ^ d.toNat) else [])
  else []
theorem numAt_mkD {l : List Int} {i : Nat} (hl : l.length ≤ 120) (hi : i < l.length) (h0 : 0 ≤ l.getD i 0 ∧ l.getD i 0 < 256) : numAt (mkD l) i = l.getD i 0 := by
  unfold numAt
  have e0 : (mkD l).getD (2 * i) 0 = 0 := by
    rw [List.getD_eq_getElem?_getD, mkD_get l hl, if_pos (by omega), if_pos (by omega)]; rfl
  have e1 : (mkD l).getD (2 * i + 1) 0 = UInt8.ofNat (l.getD i 0).toNat := by
    rw [List.getD_eq_getElem?_getD, mkD_get l hl, if_pos (by omega), if_neg (by omega), show (2 * i + 1) / 2 = i by omega]; rfl
  rw [e0, e1]
  generalize l.getD i 0 = x at *
  have : (UInt8.ofNat x.toNat).toNat = x.toNat := by
    rw [UInt8.toNat_ofNat']; exact Nat.mod_eq_of_lt (by omega)
  rw [this, show (0 : UInt8).toNat = 0 from rfl]
  omega
theorem entB_mkD {l : List Int} {e : Nat} (h : GoodD l e) : entB (mkD l) (2 ^ e) = l := by
  rw [← h.2.1]
  apply List.ext_getElem (entB_length _ _)
  intro i h1 h2
  have h3 : (entB (mkD l) l.length).getD i 0 = l.getD i 0 := by
    rw [entB_getD _ h2]
    have := h.at h2
    exact numAt_mkD (by have := h.len; omega) h2 (by omega)
  simpa [List.getD, h1, h2] using h3
theorem dirS_mkD {l : List Int} {e : Nat} (h : GoodD l e) : dirS 1 (e : Int) (mkD l) = l := by
  have h5 := h.1
  have hd := mkD_drop (l := l)
  unfold dirS
  rw [if_pos ⟨rfl, by omega, by omega, h.body⟩, Int.toNat_natCast, entB_mkD h]
  rw [h.2.1] at hd
  rw [if_pos ⟨List.all_eq_true.2 (fun x hx => rightB_iff.2 (h.2.2 x hx)), hd⟩]
theorem mkD_entB {b : BA} {n : Nat} (hn : n ≤ 120) (hb : b.length = 240) (hr : ∀ i, i < n → 2 ≤ numAt b i ∧ numAt b i < 64) (hz : b.drop (2 * n) = zs (240 - 2 * n)) : b = mkD (entB b n) := by
  apply List.ext_getElem?
  intro j
  rw [mkD_get _ (by rw [entB_length]; exact hn), entB_length]
  by_cases hj : j < 2 * n
  · rw [if_pos hj]
    have h1 := hr (j / 2) (by omega)
    rw [entB_getD _ (show j / 2 < n by omega)]
    rw [List.getElem?_eq_getElem (by omega)]
    unfold numAt at h1 ⊢
    by_cases h2 : j % 2 = 0
    · rw [if_pos h2]
      have e : 2 * (j / 2) = j := by omega
      rw [e] at h1
      have e2 : b.getD j 0 = b[j] := by rw [List.getD_eq_getElem?_getD, List.getElem?_eq_getElem (by omega)]; rfl
      rw [e2] at h1
      have : b[j].toNat = 0 := by omega
      rw [show b[j] = 0 from UInt8.toNat_inj.1 this]
    · rw [if_neg h2]
      have e : 2 * (j / 2) + 1 = j := by omega
      rw [e] at h1 ⊢
      have e2 : b.getD j 0 = b[j] := by rw [List.getD_eq_getElem?_getD, List.getElem?_eq_getElem (by omega)]; rfl
      rw [e2] at h1 ⊢
      have h3 : (b.getD (2 * (j / 2)) 0).toNat = 0 := by omega
      rw [h3]
      have : ((((0 : Nat) : Int) * 256 + (b[j].toNat : Int)).toNat) = b[j].toNat := by omega
      rw [this]
      simp
  · rw [if_neg hj]
    have h1 := congrArg (fun l => l[j - 2 * n]?) hz
    simp only [List.getElem?_drop, getElem_zs] at h1
    rw [show 2 * n + (j - 2 * n) = j by omega] at h1
    rw [h1]
    by_cases h2 : j < 240
    · rw [if_pos (by omega), if_pos h2]
    · rw [if_neg (by omega), if_neg h2]
theorem dirS_cases (k d : Int) (b : BA) : dirS k d b = [] ∨ (k = 1 ∧ ∃ e : Nat, d = (e : Int) ∧ GoodD (dirS k d b) e ∧ b = mkD (dirS k d b)) := by
  unfold dirS
  by_cases h1 : k = 1 ∧ 0 ≤ d ∧ d < 6 ∧ b.length = 240
  · rw [if_pos h1]
    by_cases h2 : (entB b (2 ^ d.toNat)).all rightB = true ∧ b.drop (2 * 2 ^ d.toNat) = zs (240 - 2 * 2 ^ d.toNat)
    · rw [if_pos h2]
      have h5 : d.toNat ≤ 5 := by omega
      have hp := pow_le h5
      have hall : ∀ i, i < 2 ^ d.toNat → 2 ≤ numAt b i ∧ numAt b i < 64 := fun i hi => rightB_iff.1 (List.all_eq_true.1 h2.1 _ (by unfold entB; exact List.mem_map.2 ⟨i, List.mem_range.2 hi, rfl⟩))
      refine .inr ⟨h1.1, d.toNat, by omega, ⟨h5, entB_length _ _, fun x hx => ?_⟩, mkD_entB (by omega) h1.2.2.2 hall h2.2⟩
      exact rightB_iff.1 (List.all_eq_true.1 h2.1 x hx)
    · rw [if_neg h2]; exact .inl rfl
  · rw [if_neg h1]; exact .inl rfl
/-- The entries doubled, halved, set. -/
theorem GoodD.double {l : List Int} {e : Nat} (h : GoodD l e) (he : e < 5) : GoodD (l ++ l) (e + 1) :=
  ⟨by omega, by rw [List.length_append, h.2.1, Nat.pow_succ]; omega, fun x hx => by
    rcases List.mem_append.1 hx with h1 | h1
    · exact h.2.2 x h1
    · exact h.2.2 x h1⟩
theorem GoodD.half {l : List Int} {e : Nat} (h : GoodD l (e + 1)) : GoodD (l.take (2 ^ e)) e :=
  ⟨by have := h.1; omega, by rw [List.length_take, h.2.1, Nat.pow_succ]; omega, fun x hx => h.2.2 x (List.mem_of_mem_take hx)⟩
/-- Entries by a function of their place. -/
def tabF (f : Nat → Int) (n : Nat) : List Int := (List.range n).map f
theorem tabF_length (f : Nat → Int) (n : Nat) : (tabF f n).length = n := by simp [tabF]
theorem tabF_succ (f : Nat → Int) (n : Nat) : tabF f (n + 1) = tabF f n ++ [f n] := by simp [tabF, List.range_succ]
theorem tabF_getD (f : Nat → Int) {n i : Nat} (h : i < n) : (tabF f n).getD i 0 = f i := by simp [tabF, List.getD, h]
theorem tabF_good {f : Nat → Int} {e : Nat} (he : e ≤ 5) (h : ∀ i, i < 2 ^ e → 2 ≤ f i ∧ f i < 64) : GoodD (tabF f (2 ^ e)) e :=
  ⟨he, tabF_length _ _, fun x hx => by
    obtain ⟨i, hi, rfl⟩ := List.mem_map.1 hx
    exact h i (List.mem_range.1 hi)⟩
/-- What a table, and a turned one, answer. -/
def tatF (l : List Int) (i : Nat) : Int := l.getD (i % l.length) 0
def setF (l : List Int) (bits depth : Nat) (n : Int) (i : Nat) : Int := if i % 2 ^ depth = bits then n else tatF l i
theorem tab_double {l : List Int} {e : Nat} (h : GoodD l e) : tabF (tatF l) (2 ^ (e + 1)) = l ++ l := by
  have hl := h.2.1
  have hp := pow_le h.1
  apply List.ext_getElem (by rw [tabF_length, List.length_append, hl, Nat.pow_succ]; omega)
  intro i h1 h2
  have h3 : i < 2 ^ (e + 1) := by simpa [tabF] using h1
  rw [Nat.pow_succ] at h3
  simp only [tabF, List.getElem_map, List.getElem_range, tatF, hl]
  rw [List.getElem_append]
  by_cases hi : i < l.length
  · rw [dif_pos hi, Nat.mod_eq_of_lt (by omega)]; simp [List.getD, hi]
  · rw [dif_neg hi, Nat.mod_eq_sub_mod (by omega), Nat.mod_eq_of_lt (by omega), ← hl]
    simp [List.getD, show i - l.length < l.length by omega]
theorem tab_half {l : List Int} {e : Nat} (h : GoodD l (e + 1)) : tabF (tatF l) (2 ^ e) = l.take (2 ^ e) := by
  have hl := h.2.1
  rw [Nat.pow_succ] at hl
  apply List.ext_getElem (by rw [tabF_length, List.length_take, hl]; omega)
  intro i h1 h2
  have h3 : i < 2 ^ e := by simpa [tabF] using h1
  simp only [tabF, List.getElem_map, List.getElem_range, tatF, List.getElem_take]
  rw [Nat.mod_eq_of_lt (by omega)]
  simp [List.getD, show i < l.length by omega]
theorem tatF_in {l : List Int} {e : Nat} (h : GoodD l e) (i : Nat) : 2 ≤ tatF l i ∧ tatF l i < 64 := h.at (Nat.mod_lt _ (by have := h.len; omega))
theorem setF_in {l : List Int} {e : Nat} (h : GoodD l e) {bits depth : Nat} {n : Int} (hn : 2 ≤ n ∧ n < 64) (i : Nat) : 2 ≤ setF l bits depth n i ∧ setF l bits depth n i < 64 := by
  unfold setF
  split
  · exact hn
  · exact tatF_in h i
/-- The entries with those that end in bits set. -/
def setS (l : List Int) (bits depth : Nat) (n : Int) : List Int := tabF (setF l bits depth n) l.length
theorem GoodD.set {l : List Int} {e : Nat} (h : GoodD l e) {bits depth : Nat} {n : Int} (hn : 2 ≤ n ∧ n < 64) : GoodD (setS l bits depth n) e := by
  unfold setS
  rw [h.2.1]
  exact tabF_good h.1 (fun i _ => setF_in h hn i)
theorem setS_getD {l : List Int} {bits depth i : Nat} {n : Int} (hi : i < l.length) : (setS l bits depth n).getD i 0 = if i % 2 ^ depth = bits then n else l.getD i 0 := by
  unfold setS
  rw [tabF_getD _ hi]
  unfold setF tatF
  rw [Nat.mod_eq_of_lt hi]
theorem good_one {x : Int} (h : 2 ≤ x ∧ x < 64) : GoodD [x] 0 := ⟨by omega, rfl, fun y hy => by rw [List.mem_singleton.1 hy]; exact h⟩
end Go.Proofs.Ytojfnafahlpjjaa
