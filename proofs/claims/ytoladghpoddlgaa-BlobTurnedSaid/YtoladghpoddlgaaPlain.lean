/- Bytes as lists; a page. No program. -/
import Derived.Lib.Strings
import Derived.Lib.Hide
namespace Go.Proofs.Ytoladghpoddlgaa
set_option linter.unusedVariables false
abbrev BA := List UInt8
def str (b : BA) : ByteArray := ⟨b.toArray⟩
theorem str_size (b : BA) : (str b).size = b.length := by simp [str, ByteArray.size]
theorem str_toList (b : BA) : (str b).data.toList = b := by simp [str]
theorem str_inj {a b : BA} (h : str a = str b) : a = b := by rw [← str_toList a, h, str_toList]
theorem str_data (x : ByteArray) : str x.data.toList = x := by cases x; simp [str]
theorem str_append (x : ByteArray) (l : BA) : x ++ str l = str (x.data.toList ++ l) := by
  apply ByteArray.ext
  rw [ByteArray.data_append]
  apply Array.ext'
  simp [str]
theorem str_join (a b : BA) : str a ++ str b = str (a ++ b) := by rw [str_append, str_toList]
theorem str_list (b : BA) : (str b).toList = b := by rw [ByteArray.toList_eq]; exact str_toList b
theorem extract_str (x : ByteArray) (a b : Nat) : x.extract a b = str ((x.data.toList.drop a).take (b - a)) := by
  rw [← Lib.extract_data, str_data]
theorem cut_str (b : BA) (p q d : Nat) (h : q = p + d) : (str b).extract p q = str ((b.drop p).take d) := by
  subst h
  rw [extract_str, str_toList, Nat.add_sub_cancel_left]
theorem size_data (x : ByteArray) : x.data.toList.length = x.size := (Lib.size_eq x).symm
theorem data_inj {a b : ByteArray} (h : a.data.toList = b.data.toList) : a = b := by
  rw [← str_data a, ← str_data b, h]
theorem str_beq (a c : BA) : ((str a).toList == (str c).toList) = decide (a = c) := by
  rw [str_list, str_list]
  by_cases h : a = c
  · rw [decide_eq_true h, h, beq_self_eq_true]
  · rw [decide_eq_false h, beq_eq_false_iff_ne]; exact h
def zs (n : Nat) : BA := List.replicate n 0
theorem zs_length (n : Nat) : (zs n).length = n := by simp [zs]
theorem zs_drop (n k : Nat) : (zs n).drop k = zs (n - k) := by simp [zs]
/-- A page. -/
structure Pg where
  k : Int
  d : Int
  x : Int
  b : ByteArray
theorem Pg.same {p q : Pg} (h1 : p.k = q.k) (h2 : p.d = q.d) (h3 : p.x = q.x) (h4 : p.b = q.b) : p = q := by
  cases p; cases q; simp_all
def nilP : Pg := ⟨0, 0, 0, ⟨#[]⟩⟩
theorem getD_at {l : List Pg} {k : Nat} (h : k < l.length) : l.getD k nilP = l[k] := by simp [List.getD, h]
end Go.Proofs.Ytoladghpoddlgaa
