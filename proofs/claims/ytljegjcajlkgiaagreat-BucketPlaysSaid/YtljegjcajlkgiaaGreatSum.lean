/- Hashes: plain facts on them; the contracts of fnv.Sum and of the document's own Sum. -/
import Derived.Test.YtljegjcajlkgiaaGreatMem
import Derived.Laws.BitsAllLaws
import Derived.Laws.Entries
import Derived.IntWalk
import Derived.LoopTactic
namespace Go.Proofs.YtljegjcajlkgiaaGreat
open Go.ChangeShapes Go.WideShapes Go.ChangeAt Go.RowKit
set_option linter.unusedVariables false
def hstep (h : Nat) (c : UInt8) : Nat := ((h ^^^ c.toNat) * 16777619) % 4294967296
def hsum (l : List UInt8) : Nat := l.foldl hstep 2166136261
theorem hstep_lt (h : Nat) (c : UInt8) : hstep h c < 4294967296 := by unfold hstep; omega
theorem foldl_snoc {α β : Type} (f : α → β → α) (a : α) (l : List β) (c : β) : (l ++ [c]).foldl f a = f (l.foldl f a) c := by simp
theorem hsum_snoc (l : List UInt8) (c : UInt8) : hsum (l ++ [c]) = hstep (hsum l) c := foldl_snoc hstep 2166136261 l c
theorem hsum_lt (l : List UInt8) : hsum l < 4294967296 := by
  rcases List.eq_nil_or_concat l with rfl | ⟨a, c, rfl⟩
  · decide
  · rw [List.concat_eq_append, hsum_snoc]; exact hstep_lt _ _
theorem u8_lt (c : UInt8) : c.toNat < 256 := c.toNat_lt
theorem hstep_int (h : Nat) (c : UInt8) (hh : h < 4294967296) :
    bits .xor .u32 (h : Int) ((c.toNat : Int) % 4294967296) * 16777619 % 4294967296 = ((hstep h c : Nat) : Int) := by
  have hc := u8_lt c
  rw [show ((c.toNat : Int) % 4294967296) = (c.toNat : Int) from Int.emod_eq_of_lt (by omega) (by omega), u32_xor_nat _ _ hh (by omega)]
  unfold hstep; omega
theorem takeb_snoc (s : ByteArray) (k : Nat) (h : k < s.size) : s.data.toList.take (k + 1) = s.data.toList.take k ++ [s[k]] := by
  rw [List.take_succ_eq_append_getElem (by simpa using h)]; rfl
theorem u32_congr {a b : Int} (h : a = b) : Value.int IntKind.u32 a = Value.int IntKind.u32 b := by rw [h]
theorem ret_u32 {a b : Int} (h : a = b) : Ending.returned (.int .u32 a) = .returned (.int .u32 b) := by rw [h]
theorem take_all (s : ByteArray) (k : Nat) (h : s.size ≤ k) : s.data.toList.take k = s.data.toList := List.take_of_length_le (by simpa using h)
theorem round_u32 (s : ByteArray) (k : Nat) (h : k < s.size) :
    bits .xor .u32 ((hsum (s.data.toList.take k) : Nat) : Int) ((s[k].toNat : Int) % 4294967296) * 16777619 % 4294967296 = ((hsum (s.data.toList.take (k + 1)) : Nat) : Int) := by
  rw [takeb_snoc s k h, hsum_snoc]; exact hstep_int _ _ (hsum_lt _)
end Go.Proofs.YtljegjcajlkgiaaGreat
