/- Plain facts on numbers and lists for the hash of chapter 1; nothing here speaks of the program. -/
import Derived.Laws.BitsAllLaws
import Derived.Laws.Entries
import Derived.IntWalk
namespace Go.Proofs.Ytfcchijkopgchaa
open Go

def hstep (h : Nat) (c : UInt8) : Nat := ((h ^^^ c.toNat) * 16777619) % 4294967296
def hsum (l : List UInt8) : Nat := l.foldl hstep 2166136261
def clampd (d : Int) : Nat := (min (max d 0) 31).toNat
def hbits (l : List UInt8) (d : Int) : Nat := hsum l % 2 ^ clampd d

theorem hstep_lt (h : Nat) (c : UInt8) : hstep h c < 4294967296 := by unfold hstep; omega

theorem foldl_snoc {α β : Type} (f : α → β → α) (a : α) (l : List β) (c : β) : (l ++ [c]).foldl f a = f (l.foldl f a) c := by simp

theorem hsum_snoc (l : List UInt8) (c : UInt8) : hsum (l ++ [c]) = hstep (hsum l) c := foldl_snoc hstep 2166136261 l c

theorem hsum_lt (l : List UInt8) : hsum l < 4294967296 := by
  rcases List.eq_nil_or_concat l with rfl | ⟨a, c, rfl⟩
  · decide
  · rw [List.concat_eq_append, hsum_snoc]; exact hstep_lt _ _

theorem u8_lt (c : UInt8) : c.toNat < 256 := c.toNat_lt

/-- one round of the hash as the walk has it -/
theorem hstep_int (h : Nat) (c : UInt8) (hh : h < 4294967296) :
    bits .xor .u32 (h : Int) ((c.toNat : Int) % 4294967296) * 16777619 % 4294967296 = ((hstep h c : Nat) : Int) := by
  have hc := u8_lt c
  rw [show ((c.toNat : Int) % 4294967296) = (c.toNat : Int) from Int.emod_eq_of_lt (by omega) (by omega), u32_xor_nat _ _ hh (by omega)]
  unfold hstep; omega

theorem take_snoc (s : ByteArray) (k : Nat) (h : k < s.size) : s.data.toList.take (k + 1) = s.data.toList.take k ++ [s[k]] := by
  rw [List.take_succ_eq_append_getElem (by simpa using h)]; rfl

theorem pow_le31 (c : Nat) (h : c ≤ 31) : 1 ≤ 2 ^ c ∧ 2 ^ c ≤ 2147483648 :=
  ⟨Nat.one_le_two_pow, Nat.pow_le_pow_right (n := 2) (by omega) h⟩

theorem clampd_lo (d : Int) (h : d < 0) : clampd d = 0 := by unfold clampd; omega
theorem clampd_mid (c : Nat) (h : (c : Int) ≤ 31) : clampd (c : Int) = c := by unfold clampd; omega
theorem clampd_hi (d : Int) (h : ¬ d ≤ 31) : clampd d = 31 := by unfold clampd; omega
theorem clampd_le (d : Int) : clampd d ≤ 31 := by unfold clampd; omega

theorem hbits_lt (l : List UInt8) (d : Int) : hbits l d < 2147483648 := by
  have h := pow_le31 (clampd d) (clampd_le d)
  have := Nat.mod_lt (hsum l) (show 2 ^ clampd d > 0 by omega)
  unfold hbits; omega

theorem pow_int (c : Nat) : ((2 : Int) ^ c) = ((2 ^ c : Nat) : Int) := by push_cast; rfl

theorem pow_mod (c : Nat) (h : c ≤ 31) : ((2 : Int) ^ c % 4294967296) = ((2 ^ c : Nat) : Int) := by
  have hp := pow_le31 c h
  rw [pow_int]
  exact Int.emod_eq_of_lt (by omega) (by omega)

theorem ref_mid (l : List UInt8) (c : Nat) (h : (c : Int) ≤ 31) :
    (hsum l : Int) % ((2 : Int) ^ c % 4294967296) = ((hbits l c : Nat) : Int) := by
  rw [pow_mod c (by omega), ← Int.natCast_emod]
  unfold hbits; rw [clampd_mid c h]

theorem p31 : (2 : Nat) ^ 31 = 2147483648 := by decide

theorem ref_hi (l : List UInt8) (d : Int) (h : ¬ d ≤ 31) : (hsum l : Int) % 2147483648 = ((hbits l d : Nat) : Int) := by
  unfold hbits; rw [clampd_hi d h, p31]; omega

theorem hbits_lo (l : List UInt8) (d : Int) (h : d < 0) : hbits l d = 0 := by
  unfold hbits; rw [clampd_lo d h]; omega

theorem mask (h c : Nat) (hh : h < 4294967296) (hc : c ≤ 31) : bits .and .u32 (h : Int) (((2 ^ c - 1 : Nat)) : Int) = ((h % 2 ^ c : Nat) : Int) := by
  have hp := pow_le31 c hc
  rw [u32_and_nat _ _ hh (by omega), Nat.and_two_pow_sub_one_eq_mod]

theorem fnv_lo (l : List UInt8) (d : Int) (h : d < 0) : bits .and .u32 (hsum l : Int) 0 = ((hbits l d : Nat) : Int) := by
  rw [hbits_lo l d h]
  have := mask (hsum l) 0 (hsum_lt l) (by omega)
  rw [show 2 ^ 0 - 1 = 0 by decide, Nat.pow_zero, Nat.mod_one] at this
  exact this

theorem fnv_mid (l : List UInt8) (c : Nat) (h : (c : Int) ≤ 31) : bits .and .u32 (hsum l : Int) (((2 : Int) ^ c - 1) % 4294967296) = ((hbits l c : Nat) : Int) := by
  have hp := pow_le31 c (by omega)
  have e : (((2 : Int) ^ c - 1) % 4294967296) = ((2 ^ c - 1 : Nat) : Int) := by
    rw [pow_int, Int.natCast_sub hp.1]; exact Int.emod_eq_of_lt (by omega) (by omega)
  rw [e, mask (hsum l) c (hsum_lt l) (by omega)]
  unfold hbits; rw [clampd_mid c h]

theorem fnv_hi (l : List UInt8) (d : Int) (h : ¬ d ≤ 31) : bits .and .u32 (hsum l : Int) 2147483647 = ((hbits l d : Nat) : Int) := by
  have := mask (hsum l) 31 (hsum_lt l) (by omega)
  rw [p31] at this
  unfold hbits; rw [clampd_hi d h, p31]; exact this

def keyB (n : Nat) : Bool := decide (1 ≤ n) && decide ((n : Int) ≤ 16)
def valB (n : Nat) : Bool := decide ((n : Int) ≤ 400)
theorem keyB_yes (n : Nat) (h : 1 ≤ n) : decide ((n : Int) ≤ 16) = keyB n := by unfold keyB; simp [h]
theorem keyB_no (n : Nat) (h : ¬ 1 ≤ n) : false = keyB n := by unfold keyB; simp [h]

theorem i64_and_nat (a b : Nat) (ha : a < 9223372036854775808) (hb : b < 9223372036854775808) : bits .and .i64 (a : Int) (b : Int) = ((a &&& b : Nat) : Int) := by
  have hx : a &&& b ≤ a := Nat.and_le_left
  have h1 : (BitVec.ofInt 64 (a : Int)).toNat = a := by
    rw [BitVec.ofInt_natCast, BitVec.toNat_ofNat]; exact Nat.mod_eq_of_lt (by omega)
  have h2 : (BitVec.ofInt 64 (b : Int)).toNat = b := by
    rw [BitVec.ofInt_natCast, BitVec.toNat_ofNat]; exact Nat.mod_eq_of_lt (by omega)
  show IntKind.i64.wrap ((BitVec.ofInt 64 (a : Int) &&& BitVec.ofInt 64 (b : Int)).toNat : Int) = _
  rw [BitVec.toNat_and, h1, h2]
  exact IntWalk.i64_in _ (by omega)

theorem wrap_pow (c : Nat) (h : c ≤ 31) : IntKind.i64.wrap ((2 : Int) ^ c) = ((2 ^ c : Nat) : Int) := by
  have hp := pow_le31 c h
  rw [pow_int]
  generalize 2 ^ c = p at *
  exact IntWalk.i64_in _ (by omega)

theorem wrap_mask (c : Nat) (h : c ≤ 31) : IntKind.i64.wrap (IntKind.i64.wrap ((2 : Int) ^ c) - 1) = ((2 ^ c - 1 : Nat) : Int) := by
  have hp := pow_le31 c h
  rw [wrap_pow c h, Int.natCast_sub hp.1]
  generalize 2 ^ c = p at *
  exact IntWalk.i64_in _ (by omega)

/-- fewer bits are the end of more -/
theorem bits_fewer (l : List UInt8) (x y : Nat) (h : (x : Int) ≤ y) (hy : (y : Int) ≤ 31) :
    (((hbits l x : Nat) : Int) == bits BinOp.and IntKind.i64 ((hbits l y : Nat) : Int) (IntKind.i64.wrap (IntKind.i64.wrap ((2 : Int) ^ x) - 1))) = true := by
  have hl := hbits_lt l y
  have hp := pow_le31 x (by omega)
  rw [wrap_mask x (by omega), i64_and_nat _ _ (by omega) (by omega), Nat.and_two_pow_sub_one_eq_mod, beq_iff_eq]
  unfold hbits
  rw [clampd_mid x (by omega), clampd_mid y hy, Nat.mod_mod_of_dvd _ (Nat.pow_dvd_pow 2 (by omega))]

theorem bits_small (l : List UInt8) (x : Nat) (h : (x : Int) ≤ 31) : decide (((hbits l x : Nat) : Int) < IntKind.i64.wrap ((2 : Int) ^ x)) = true := by
  have hp := pow_le31 x (by omega)
  have := Nat.mod_lt (hsum l) (show 2 ^ x > 0 by omega)
  rw [wrap_pow x (by omega), decide_eq_true_eq]
  unfold hbits
  rw [clampd_mid x h]; omega

theorem hbits_nil (l : List UInt8) (d : Int) (h : d ≤ 0) : hbits l d = 0 := by
  unfold hbits; rw [show clampd d = 0 by unfold clampd; omega]; omega
theorem hbits_all (l : List UInt8) (d : Int) (h : 31 ≤ d) : hbits l d = hbits l 31 := by
  unfold hbits; rw [show clampd d = 31 by unfold clampd; omega, show clampd 31 = 31 by decide]
theorem hbits_one (l : List UInt8) : hbits l 1 = 0 ∨ hbits l 1 = 1 := by
  unfold hbits; rw [show clampd 1 = 1 by decide]; omega
theorem wf_hi (n : Int) (h : (Lit.int .i64 n).wf = true) : n ≤ 9223372036854775807 ∧ -9223372036854775808 ≤ n := by
  simp [Lit.wf, IntKind.min, IntKind.max, IntKind.bits, IntKind.signed] at h
  omega

end Go.Proofs.Ytfcchijkopgchaa
