/- Plain facts: two texts that differ in one byte have two hashes. -/
import Derived.Test.YtfcchijkopgchaaPlain
namespace Go.Proofs.Ytfcchijkopgchaa
open Go

theorem mul_inj (a b : Nat) (ha : a < 4294967296) (hb : b < 4294967296) (h : a * 16777619 % 4294967296 = b * 16777619 % 4294967296) : a = b := by
  have e : ∀ x : Nat, x < 4294967296 → (x * 16777619 % 4294967296) * 899433627 % 4294967296 = x := by
    intro x hx
    have e1 : x * 16777619 * 899433627 = x + 4294967296 * (3513497 * x) := by
      rw [Nat.mul_assoc, ← Nat.mul_assoc 4294967296, show 16777619 * 899433627 = 1 + 4294967296 * 3513497 from rfl, Nat.mul_add, Nat.mul_one, Nat.mul_comm x]
    rw [Nat.mul_mod, Nat.mod_mod, ← Nat.mul_mod, e1, Nat.add_mul_mod_self_left, Nat.mod_eq_of_lt hx]
  rw [← e a ha, ← e b hb, h]

theorem xor_lt (a : Nat) (c : UInt8) (ha : a < 4294967296) : a ^^^ c.toNat < 4294967296 := by
  have := u8_lt c
  exact Nat.xor_lt_two_pow (n := 32) (by omega) (by omega)

theorem hstep_eq (a b : Nat) (c d : UInt8) (ha : a < 4294967296) (hb : b < 4294967296) (h : hstep a c = hstep b d) : a ^^^ c.toNat = b ^^^ d.toNat := by
  unfold hstep at h
  exact mul_inj _ _ (xor_lt a c ha) (xor_lt b d hb) h

theorem hstep_inj (a b : Nat) (c : UInt8) (ha : a < 4294967296) (hb : b < 4294967296) (h : hstep a c = hstep b c) : a = b := by
  have e := hstep_eq a b c c ha hb h
  have e2 : (a ^^^ c.toNat) ^^^ c.toNat = (b ^^^ c.toNat) ^^^ c.toNat := by rw [e]
  rwa [Nat.xor_assoc, Nat.xor_assoc, Nat.xor_self, Nat.xor_zero, Nat.xor_zero] at e2

theorem hstep_byte (a : Nat) (c d : UInt8) (ha : a < 4294967296) (h : hstep a c = hstep a d) : c = d := by
  have e := hstep_eq a a c d ha ha h
  have e2 : a ^^^ (a ^^^ c.toNat) = a ^^^ (a ^^^ d.toNat) := by rw [e]
  rw [← Nat.xor_assoc, ← Nat.xor_assoc, Nat.xor_self, Nat.zero_xor, Nat.zero_xor] at e2
  exact UInt8.toNat_inj.1 e2

theorem fold_inj (l : List UInt8) : ∀ a b : Nat, a < 4294967296 → b < 4294967296 → l.foldl hstep a = l.foldl hstep b → a = b := by
  induction l with
  | nil => intro a b _ _ h; exact h
  | cons c l ih =>
    intro a b ha hb h
    exact hstep_inj a b c ha hb (ih _ _ (hstep_lt a c) (hstep_lt b c) h)

theorem hsum_app (l m : List UInt8) : hsum (l ++ m) = m.foldl hstep (hsum l) := List.foldl_append

theorem turned (l m : List UInt8) (c d : UInt8) (h : hsum (l ++ [c] ++ m) = hsum (l ++ [d] ++ m)) : c = d := by
  rw [hsum_app (l ++ [c]) m, hsum_app (l ++ [d]) m] at h
  have := fold_inj m _ _ (hsum_lt _) (hsum_lt _) h
  rw [hsum_snoc, hsum_snoc] at this
  exact hstep_byte _ _ _ (hsum_lt l) this

theorem xor_ne (c d : UInt8) (h : d.toNat ≠ 0) : c ^^^ d ≠ c := by
  intro e
  have e2 : c ^^^ (c ^^^ d) = c ^^^ c := by rw [e]
  rw [← UInt8.xor_assoc, UInt8.xor_self, UInt8.zero_xor] at e2
  exact h (by rw [e2]; rfl)

end Go.Proofs.Ytfcchijkopgchaa
