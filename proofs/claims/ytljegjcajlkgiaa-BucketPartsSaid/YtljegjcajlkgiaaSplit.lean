/- The contract of Split; the document's own Bits. -/
import Derived.Test.YtljegjcajlkgiaaSized
import Derived.Test.YtljegjcajlkgiaaChosenb
namespace Go.Proofs.Ytljegjcajlkgiaa
open Go.ChangeShapes Go.WideShapes Go.ChangeAt Go.RowKit
set_option linter.unusedVariables false
set_option linter.unusedSimpArgs false
set_option maxRecDepth 100000
def bitsC (d : Nat) (c : Ce) : Nat := hsum c.key.data.toList % 2 ^ d
theorem bits_succ (d : Nat) (c : Ce) : bitsC (d + 1) c = bitsC d c + (if oneB d c then 2 ^ d else 0) := by
  unfold bitsC oneB
  generalize hsum c.key.data.toList = h
  rw [Nat.pow_succ, Nat.mod_mul]
  by_cases e : h / 2 ^ d % 2 = 1
  · rw [decide_eq_true e, if_pos rfl, e, Nat.mul_one]
  · rw [decide_eq_false e, if_neg (by simp), show h / 2 ^ d % 2 = 0 by omega, Nat.mul_zero]
theorem bits_lt (d : Nat) (c : Ce) : bitsC d c < 2 ^ d := Nat.mod_lt _ (Nat.pow_pos (by omega))
/-- The cells whose hash ends in i. -/
def partF (l : List Ce) (d i : Nat) : List Ce := l.filter fun c => decide (bitsC d c = i)
theorem part_zero (l : List Ce) (d i : Nat) (hi : i < 2 ^ d) : (partF l d i).filter (zeroB d) = partF l (d + 1) i := by
  unfold partF
  rw [List.filter_filter]
  refine List.filter_congr fun c _ => ?_
  have h1 := bits_succ d c
  have h2 := bits_lt d c
  unfold zeroB
  cases g : oneB d c with
  | true => rw [g, if_pos rfl] at h1; simp only [Bool.not_true, Bool.false_and]; exact (decide_eq_false (by omega)).symm
  | false => rw [g, if_neg (by simp)] at h1; simp only [Bool.not_false, Bool.true_and]; exact decide_eq_decide.2 (by omega)
theorem part_one (l : List Ce) (d i : Nat) (hi : i < 2 ^ d) : (partF l d i).filter (oneB d) = partF l (d + 1) (i + 2 ^ d) := by
  unfold partF
  rw [List.filter_filter]
  refine List.filter_congr fun c _ => ?_
  have h1 := bits_succ d c
  have h2 := bits_lt d c
  cases g : oneB d c with
  | true => rw [g, if_pos rfl] at h1; simp only [Bool.true_and]; exact decide_eq_decide.2 (by omega)
  | false => rw [g, if_neg (by simp)] at h1; simp only [Bool.false_and]; exact (decide_eq_false (by omega)).symm
theorem part_first (l : List Ce) : partF l 0 0 = l := by
  unfold partF
  refine List.filter_eq_self.2 fun c _ => ?_
  exact decide_eq_true (by unfold bitsC; omega)
theorem part_mem {l : List Ce} {d i : Nat} {c : Ce} (h : c ∈ partF l d i) : c ∈ l ∧ bitsC d c = i := by
  obtain ⟨h1, h2⟩ := List.mem_filter.1 h
  exact ⟨h1, of_decide_eq_true h2⟩
def sumL (f : Nat → Nat) : Nat → Nat
  | 0 => 0
  | n + 1 => sumL f n + f n
theorem sumL_le (f : Nat → Nat) {a b : Nat} (h : a ≤ b) : sumL f a ≤ sumL f b := by
  induction b with
  | zero => rw [Nat.le_zero.1 h]; exact Nat.le_refl _
  | succ b ih =>
    by_cases e : a = b + 1
    · rw [e]; exact Nat.le_refl _
    · exact Nat.le_trans (ih (by omega)) (Nat.le_add_right _ _)
theorem sumL_one (g : Nat) (n : Nat) : sumL (fun j => if g = j then 1 else 0) n = if g < n then 1 else 0 := by
  induction n with
  | zero => rfl
  | succ n ih =>
    rw [sumL, ih]
    by_cases h : g < n
    · rw [if_pos h, if_neg (by omega), if_pos (by omega)]
    · by_cases e : g = n
      · rw [if_neg h, if_pos e, if_pos (by omega)]
      · rw [if_neg h, if_neg e, if_neg (by omega)]
theorem sumL_add (f g : Nat → Nat) (n : Nat) : sumL (fun j => f j + g j) n = sumL f n + sumL g n := by
  induction n with
  | zero => rfl
  | succ n ih => rw [sumL, sumL, sumL, ih]; omega
theorem parts_all (d : Nat) : ∀ l : List Ce, sumL (fun j => (partF l d j).length) (2 ^ d) = l.length
  | [] => by
    have h : ∀ n, sumL (fun j => (partF [] d j).length) n = 0 := fun n => by
      induction n with
      | zero => rfl
      | succ n ih => rw [sumL, ih]; rfl
    exact h _
  | c :: l => by
    have ih := parts_all d l
    have e : (fun j => (partF (c :: l) d j).length) = fun j => (partF l d j).length + (if bitsC d c = j then 1 else 0) := by
      funext j
      unfold partF
      rw [List.filter_cons]
      by_cases h : bitsC d c = j
      · rw [decide_eq_true h, if_pos rfl, if_pos h, List.length_cons]
      · rw [decide_eq_false h, if_neg (by simp), if_neg h]; rfl
    rw [e, sumL_add, ih, sumL_one, if_pos (bits_lt d c), List.length_cons]
set_option maxHeartbeats 1000000 in
theorem split_any {C n c : Nat} {A : Option Addr} {l : List Ce} (d : Nat) (hd : d < 32) (w : World) (h : Ces C w A l) (hn : l.length = n) (hm : n ≤ 1000) (hs : ∀ p ∈ l, p.key.size ≤ 281474976710656 ∧ p.val.size ≤ 281474976710656) (hC : C ≤ w.heap.size) :
    Calls Try.prog 18 #[.int .i64 d, .slice A n c] w fun e w' => ∃ A1 c1 A2 c2, e = .returned (.tuple #[.slice A1 (l.filter (zeroB d)).length c1, .slice A2 (l.filter (oneB d)).length c2]) ∧
      w'.ownsRow w.heap.size 31 4 (.slice A1 (l.filter (zeroB d)).length c1) (l.filter (zeroB d)).length (ccs (l.filter (zeroB d))) ∧ w'.ownsRow w.heap.size 31 4 (.slice A2 (l.filter (oneB d)).length c2) (l.filter (oneB d)).length (ccs (l.filter (oneB d))) ∧ Below w.heap.size w w' := by
  have CZ := Lib.hid (chosen_zero (c := c) d hd w h hn (by omega) hs hC)
  have CO := Lib.hid (fun w' (hb : Below w.heap.size w w') => chosen_one (c := c) d hd w' ((h.more hC).kept hb) hn (by omega) hs hb.size)
  unfold NewL Own at CZ CO
  generalize l.filter (zeroB d) = lz at *
  generalize l.filter (oneB d) = lo at *
  obtain ⟨nz, hnz⟩ : ∃ n, lz.length = n := ⟨_, rfl⟩
  obtain ⟨no, hno⟩ : ∃ n, lo.length = n := ⟨_, rfl⟩
  rw [hnz] at CZ ⊢
  rw [hno] at CO ⊢
  clear hnz hno h hn hs hC
  go_enter Try.func18, Try.ntmps18
  go_wp2_with fail
  refine CZ.out.mono ?_; rintro e w1 ⟨A1, c1, rfl, h1, hb1⟩
  have H1 := Lib.hid h1
  have HB1 := Lib.hid hb1
  clear h1 hb1
  go_wp2_with fail
  refine (CO.out _ HB1.out).mono ?_; rintro e w2 ⟨A2, c2, rfl, h2, hb2⟩
  have H2 := Lib.hid (own_base h2 HB1.out.size)
  have H3 := Lib.hid (owns_kept2 H1.out fun g hg => hb2.block g (H1.out.lt g hg).2)
  have HB2 := Lib.hid (HB1.out.trans (hb2.mono HB1.out.size))
  clear h2 hb2
  go_wp2_with fail
  go_ret2
  exact ⟨A1, c1, A2, c2, rfl, H3.out, H2.out, HB2.out⟩
theorem pow_le31 (c : Nat) (h : c ≤ 31) : 1 ≤ 2 ^ c ∧ 2 ^ c ≤ 2147483648 :=
  ⟨Nat.one_le_two_pow, Nat.pow_le_pow_right (n := 2) (by omega) h⟩
theorem pow_int (c : Nat) : ((2 : Int) ^ c) = ((2 ^ c : Nat) : Int) := by push_cast; rfl
theorem pow_mod (c : Nat) (h : c ≤ 31) : ((2 : Int) ^ c % 4294967296) = ((2 ^ c : Nat) : Int) := by
  have hp := pow_le31 c h
  rw [pow_int]
  exact Int.emod_eq_of_lt (by omega) (by omega)
theorem rbits_any (s : ByteArray) (d : Nat) (hd : d ≤ 31) (w : World) (hs : s.size ≤ maxLen) :
    Calls Try.prog 19 #[.string s, .int .i64 d] w fun e w' => e = .returned (.int .i64 (hsum s.data.toList % 2 ^ d : Nat)) ∧ w = w' := by
  have h1 : (d : Int) ≤ 31 := by omega
  have h0 : ¬ (d : Int) < 0 := by omega
  have hx := hsum_lt s.data.toList
  have hv := Lib.hid (show wrap64 ((hsum s.data.toList : Int) % ((2 : Int) ^ d % 4294967296)) = ((hsum s.data.toList % 2 ^ d : Nat) : Int) from by
    rw [pow_mod d hd, ← Int.natCast_emod]
    have := Nat.mod_le (hsum s.data.toList) (2 ^ d)
    unfold wrap64
    omega)
  have hp := pow_le31 d hd
  have hne : ¬ ((2 : Int) ^ d % 4294967296 = 0) := by rw [pow_mod d hd]; omega
  clear hp hx
  have RS := Lib.hid (fun w => ref_sum s w hs)
  have hmn : min (d : Int) 31 = (d : Int) := by omega
  generalize hsum s.data.toList = x at *
  go_enter Try.func19, Try.ntmps19
  go_wp2_with fail
  refine (RS.out _).mono ?_; rintro e w1 ⟨rfl, rfl⟩
  go_wp2_with fail
  go_ret
  exact ⟨by rw [← hv.out]; rfl, rfl⟩
end Go.Proofs.Ytljegjcajlkgiaa
