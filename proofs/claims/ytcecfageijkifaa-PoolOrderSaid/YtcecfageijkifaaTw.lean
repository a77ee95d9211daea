/- PoolTwice, plainly. -/
import Derived.Test.YtcecfageijkifaaSi
namespace Go.Proofs.Ytcecfageijkifaa.Po
open Go.ChangeShapes Go.WideShapes Go.ChangeAt Go.RowKit
set_option linter.unusedVariables false
set_option linter.unusedSimpArgs false
set_option maxRecDepth 100000
/-- The pages a .. a+m-1. -/
def rowF (a m : Nat) : List Int := (List.range m).map fun i => ((a + i : Nat) : Int)
theorem rowF_snoc (a m : Nat) : rowF a (m + 1) = rowF a m ++ [((a + m : Nat) : Int)] := by simp [rowF, List.range_succ]
theorem rowF_cons (a m : Nat) : rowF a (m + 1) = (a : Int) :: rowF (a + 1) m := by
  unfold rowF
  rw [List.range_succ_eq_map, List.map_cons, List.map_map]
  congr 1
  refine List.map_congr_left fun i _ => ?_
  simp only [Function.comp_apply]
  congr 1
  omega
theorem rowF_mem {a m : Nat} {j : Int} : j ∈ rowF a m ↔ (a : Int) ≤ j ∧ j < ((a + m : Nat) : Int) := by
  unfold rowF
  rw [List.mem_map]
  constructor
  · rintro ⟨i, hi, rfl⟩
    have := List.mem_range.1 hi
    omega
  · intro h
    exact ⟨(j - a).toNat, List.mem_range.2 (by omega), by omega⟩
theorem rowF_length (a m : Nat) : (rowF a m).length = m := by simp [rowF]
theorem insK_end {x : Int} {ks : List Int} (h : ∀ j ∈ ks, j < x) : insK x ks = ks ++ [x] := by
  unfold insK
  rw [List.filter_eq_self.2 (fun j hj => by simpa using h j hj), List.filter_eq_nil_iff.2 (fun j hj => by have := h j hj; simp; omega)]
theorem delK_none {x : Int} {ks : List Int} (h : x ∉ ks) : delK x ks = ks := List.filter_eq_self.2 fun j hj => by
  simp only [decide_eq_true_eq]
  exact fun e => h (e ▸ hj)
/-- Page 0, asked for twice, and the last ones of 1 .. k, asked for once. -/
structure Tw (f k : Nat) (A : Pl) : Prop where
  most : A.most = f
  ks : A.ks = 0 :: rowF (k - min k (f - 1) + 1) (min k (f - 1))
  t0 : A.tm 0 = (1, 2)
  t1 : ∀ j : Nat, 1 ≤ j → j ≤ k → A.tm (j : Int) = (0, j + 2)
  t2 : ∀ j : Int, (k : Int) < j → A.tm j = (0, 0)
  acc : A.acc = k + 2
  d : ∀ j, (A.fr j).d = false
section
variable {gr gw gl : Nat} {b : BA} {A : Pl} {f k : Nat}
theorem tw_start (hf : 2 ≤ f) : ∃ A1 x1 A2 x2, getP (hostC gr gw gl b) (newP f) () 0 = (x1, A1, ()) ∧ getP (hostC gr gw gl b) A1 () 0 = (x2, A2, ()) ∧ Tw f 0 A2 ∧ A1.acc = 1 := by
  have hp : provP (hostC gr gw gl b) (newP f) () 0 b = (0, insP (newP f) 0 b, ()) := by
    unfold provP
    rw [if_neg (by simp [newP]), if_pos (by show 0 < f; omega)]
  have h1 : getP (hostC gr gw gl b) (newP f) () 0 = ((b, 0), accP (insP (newP f) 0 b) 0, ()) := by
    unfold getP
    rw [if_neg (by simp [newP]), if_neg (by simp [hostC]), show ((hostC gr gw gl b).rdF () 0) = ((b, 0), ()) from rfl]
    rw [hp]
    simp [insP, upd]
  have h2 : getP (hostC gr gw gl b) (accP (insP (newP f) 0 b) 0) () 0 = ((b, 0), accP (accP (insP (newP f) 0 b) 0) 0, ()) := by
    unfold getP
    rw [if_pos (by show (0 : Int) ∈ insK 0 []; simp [insK])]
    simp [accP, insP, upd]
  refine ⟨_, _, _, _, h1, h2, ⟨rfl, ?_, ?_, fun j h3 h4 => by omega, fun j hj => ?_, rfl, fun j => ?_⟩, rfl⟩
  · show insK 0 [] = _
    simp [insK, rowF]
  · simp [accP, upd, newP, insP]
  · have hj0 : j ≠ 0 := by omega
    simp [accP, upd, newP, insP, hj0]
  · by_cases hj : j = 0
    · subst hj; simp [accP, insP, upd]
    · simp [accP, insP, upd, hj, newP]
theorem tw_victim (h : Tw f k A) (hm : 1 ≤ min k (f - 1)) : victim A = ((k - min k (f - 1) + 1 : Nat) : Int) := by
  obtain ⟨m, hmm⟩ : ∃ m, min k (f - 1) = m + 1 := ⟨min k (f - 1) - 1, by omega⟩
  have hks := h.ks
  rw [hmm, rowF_cons] at hks
  rw [hmm]
  have h1 : before A ((k - (m + 1) + 1 : Nat) : Int) 0 = true := by
    unfold before
    rw [h.t0, h.t1 _ (by omega) (by omega)]
    simp
  have key : ∀ (n a : Nat), k - (m + 1) + 1 < a → a + n ≤ k + 1 → (rowF a n).foldl (fun x y => if before A y x then y else x) ((k - (m + 1) + 1 : Nat) : Int) = ((k - (m + 1) + 1 : Nat) : Int) := by
    intro n
    induction n with
    | zero => intro a _ _; rfl
    | succ n ih =>
      intro a ha1 ha2
      rw [rowF_cons, List.foldl_cons]
      have h2 : before A (a : Int) ((k - (m + 1) + 1 : Nat) : Int) = false := by
        unfold before
        rw [h.t1 a (by omega) (by omega), h.t1 _ (by omega) (by omega)]
        simp; omega
      rw [h2]
      exact ih (a + 1) (by omega) (by omega)
  unfold victim
  rw [hks]
  show ((((k - (m + 1) + 1 : Nat) : Int) :: rowF (k - (m + 1) + 1 + 1) m).foldl (fun x y => if before A y x then y else x) 0) = _
  rw [List.foldl_cons, h1, if_pos rfl]
  exact key m _ (by omega) (by omega)
theorem tw_step (hf : 2 ≤ f) (h : Tw f k A) : ∃ A1 x1, getP (hostC gr gw gl b) A () ((k + 1 : Nat) : Int) = (x1, A1, ()) ∧ Tw f (k + 1) A1 := by
  have hnk : ((k + 1 : Nat) : Int) ∉ A.ks := by
    rw [h.ks]
    simp only [List.mem_cons, rowF_mem]
    omega
  have hprov : ∃ A', provP (hostC gr gw gl b) A () ((k + 1 : Nat) : Int) b = (0, A', ()) ∧ A'.ks = 0 :: rowF (k + 1 - min (k + 1) (f - 1) + 1) (min (k + 1) (f - 1)) ∧ A'.tm = A.tm ∧ A'.acc = A.acc ∧ A'.most = A.most ∧ (∀ j, (A'.fr j).d = false) := by
    have hlen : A.ks.length = min k (f - 1) + 1 := by rw [h.ks, List.length_cons, rowF_length]
    have hd : ∀ (B : Pl) (x : Int) (c : BA), (∀ j, (B.fr j).d = false) → ∀ j, ((insP B x c).fr j).d = false := fun B x c hB j => by
      by_cases hj : j = x
      · subst hj; simp [insP, upd]
      · simp [insP, upd, hj]; exact hB j
    by_cases hfull : min k (f - 1) + 1 < f
    · have hm : min k (f - 1) = k := by omega
      have hm2 : min (k + 1) (f - 1) = k + 1 := by omega
      refine ⟨insP A ((k + 1 : Nat) : Int) b, ?_, ?_, rfl, rfl, rfl, hd A _ _ h.d⟩
      · unfold provP
        rw [if_neg hnk, if_pos (by rw [hlen, h.most]; exact hfull)]
      · show insK _ A.ks = _
        rw [insK_end (fun j hj => by
          rw [h.ks] at hj
          simp only [List.mem_cons, rowF_mem] at hj
          omega), h.ks, hm, hm2]
        rw [show k + 1 - (k + 1) + 1 = k - k + 1 by omega, rowF_snoc, show k - k + 1 + k = k + 1 by omega]
        rfl
    · have hm : min k (f - 1) = f - 1 := by omega
      have hm2 : min (k + 1) (f - 1) = f - 1 := by omega
      obtain ⟨m, hmm⟩ : ∃ m, f - 1 = m + 1 := ⟨f - 2, by omega⟩
      have hv := tw_victim h (by omega)
      have hfl : ∀ x, flushP (hostC gr gw gl b) A () x = (0, A, ()) := fun x => by
        unfold flushP
        rw [if_neg (by rw [h.d]; simp)]
      have hem : emptyP (hostC gr gw gl b) A () (victim A) = (0, delP A (victim A), ()) := by
        unfold emptyP
        rw [hfl]
        simp
      refine ⟨insP (delP A (victim A)) ((k + 1 : Nat) : Int) b, ?_, ?_, rfl, rfl, rfl, hd (delP A (victim A)) _ _ h.d⟩
      · unfold provP
        rw [if_neg hnk, if_neg (by rw [hlen, h.most]; exact hfull), hem]
        simp
      · show insK _ (delK (victim A) A.ks) = _
        have hdel : delK (victim A) A.ks = 0 :: rowF (k - (f - 1) + 1 + 1) m := by
          rw [hv, h.ks, hm, hmm, rowF_cons]
          have e1 : delK ((k - (m + 1) + 1 : Nat) : Int) (0 :: ((k - (m + 1) + 1 : Nat) : Int) :: rowF (k - (m + 1) + 1 + 1) m) = 0 :: delK ((k - (m + 1) + 1 : Nat) : Int) (rowF (k - (m + 1) + 1 + 1) m) := by
            unfold delK
            rw [List.filter_cons_of_pos (by simp; omega), List.filter_cons_of_neg (by simp)]
          rw [e1, delK_none (by rw [rowF_mem]; omega)]
        rw [hdel, insK_end (fun j hj => by
          simp only [List.mem_cons, rowF_mem] at hj
          omega), hm2, hmm]
        rw [rowF_snoc, show k + 1 - (m + 1) + 1 + m = k + 1 by omega, show k + 1 - (m + 1) + 1 = k - (m + 1) + 1 + 1 by omega]
        rfl
  obtain ⟨A', p1, p2, p3, p4, p5, p6⟩ := hprov
  refine ⟨accP A' ((k + 1 : Nat) : Int), (((A'.fr ((k + 1 : Nat) : Int)).b, 0)), ?_, ⟨by show A'.most = f; rw [p5, h.most], p2, ?_, fun j h1 h2 => ?_, fun j hj => ?_, by show A'.acc + 1 = _; rw [p4, h.acc], p6⟩⟩
  · unfold getP
    rw [if_neg hnk, if_neg (by simp [hostC]), show ((hostC gr gw gl b).rdF () ((k + 1 : Nat) : Int)) = ((b, 0), ()) from rfl]
    rw [p1]
    simp
  · show upd A'.tm ((k + 1 : Nat) : Int) ((A'.tm ((k + 1 : Nat) : Int)).2, A'.acc + 1) 0 = _
    rw [upd_other _ _ (by omega), p3, h.t0]
  · show upd A'.tm _ _ (j : Int) = _
    by_cases hj : j = k + 1
    · subst hj
      rw [upd_same, p3, h.t2 _ (by omega), p4, h.acc]
    · rw [upd_other _ _ (by omega), p3]
      exact h.t1 j h1 (by omega)
  · show upd A'.tm _ _ j = _
    rw [upd_other _ _ (by omega), p3]
    exact h.t2 j (by omega)
end
end Go.Proofs.Ytcecfageijkifaa.Po
