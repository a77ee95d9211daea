/- The contract of SameCells: are two lists the same? -/
import Derived.Test.YtljegjcajlkgiaaGreatEqc
import Derived.StillTailTactics
import Derived.BigQuiet
import Derived.Laws.StructEq
namespace Go.Proofs.YtljegjcajlkgiaaGreat
open Go.ChangeShapes Go.WideShapes Go.ChangeAt Go.RowKit
set_option linter.unusedVariables false
set_option linter.unusedSimpArgs false
set_option maxRecDepth 100000
def sameB (l m : List Ce) : Bool := decide (l.length = m.length) && (List.range l.length).all fun j => eqC (l.getD j nilC) (m.getD j nilC)
theorem sameB_iff {l m : List Ce} : sameB l m = true ↔ l = m := by
  unfold sameB
  rw [Bool.and_eq_true, decide_eq_true_iff, List.all_eq_true]
  constructor
  · rintro ⟨h1, h2⟩
    refine List.ext_getElem h1 fun i h3 h4 => ?_
    have := eqC_iff.1 (h2 i (List.mem_range.2 h3))
    rwa [getD_at h3, getD_at h4] at this
  · rintro rfl
    exact ⟨rfl, fun j hj => eqC_iff.2 rfl⟩
theorem sameB_self (l : List Ce) : sameB l l = true := sameB_iff.2 rfl
theorem sameB_no {l m : List Ce} (h : l ≠ m) : sameB l m = false := by
  cases g : sameB l m with
  | false => rfl
  | true => exact absurd (sameB_iff.1 g) h
theorem sameB_at {l m : List Ce} {k : Nat} (hk : k < l.length) (h : eqC (l.getD k nilC) (m.getD k nilC) = false) : sameB l m = false := by
  refine sameB_no fun e => ?_
  subst e
  rw [eqC_iff.2 rfl] at h
  cases h
set_option maxHeartbeats 2000000 in
theorem same_walk {C D n m : Nat} {A B : Option Addr} {c d : Nat} {l r : List Ce} (w : World) (h1 : Ces C w A l) (h2 : Ces D w B r) (hn : l.length = n) (hm : r.length = m) (hnn : n ≤ 1000000) :
    Calls Tryz.prog 17 #[.slice A n c, .slice B m d] w fun e w' => e = .returned (.bool (sameB l r)) ∧ ∃ q, w' = w.drewN q := by
  by_cases hnm : n = m
  · have H1 := Lib.hid h1
    have H2 := Lib.hid h2
    have HN := Lib.hid hn
    have HM := Lib.hid (hm.trans hnm.symm)
    have hN : (n : Int) ≤ 1000000 := by omega
    subst hnm
    clear h1 h2 hn hm
    go_enter Tryz.func17, Tryz.ntmps17
    go_wp2_with fail
    go_loopw [5] (fun x wr => ∃ k : Nat, k ≤ n ∧ x = .int .i64 k ∧ (∃ q, wr = w.drewN q) ∧ Hid (∀ j, j < k → eqC (l.getD j nilC) (r.getD j nilC) = true)) (fun x _ => n - (intOf x).toNat)
    case atStart => exact ⟨0, Nat.zero_le _, rfl, ⟨0, rfl⟩, fun j hj => by omega⟩
    case round =>
      obtain ⟨k, hk, rfl, ⟨q, rfl⟩, hq⟩ := hrel
      have HQ := Lib.hid hq
      clear hq
      have b0 : (0 : Int) ≤ (k : Int) := by omega
      by_cases hlt : k < n
      · obtain ⟨b, off, rfl, _, c0, c1, c2, c3⟩ := H1.out.1 k (by rw [HN.out]; exact hlt)
        obtain ⟨b2, off2, rfl, _, d0, d1, d2, d3⟩ := H2.out.1 k (by rw [HM.out]; exact hlt)
        have b1 : (k : Int) < (n : Int) := by omega
        have HY := Lib.hid (fun (h : eqC (l.getD k nilC) (r.getD k nilC) = true) => show ∀ j, j < k + 1 → eqC (l.getD j nilC) (r.getD j nilC) = true from fun j hj => by
          by_cases e : j < k
          · exact HQ.out.out j e
          · obtain rfl : j = k := by omega
            exact h)
        have HX := Lib.hid (fun h => sameB_at (l := l) (m := r) (k := k) (by rw [HN.out]; exact hlt) h)
        generalize l.getD k nilC = x at *
        generalize r.getD k nilC = y at *
        have heq := eq_cells x.key x.val x.blob x.size y.key y.val y.blob y.size
        change ∀ w, Sem.run _ _ _ = Result.ok (Value.bool (eqC x y)) w at heq
        cases g : eqC x y with
        | true =>
          have HG := Lib.hid (HY.out g)
          rw [g] at heq
          clear HY HX g
          go_wp2_with fail
          go_quiet (fail)
          go_wp2_with fail
          go_roundw
          case rel => exact ⟨k + 1, by omega, by go_num, ⟨_, rfl⟩, HG.out⟩
          case measure => simp [intOf]; omega
        | false =>
          have HG := Lib.hid (HX.out g)
          rw [g] at heq
          clear HY HX g
          go_wp2_with fail
          go_quiet (fail)
          go_wp2_with fail
          go_ret
          exact ⟨by rw [HG.out]; rfl, q + nq, by simp [World.drewN, Nat.add_assoc]⟩
      · obtain rfl : k = n := by omega
        have b1 : ¬ (k : Int) < (k : Int) := by omega
        have HG := Lib.hid (show sameB l r = true from by
          unfold sameB
          rw [decide_eq_true (by rw [HN.out, HM.out]), List.all_eq_true.2 (fun j hj => HQ.out.out j (by have := List.mem_range.1 hj; rw [HN.out] at this; exact this))]
          rfl)
        go_wp2_with fail
        go_ret
        exact ⟨by rw [HG.out]; rfl, q, rfl⟩
  · have HG := Lib.hid (show sameB l r = false from by
      unfold sameB
      rw [decide_eq_false (by rw [hn, hm]; exact hnm)]
      rfl)
    have b1 : ((n : Int) == (m : Int)) = false := by rw [beq_eq_false_iff_ne]; omega
    have b2 : ¬ (n : Int) = (m : Int) := by omega
    clear h1 h2 hn hm
    go_enter Tryz.func17, Tryz.ntmps17
    go_wp2_with fail
    go_ret
    exact ⟨by rw [HG.out]; rfl, 0, rfl⟩
end Go.Proofs.YtljegjcajlkgiaaGreat
