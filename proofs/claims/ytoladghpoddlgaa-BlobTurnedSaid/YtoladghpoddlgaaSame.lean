/- The contract of SamePages: are two lists the same? -/
import Derived.Test.YtoladghpoddlgaaMem
import Derived.StillTailTactics
import Derived.BigQuiet
import Derived.Laws.StructEq
namespace Go.Proofs.Ytoladghpoddlgaa
open Go.ChangeShapes Go.WideShapes Go.ChangeAt Go.RowKit
set_option linter.unusedVariables false
set_option linter.unusedSimpArgs false
set_option maxRecDepth 100000
def eqP (a b : Pg) : Bool := (a.k == b.k) && ((a.d == b.d) && ((a.x == b.x) && (a.b.toList == b.b.toList)))
theorem eqP_iff {a b : Pg} : eqP a b = true ↔ a = b := by
  unfold eqP
  simp only [Bool.and_eq_true, beq_iff_eq, ByteArray.toList_eq]
  constructor
  · rintro ⟨h1, h2, h3, h4⟩; exact Pg.same h1 h2 h3 (data_inj h4)
  · rintro rfl; exact ⟨rfl, rfl, rfl, rfl⟩
def sameB (l m : List Pg) : Bool := decide (l.length = m.length) && (List.range l.length).all fun j => eqP (l.getD j nilP) (m.getD j nilP)
theorem sameB_iff {l m : List Pg} : sameB l m = true ↔ l = m := by
  unfold sameB
  rw [Bool.and_eq_true, decide_eq_true_iff, List.all_eq_true]
  constructor
  · rintro ⟨h1, h2⟩
    refine List.ext_getElem h1 fun i h3 h4 => ?_
    have := eqP_iff.1 (h2 i (List.mem_range.2 h3))
    rwa [getD_at h3, getD_at h4] at this
  · rintro rfl
    exact ⟨rfl, fun j hj => eqP_iff.2 rfl⟩
theorem sameB_self (l : List Pg) : sameB l l = true := sameB_iff.2 rfl
theorem sameB_no {l m : List Pg} (h : l ≠ m) : sameB l m = false := by
  cases g : sameB l m with
  | false => rfl
  | true => exact absurd (sameB_iff.1 g) h
theorem sameB_at {l m : List Pg} {k : Nat} (hk : k < l.length) (h : eqP (l.getD k nilP) (m.getD k nilP) = false) : sameB l m = false := by
  refine sameB_no fun e => ?_
  subst e
  rw [eqP_iff.2 rfl] at h
  cases h
theorem eq_pages (a0 a1 a2 : Int) (a3 : ByteArray) (b0 b1 b2 : Int) (b3 : ByteArray) (w : World) : (binOp .eql 26 (.agg #[.int .i64 a0, .int .i64 a1, .int .i64 a2, .string a3]) (.agg #[.int .i64 b0, .int .i64 b1, .int .i64 b2, .string b3])).run Try.prog w = .ok (.bool (eqP ⟨a0, a1, a2, a3⟩ ⟨b0, b1, b2, b3⟩)) w := by
  have u3 := Try.underlying3
  have a3' := Try.isAgg3
  have z3' := Try.sizeOf3
  have u9 := Try.underlying9
  have a9 := Try.isAgg9
  have z9 := Try.sizeOf9
  have hS : Try.prog.underlying 26 = some (.struct (Try.prog.fieldsOf 26)) := by kernel_rfl
  have hp : Try.prog.stoodInHeld 26 = false := by kernel_rfl
  rw [run_eql_struct, show (10000 : Nat) = 9999 + 1 from rfl, run_equalIn_agg w 9999 26 _ _ hS hp]
  simp only [Program.fieldsOf, Try.underlying26]
  unfold eqP
  dsimp only
  go_simp
  by_cases g0 : a0 = b0 <;> by_cases g1 : a1 = b1 <;> by_cases g2 : a2 = b2 <;> by_cases g3 : a3.toList = b3.toList <;> simp [g0, g1, g2, g3]
set_option maxHeartbeats 2000000 in
theorem same_walk {C D n m : Nat} {A B : Option Addr} {c d : Nat} {l r : List Pg} (w : World) (h1 : Pgs C w A l) (h2 : Pgs D w B r) (hn : l.length = n) (hm : r.length = m) (hnn : n ≤ 1000000) :
    Calls Try.prog 16 #[.slice A n c, .slice B m d] w fun e w' => e = .returned (.bool (sameB l r)) ∧ ∃ q, w' = w.drewN q := by
  by_cases hnm : n = m
  · have H1 := Lib.hid h1
    have H2 := Lib.hid h2
    have HN := Lib.hid hn
    have HM := Lib.hid (hm.trans hnm.symm)
    have hN : (n : Int) ≤ 1000000 := by omega
    subst hnm
    clear h1 h2 hn hm
    go_enter Try.func16, Try.ntmps16
    go_wp2_with fail
    go_loopw [5] (fun x wr => ∃ k : Nat, k ≤ n ∧ x = .int .i64 k ∧ (∃ q, wr = w.drewN q) ∧ Hid (∀ j, j < k → eqP (l.getD j nilP) (r.getD j nilP) = true)) (fun x _ => n - (intOf x).toNat)
    case atStart => exact ⟨0, Nat.zero_le _, rfl, ⟨0, rfl⟩, fun j hj => by omega⟩
    case round =>
      obtain ⟨k, hk, rfl, ⟨q, rfl⟩, hq⟩ := hrel
      have HQ := Lib.hid hq
      clear hq
      have b0 : (0 : Int) ≤ (k : Int) := by omega
      by_cases hlt : k < n
      · obtain ⟨b, off, rfl, _, c0, c1, c2, c3⟩ := H1.out.1 k (by rw [HN.out]; exact hlt)
        obtain ⟨b2, off2, rfl, _, d0, d1, d2, d3⟩ := H2.out.1 k (by rw [HM.out]; exact hlt)
        have b1 : (k : Int) < (n : Int) := by omega
        have HY := Lib.hid (fun (h : eqP (l.getD k nilP) (r.getD k nilP) = true) => show ∀ j, j < k + 1 → eqP (l.getD j nilP) (r.getD j nilP) = true from fun j hj => by
          by_cases e : j < k
          · exact HQ.out.out j e
          · obtain rfl : j = k := by omega
            exact h)
        have HX := Lib.hid (fun h => sameB_at (l := l) (m := r) (k := k) (by rw [HN.out]; exact hlt) h)
        generalize l.getD k nilP = x at *
        generalize r.getD k nilP = y at *
        have heq := eq_pages x.k x.d x.x x.b y.k y.d y.x y.b
        change ∀ w, Sem.run _ _ _ = Result.ok (Value.bool (eqP x y)) w at heq
        cases g : eqP x y with
        | true =>
          have HG := Lib.hid (HY.out g)
          rw [g] at heq
          clear HY HX g
          go_wp2_with fail
          go_quiet (fail)
          go_wp2_with fail
          go_roundw
          case rel => exact ⟨k + 1, by omega, by go_num, ⟨_, rfl⟩, HG.out⟩
          case measure => simp [intOf]; omega
        | false =>
          have HG := Lib.hid (HX.out g)
          rw [g] at heq
          clear HY HX g
          go_wp2_with fail
          go_quiet (fail)
          go_wp2_with fail
          go_ret
          exact ⟨by rw [HG.out]; rfl, q + nq, by simp [World.drewN, Nat.add_assoc]⟩
      · obtain rfl : k = n := by omega
        have b1 : ¬ (k : Int) < (k : Int) := by omega
        have HG := Lib.hid (show sameB l r = true from by
          unfold sameB
          rw [decide_eq_true (by rw [HN.out, HM.out]), List.all_eq_true.2 (fun j hj => HQ.out.out j (by have := List.mem_range.1 hj; rw [HN.out] at this; exact this))]
          rfl)
        go_wp2_with fail
        go_ret
        exact ⟨by rw [HG.out]; rfl, q, rfl⟩
  · have HG := Lib.hid (show sameB l r = false from by
      unfold sameB
      rw [decide_eq_false (by rw [hn, hm]; exact hnm)]
      rfl)
    have b1 : ((n : Int) == (m : Int)) = false := by rw [beq_eq_false_iff_ne]; omega
    have b2 : ¬ (n : Int) = (m : Int) := by omega
    clear h1 h2 hn hm
    go_enter Try.func16, Try.ntmps16
    go_wp2_with fail
    go_ret
    exact ⟨by rw [HG.out]; rfl, 0, rfl⟩
end Go.Proofs.Ytoladghpoddlgaa
