/- Are two lists, two transactions, two records the same? -/
import Derived.Test.YtnjggoeahaglbaaGreatRows
import Derived.Test.YtnjggoeahaglbaaGreatRd
import Derived.StillTailTactics
import Derived.BigQuiet
import Derived.Laws.StructEq
import Derived.Deep.RegionHeld3
import Derived.Deep.QuietTactic
import Derived.Deep.DeepCutAuto
import Derived.Deep.CutBlock
namespace Go.Proofs.YtnjggoeahaglbaaGreat.Rc
open Go.ChangeShapes Go.WideShapes Go.ChangeAt Go.RowKit
set_option linter.unusedVariables false
set_option linter.unusedSimpArgs false
set_option maxRecDepth 100000
theorem data_inj {a b : ByteArray} (h : a.data.toList = b.data.toList) : a = b := by
  cases a; cases b
  congr
  exact Array.ext' h
theorem list_inj {a b : ByteArray} (h : a.toList = b.toList) : a = b := data_inj (by rw [← Lib.toList_data, ← Lib.toList_data]; exact h)
def sameL {α : Type} (eq : α → α → Bool) (d : α) (l m : List α) : Bool := decide (l.length = m.length) && (List.range l.length).all fun j => eq (l.getD j d) (m.getD j d)
theorem sameL_iff {α : Type} {eq : α → α → Bool} {d : α} (he : ∀ a b, eq a b = true ↔ a = b) {l m : List α} : sameL eq d l m = true ↔ l = m := by
  unfold sameL
  rw [Bool.and_eq_true, decide_eq_true_iff, List.all_eq_true]
  constructor
  · rintro ⟨h1, h2⟩
    refine List.ext_getElem h1 fun i h3 h4 => ?_
    have := (he _ _).1 (h2 i (List.mem_range.2 h3))
    rwa [getD_at h3, getD_at h4] at this
  · rintro rfl
    exact ⟨rfl, fun j hj => (he _ _).2 rfl⟩
theorem sameL_yes {α : Type} {eq : α → α → Bool} {d : α} {l m : List α} (h1 : l.length = m.length) (h2 : ∀ j, j < l.length → eq (l.getD j d) (m.getD j d) = true) : sameL eq d l m = true := by
  unfold sameL
  rw [decide_eq_true h1, List.all_eq_true.2 (fun j hj => h2 j (List.mem_range.1 hj))]
  rfl
theorem sameL_len {α : Type} {eq : α → α → Bool} {d : α} {l m : List α} (h1 : l.length ≠ m.length) : sameL eq d l m = false := by
  unfold sameL
  rw [decide_eq_false h1]
  rfl
theorem sameL_at {α : Type} {eq : α → α → Bool} {d : α} {l m : List α} {k : Nat} (hk : k < l.length) (h : eq (l.getD k d) (m.getD k d) = false) : sameL eq d l m = false := by
  rw [Bool.eq_false_iff]
  intro hh
  unfold sameL at hh
  rw [Bool.and_eq_true, List.all_eq_true] at hh
  rw [hh.2 k (List.mem_range.2 hk)] at h
  cases h
theorem pt_same {a b : Pt} (h1 : a.pg = b.pg) (h2 : a.ofs = b.ofs) (h3 : a.bs = b.bs) : a = b := by cases a; cases b; simp only at h1 h2 h3; subst h1 h2 h3; rfl
theorem dy_same {a b : Dy} (h1 : a.page = b.page) (h2 : a.lsn = b.lsn) : a = b := by cases a; cases b; simp only at h1 h2; subst h1 h2; rfl
theorem tx_same {a b : Tx} (h1 : a.id = b.id) (h2 : a.last = b.last) (h3 : a.com = b.com) (h4 : a.pages = b.pages) : a = b := by cases a; cases b; simp only at h1 h2 h3 h4; subst h1 h2 h3 h4; rfl
theorem cl_same {a b : Cl} (h1 : a.k = b.k) (h2 : a.v = b.v) (h3 : a.b = b.b) (h4 : a.z = b.z) : a = b := by cases a; cases b; simp only at h1 h2 h3 h4; subst h1 h2 h3 h4; rfl
def eqI (a b : Int) : Bool := a == b
def eqP (a b : Pt) : Bool := (a.pg == b.pg) && ((a.ofs == b.ofs) && (a.bs.toList == b.bs.toList))
def eqD (a b : Dy) : Bool := (a.page == b.page) && (a.lsn == b.lsn)
def eqC (a b : Cl) : Bool := (a.k.toList == b.k.toList) && ((a.v.toList == b.v.toList) && ((a.b == b.b) && (a.z == b.z)))
def eqT (a b : Tx) : Bool := (a.id == b.id) && ((a.last == b.last) && ((a.com == b.com) && sameL eqI 0 a.pages b.pages))
theorem eqI_iff (a b : Int) : eqI a b = true ↔ a = b := beq_iff_eq
theorem eqP_iff (a b : Pt) : eqP a b = true ↔ a = b := by
  unfold eqP
  simp only [Bool.and_eq_true, beq_iff_eq]
  exact ⟨fun ⟨h1, h2, h3⟩ => pt_same h1 h2 (list_inj h3), fun h => by subst h; exact ⟨rfl, rfl, rfl⟩⟩
theorem eqD_iff (a b : Dy) : eqD a b = true ↔ a = b := by
  unfold eqD
  simp only [Bool.and_eq_true, beq_iff_eq]
  exact ⟨fun ⟨h1, h2⟩ => dy_same h1 h2, fun h => by subst h; exact ⟨rfl, rfl⟩⟩
theorem eqC_iff (a b : Cl) : eqC a b = true ↔ a = b := by
  unfold eqC
  simp only [Bool.and_eq_true, beq_iff_eq]
  exact ⟨fun ⟨h1, h2, h3, h4⟩ => cl_same (list_inj h1) (list_inj h2) h3 h4, fun h => by subst h; exact ⟨rfl, rfl, rfl, rfl⟩⟩
theorem eqT_iff (a b : Tx) : eqT a b = true ↔ a = b := by
  unfold eqT
  simp only [Bool.and_eq_true, beq_iff_eq, sameL_iff eqI_iff]
  exact ⟨fun ⟨h1, h2, h3, h4⟩ => tx_same h1 h2 h3 h4, fun h => by subst h; exact ⟨rfl, rfl, rfl, rfl⟩⟩
def eqR (a b : Rc) : Bool := (a.kind == b.kind) && ((a.tx == b.tx) && ((a.prev == b.prev) && ((a.next == b.next) && ((a.key.toList == b.key.toList) && ((a.had == b.had) && (eqC a.old b.old && (sameL eqI 0 a.pages b.pages && (sameL eqP nilP a.pts b.pts && (sameL eqT nilT a.txs b.txs && sameL eqD nilD a.dys b.dys)))))))))
theorem eqR_iff (a b : Rc) : eqR a b = true ↔ a = b := by
  unfold eqR
  simp only [Bool.and_eq_true, beq_iff_eq, eqC_iff, sameL_iff eqI_iff, sameL_iff eqP_iff, sameL_iff eqT_iff, sameL_iff eqD_iff]
  constructor
  · rintro ⟨h1, h2, h3, h4, h5, h6, h7, h8, h9, h10, h11⟩
    have h5 := list_inj h5
    cases a; cases b
    simp only at *
    subst h1 h2 h3 h4 h5 h6 h7 h8 h9 h10 h11
    rfl
  · rintro rfl
    exact ⟨rfl, rfl, rfl, rfl, rfl, rfl, rfl, rfl, rfl, rfl, rfl⟩
theorem eq_pt (a0 : Int) (a1 : Int) (a2 : ByteArray) (b0 : Int) (b1 : Int) (b2 : ByteArray) (w : World) : (binOp .eql 110 (.agg #[.int .i64 a0, .int .i64 a1, .string a2]) (.agg #[.int .i64 b0, .int .i64 b1, .string b2])).run Tryz.prog w = .ok (.bool (eqP ⟨a0, a1, a2⟩ ⟨b0, b1, b2⟩)) w := by
  have u3 := Tryz.underlying3
  have a3' := Tryz.isAgg3
  have z3' := Tryz.sizeOf3
  have u9 := Tryz.underlying9
  have a9 := Tryz.isAgg9
  have z9 := Tryz.sizeOf9
  have hS : Tryz.prog.underlying 110 = some (.struct (Tryz.prog.fieldsOf 110)) := by kernel_rfl
  have hp : Tryz.prog.stoodInHeld 110 = false := by kernel_rfl
  rw [run_eql_struct, show (10000 : Nat) = 9999 + 1 from rfl, run_equalIn_agg w 9999 110 _ _ hS hp]
  simp only [Program.fieldsOf, Tryz.underlying110]
  unfold eqP
  dsimp only
  go_simp
  by_cases g0 : a0 = b0 <;> by_cases g1 : a1 = b1 <;> by_cases g2 : a2.toList = b2.toList <;> simp [g0, g1, g2]
theorem eq_dy (a0 : Int) (a1 : Int) (b0 : Int) (b1 : Int) (w : World) : (binOp .eql 114 (.agg #[.int .i64 a0, .int .i64 a1]) (.agg #[.int .i64 b0, .int .i64 b1])).run Tryz.prog w = .ok (.bool (eqD ⟨a0, a1⟩ ⟨b0, b1⟩)) w := by
  have u3 := Tryz.underlying3
  have a3' := Tryz.isAgg3
  have z3' := Tryz.sizeOf3
  have u9 := Tryz.underlying9
  have a9 := Tryz.isAgg9
  have z9 := Tryz.sizeOf9
  have hS : Tryz.prog.underlying 114 = some (.struct (Tryz.prog.fieldsOf 114)) := by kernel_rfl
  have hp : Tryz.prog.stoodInHeld 114 = false := by kernel_rfl
  rw [run_eql_struct, show (10000 : Nat) = 9999 + 1 from rfl, run_equalIn_agg w 9999 114 _ _ hS hp]
  simp only [Program.fieldsOf, Tryz.underlying114]
  unfold eqD
  dsimp only
  go_simp
  by_cases g0 : a0 = b0 <;> by_cases g1 : a1 = b1 <;> simp [g0, g1]
theorem eq_cl (a0 : ByteArray) (a1 : ByteArray) (a2 : Int) (a3 : Int) (b0 : ByteArray) (b1 : ByteArray) (b2 : Int) (b3 : Int) (w : World) : (binOp .eql 37 (.agg #[.string a0, .string a1, .int .i64 a2, .int .i64 a3]) (.agg #[.string b0, .string b1, .int .i64 b2, .int .i64 b3])).run Tryz.prog w = .ok (.bool (eqC ⟨a0, a1, a2, a3⟩ ⟨b0, b1, b2, b3⟩)) w := by
  have u3 := Tryz.underlying3
  have a3' := Tryz.isAgg3
  have z3' := Tryz.sizeOf3
  have u9 := Tryz.underlying9
  have a9 := Tryz.isAgg9
  have z9 := Tryz.sizeOf9
  have hS : Tryz.prog.underlying 37 = some (.struct (Tryz.prog.fieldsOf 37)) := by kernel_rfl
  have hp : Tryz.prog.stoodInHeld 37 = false := by kernel_rfl
  rw [run_eql_struct, show (10000 : Nat) = 9999 + 1 from rfl, run_equalIn_agg w 9999 37 _ _ hS hp]
  simp only [Program.fieldsOf, Tryz.underlying37]
  unfold eqC
  dsimp only
  go_simp
  by_cases g0 : a0.toList = b0.toList <;> by_cases g1 : a1.toList = b1.toList <;> by_cases g2 : a2 = b2 <;> by_cases g3 : a3 = b3 <;> simp [g0, g1, g2, g3]
set_option maxHeartbeats 2000000 in
theorem sameI_is {C D n m c d : Nat} {A B : Option Addr} {l r : List Int} (w : World) (h1 : IntsM C w A n l) (h2 : IntsM D w B m r) :
    Calls Tryz.prog 63 #[.slice A n c, .slice B m d] w fun e w' => e = .returned (.bool (sameL eqI 0 l r)) ∧ ∃ q, w' = w.drewN q := by
  have hmx := h1.2.1
  unfold maxLen at hmx
  have hN : (n : Int) ≤ 9223372036854775807 := by omega
  by_cases hnm : n = m
  · have H1 := Lib.hid h1
    have H2 := Lib.hid h2
    have HN := Lib.hid h1.1
    have HM := Lib.hid (h2.1.trans hnm.symm)
    subst hnm
    clear h1 h2 hmx
    go_enter Tryz.func63, Tryz.ntmps63
    go_wp2_with fail
    go_loopw [5] (fun x wr => ∃ k : Nat, k ≤ n ∧ x = .int .i64 k ∧ (∃ q, wr = w.drewN q) ∧ Hid (∀ j, j < k → eqI (l.getD j 0) (r.getD j 0) = true)) (fun x _ => n - (intOf x).toNat)
    case atStart => exact ⟨0, Nat.zero_le _, rfl, ⟨0, rfl⟩, fun j hj => absurd hj (Nat.not_lt_zero _)⟩
    case round =>
      obtain ⟨k, hk, rfl, ⟨q, rfl⟩, hq⟩ := hrel
      have HQ := Lib.hid hq.out
      clear hq
      have b0 : (0 : Int) ≤ (k : Int) := by omega
      by_cases hlt : k < n
      · obtain ⟨b, off, rfl, _, c0, _⟩ := H1.out.2.2 k hlt
        obtain ⟨b2, off2, rfl, _, d0, _⟩ := H2.out.2.2 k hlt
        have b1 : (k : Int) < (n : Int) := by omega
        have HY := Lib.hid (fun (h : eqI (l.getD k 0) (r.getD k 0) = true) => show ∀ j, j < k + 1 → eqI (l.getD j 0) (r.getD j 0) = true from fun j hj => by
          by_cases e : j < k
          · exact HQ.out j e
          · obtain rfl : j = k := by omega
            exact h)
        have HX := Lib.hid (fun h => sameL_at (eq := eqI) (d := 0) (l := l) (m := r) (k := k) (by rw [HN.out]; exact hlt) h)
        generalize l.getD k 0 = x at *
        generalize r.getD k 0 = y at *

        cases g : eqI x y with
        | true =>
          have HG := Lib.hid (HY.out g)
          obtain rfl := (eqI_iff x y).1 g
          clear HY HX g
          go_wp2_with fail
          go_quiet (fail)
          go_wp2_with fail
          go_roundw
          case rel => exact ⟨k + 1, by omega, by go_num, ⟨_, rfl⟩, HG.out⟩
          case measure => simp [intOf]; omega
        | false =>
          have HG := Lib.hid (HX.out g)
          have heq : (x == y) = false := g
          clear HY HX g
          go_wp2_with fail
          go_quiet (fail)
          go_wp2_with fail
          go_ret
          exact ⟨by rw [HG.out]; rfl, q + nq, by simp [World.drewN, Nat.add_assoc]⟩
      · obtain rfl : k = n := by omega
        have b1 : ¬ (k : Int) < (k : Int) := by omega
        have HG := Lib.hid (sameL_yes (eq := eqI) (d := 0) (l := l) (m := r) (by rw [HN.out, HM.out]) (fun j hj => HQ.out j (by rw [← HN.out]; exact hj)))
        go_wp2_with fail
        go_ret
        exact ⟨by rw [HG.out]; rfl, q, rfl⟩
  · have HG := Lib.hid (sameL_len (eq := eqI) (d := 0) (l := l) (m := r) (by rw [h1.1, h2.1]; exact hnm))
    have b1 : ((n : Int) == (m : Int)) = false := by rw [beq_eq_false_iff_ne]; omega
    have b2 : ¬ (n : Int) = (m : Int) := by omega
    clear h1 h2 hmx
    go_enter Tryz.func63, Tryz.ntmps63
    go_wp2_with fail
    go_ret
    exact ⟨by rw [HG.out]; rfl, 0, rfl⟩
set_option maxHeartbeats 2000000 in
theorem sameP_is {C D n m c d : Nat} {A B : Option Addr} {l r : List Pt} (w : World) (h1 : PtsM C w A n l) (h2 : PtsM D w B m r) :
    Calls Tryz.prog 64 #[.slice A n c, .slice B m d] w fun e w' => e = .returned (.bool (sameL eqP nilP l r)) ∧ ∃ q, w' = w.drewN q := by
  have hmx := h1.2.1
  unfold maxLen at hmx
  have hN : (n : Int) ≤ 9223372036854775807 := by omega
  by_cases hnm : n = m
  · have H1 := Lib.hid h1
    have H2 := Lib.hid h2
    have HN := Lib.hid h1.1
    have HM := Lib.hid (h2.1.trans hnm.symm)
    subst hnm
    clear h1 h2 hmx
    go_enter Tryz.func64, Tryz.ntmps64
    go_wp2_with fail
    go_loopw [5] (fun x wr => ∃ k : Nat, k ≤ n ∧ x = .int .i64 k ∧ (∃ q, wr = w.drewN q) ∧ Hid (∀ j, j < k → eqP (l.getD j nilP) (r.getD j nilP) = true)) (fun x _ => n - (intOf x).toNat)
    case atStart => exact ⟨0, Nat.zero_le _, rfl, ⟨0, rfl⟩, fun j hj => absurd hj (Nat.not_lt_zero _)⟩
    case round =>
      obtain ⟨k, hk, rfl, ⟨q, rfl⟩, hq⟩ := hrel
      have HQ := Lib.hid hq.out
      clear hq
      have b0 : (0 : Int) ≤ (k : Int) := by omega
      by_cases hlt : k < n
      · obtain ⟨b, off, rfl, _, ⟨c0, c1, c2⟩, _⟩ := H1.out.2.2 k hlt
        obtain ⟨b2, off2, rfl, _, ⟨d0, d1, d2⟩, _⟩ := H2.out.2.2 k hlt
        have b1 : (k : Int) < (n : Int) := by omega
        have HY := Lib.hid (fun (h : eqP (l.getD k nilP) (r.getD k nilP) = true) => show ∀ j, j < k + 1 → eqP (l.getD j nilP) (r.getD j nilP) = true from fun j hj => by
          by_cases e : j < k
          · exact HQ.out j e
          · obtain rfl : j = k := by omega
            exact h)
        have HX := Lib.hid (fun h => sameL_at (eq := eqP) (d := nilP) (l := l) (m := r) (k := k) (by rw [HN.out]; exact hlt) h)
        generalize l.getD k nilP = x at *
        generalize r.getD k nilP = y at *
        have heq := eq_pt x.pg x.ofs x.bs y.pg y.ofs y.bs
        change ∀ w, Sem.run _ _ _ = Result.ok (Value.bool (eqP x y)) w at heq
        cases g : eqP x y with
        | true =>
          have HG := Lib.hid (HY.out g)
          rw [g] at heq
          clear HY HX g
          go_wp2_with fail
          go_quiet (fail)
          go_wp2_with fail
          go_roundw
          case rel => exact ⟨k + 1, by omega, by go_num, ⟨_, rfl⟩, HG.out⟩
          case measure => simp [intOf]; omega
        | false =>
          have HG := Lib.hid (HX.out g)
          rw [g] at heq
          clear HY HX g
          go_wp2_with fail
          go_quiet (fail)
          go_wp2_with fail
          go_ret
          exact ⟨by rw [HG.out]; rfl, q + nq, by simp [World.drewN, Nat.add_assoc]⟩
      · obtain rfl : k = n := by omega
        have b1 : ¬ (k : Int) < (k : Int) := by omega
        have HG := Lib.hid (sameL_yes (eq := eqP) (d := nilP) (l := l) (m := r) (by rw [HN.out, HM.out]) (fun j hj => HQ.out j (by rw [← HN.out]; exact hj)))
        go_wp2_with fail
        go_ret
        exact ⟨by rw [HG.out]; rfl, q, rfl⟩
  · have HG := Lib.hid (sameL_len (eq := eqP) (d := nilP) (l := l) (m := r) (by rw [h1.1, h2.1]; exact hnm))
    have b1 : ((n : Int) == (m : Int)) = false := by rw [beq_eq_false_iff_ne]; omega
    have b2 : ¬ (n : Int) = (m : Int) := by omega
    clear h1 h2 hmx
    go_enter Tryz.func64, Tryz.ntmps64
    go_wp2_with fail
    go_ret
    exact ⟨by rw [HG.out]; rfl, 0, rfl⟩
set_option maxHeartbeats 2000000 in
theorem sameD_is {C D n m c d : Nat} {A B : Option Addr} {l r : List Dy} (w : World) (h1 : DysM C w A n l) (h2 : DysM D w B m r) :
    Calls Tryz.prog 66 #[.slice A n c, .slice B m d] w fun e w' => e = .returned (.bool (sameL eqD nilD l r)) ∧ ∃ q, w' = w.drewN q := by
  have hmx := h1.2.1
  unfold maxLen at hmx
  have hN : (n : Int) ≤ 9223372036854775807 := by omega
  by_cases hnm : n = m
  · have H1 := Lib.hid h1
    have H2 := Lib.hid h2
    have HN := Lib.hid h1.1
    have HM := Lib.hid (h2.1.trans hnm.symm)
    subst hnm
    clear h1 h2 hmx
    go_enter Tryz.func66, Tryz.ntmps66
    go_wp2_with fail
    go_loopw [5] (fun x wr => ∃ k : Nat, k ≤ n ∧ x = .int .i64 k ∧ (∃ q, wr = w.drewN q) ∧ Hid (∀ j, j < k → eqD (l.getD j nilD) (r.getD j nilD) = true)) (fun x _ => n - (intOf x).toNat)
    case atStart => exact ⟨0, Nat.zero_le _, rfl, ⟨0, rfl⟩, fun j hj => absurd hj (Nat.not_lt_zero _)⟩
    case round =>
      obtain ⟨k, hk, rfl, ⟨q, rfl⟩, hq⟩ := hrel
      have HQ := Lib.hid hq.out
      clear hq
      have b0 : (0 : Int) ≤ (k : Int) := by omega
      by_cases hlt : k < n
      · obtain ⟨b, off, rfl, _, ⟨c0, c1⟩, _⟩ := H1.out.2.2 k hlt
        obtain ⟨b2, off2, rfl, _, ⟨d0, d1⟩, _⟩ := H2.out.2.2 k hlt
        have b1 : (k : Int) < (n : Int) := by omega
        have HY := Lib.hid (fun (h : eqD (l.getD k nilD) (r.getD k nilD) = true) => show ∀ j, j < k + 1 → eqD (l.getD j nilD) (r.getD j nilD) = true from fun j hj => by
          by_cases e : j < k
          · exact HQ.out j e
          · obtain rfl : j = k := by omega
            exact h)
        have HX := Lib.hid (fun h => sameL_at (eq := eqD) (d := nilD) (l := l) (m := r) (k := k) (by rw [HN.out]; exact hlt) h)
        generalize l.getD k nilD = x at *
        generalize r.getD k nilD = y at *
        have heq := eq_dy x.page x.lsn y.page y.lsn
        change ∀ w, Sem.run _ _ _ = Result.ok (Value.bool (eqD x y)) w at heq
        cases g : eqD x y with
        | true =>
          have HG := Lib.hid (HY.out g)
          rw [g] at heq
          clear HY HX g
          go_wp2_with fail
          go_quiet (fail)
          go_wp2_with fail
          go_roundw
          case rel => exact ⟨k + 1, by omega, by go_num, ⟨_, rfl⟩, HG.out⟩
          case measure => simp [intOf]; omega
        | false =>
          have HG := Lib.hid (HX.out g)
          rw [g] at heq
          clear HY HX g
          go_wp2_with fail
          go_quiet (fail)
          go_wp2_with fail
          go_ret
          exact ⟨by rw [HG.out]; rfl, q + nq, by simp [World.drewN, Nat.add_assoc]⟩
      · obtain rfl : k = n := by omega
        have b1 : ¬ (k : Int) < (k : Int) := by omega
        have HG := Lib.hid (sameL_yes (eq := eqD) (d := nilD) (l := l) (m := r) (by rw [HN.out, HM.out]) (fun j hj => HQ.out j (by rw [← HN.out]; exact hj)))
        go_wp2_with fail
        go_ret
        exact ⟨by rw [HG.out]; rfl, q, rfl⟩
  · have HG := Lib.hid (sameL_len (eq := eqD) (d := nilD) (l := l) (m := r) (by rw [h1.1, h2.1]; exact hnm))
    have b1 : ((n : Int) == (m : Int)) = false := by rw [beq_eq_false_iff_ne]; omega
    have b2 : ¬ (n : Int) = (m : Int) := by omega
    clear h1 h2 hmx
    go_enter Tryz.func66, Tryz.ntmps66
    go_wp2_with fail
    go_ret
    exact ⟨by rw [HG.out]; rfl, 0, rfl⟩
set_option maxHeartbeats 2000000 in
theorem sametx_is {C D n m c d : Nat} {A B : Option Addr} (x y : Tx) (w : World) (h1 : IntsM C w A n x.pages) (h2 : IntsM D w B m y.pages) (hC : C ≤ w.heap.size) (hD : D ≤ w.heap.size) :
    Calls Tryz.prog 90 #[txv x A n c, txv y B m d] w fun e w' => e = .returned (.bool (eqT x y)) ∧ Below w.heap.size w w' := by
  have HA := Lib.hid (((Below.refl w.heap.size w).alloc (Nat.le_refl _) (.cells #[.int .i64 x.id, .int .i64 x.last, .bool x.com, .slice A n c] 112)).alloc (by simp) (.cells #[.int .i64 y.id, .int .i64 y.last, .bool y.com, .slice B m d] 112))
  have SI := Lib.hid (fun u (hb : Below w.heap.size w u) => sameI_is (c := c) (d := d) u (h1.kept (hb.mono hC)) (h2.kept (hb.mono hD)))
  obtain ⟨xi, xl, xc, xp⟩ := x
  obtain ⟨yi, yl, yc, yp⟩ := y
  unfold txv eqT
  dsimp only at *
  clear h1 h2 hC hD
  generalize sameL eqI 0 xp yp = z at *
  by_cases g1 : xi = yi
  · subst g1
    by_cases g2 : xl = yl
    · subst g2
      cases xc <;> cases yc
      all_goals (try simp only [beq_self_eq_true, Bool.true_and])
      · go_enter Tryz.func90, Tryz.ntmps90
        go_wp2_with fail
        refine (SI.out _ HA.out).mono ?_; rintro e u ⟨rfl, q, rfl⟩
        go_wp2_with fail
        go_ret
        exact ⟨rfl, HA.out.trans ⟨rfl, rfl, rfl, Nat.le_refl _, fun _ _ => rfl⟩⟩
      · go_enter Tryz.func90, Tryz.ntmps90
        go_wp2_with fail
        go_ret
        exact ⟨rfl, HA.out⟩
      · go_enter Tryz.func90, Tryz.ntmps90
        go_wp2_with fail
        go_ret
        exact ⟨rfl, HA.out⟩
      · go_enter Tryz.func90, Tryz.ntmps90
        go_wp2_with fail
        refine (SI.out _ HA.out).mono ?_; rintro e u ⟨rfl, q, rfl⟩
        go_wp2_with fail
        go_ret
        exact ⟨rfl, HA.out.trans ⟨rfl, rfl, rfl, Nat.le_refl _, fun _ _ => rfl⟩⟩
    · have e2 : (xl == yl) = false := by rw [beq_eq_false_iff_ne]; exact g2
      rw [e2]
      go_enter Tryz.func90, Tryz.ntmps90
      go_wp2_with fail
      go_ret
      exact ⟨by simp, HA.out⟩
  · have e2 : (xi == yi) = false := by rw [beq_eq_false_iff_ne]; exact g1
    rw [e2]
    go_enter Tryz.func90, Tryz.ntmps90
    go_wp2_with fail
    go_ret
    exact ⟨by simp, HA.out⟩
/-- What was there is there. -/
def Held (X w : World) : Prop := Below X.heap.size X w
theorem Held.start (X : World) : Held X X.drew := (Below.refl _ _).drew
theorem Held.step {X w w' : World} (h : Held X w) (hb : Below w.heap.size w w') : Held X w' := Below.trans h (hb.mono (Below.size h))
theorem Held.cell {X w : World} (h : Held X w) {a : Addr} {v : Value} (hc : X.cell? a = some v) : w.cell? a = some v := (Below.cell h (World.block_lt_of_cell? X a hc)).trans hc
set_option maxHeartbeats 2000000 in
theorem sameT_is {C D n m c d : Nat} {A B : Option Addr} {l r : List Tx} (w : World) (h1 : TxsM C w A n l) (h2 : TxsM D w B m r) (hC : C ≤ w.heap.size) (hD : D ≤ w.heap.size) :
    Calls Tryz.prog 65 #[.slice A n c, .slice B m d] w fun e w' => e = .returned (.bool (sameL eqT nilT l r)) ∧ Below w.heap.size w w' := by
  have hmx := h1.2.1
  unfold maxLen at hmx
  have hN : (n : Int) ≤ 9223372036854775807 := by omega
  by_cases hnm : n = m
  · have H1 := Lib.hid h1
    have H2 := Lib.hid h2
    have HN := Lib.hid h1.1
    have HM := Lib.hid (h2.1.trans hnm.symm)
    have HC := Lib.hid hC
    have HD := Lib.hid hD
    subst hnm
    clear h1 h2 hmx hC hD
    go_enter Tryz.func65, Tryz.ntmps65
    go_wp2_with fail
    go_loopw [5] (fun x wr => ∃ k : Nat, k ≤ n ∧ x = .int .i64 k ∧ Hid (Below w.heap.size w wr ∧ ∀ j, j < k → eqT (l.getD j nilT) (r.getD j nilT) = true)) (fun x _ => n - (intOf x).toNat)
    case atStart => exact ⟨0, Nat.zero_le _, rfl, Below.refl _ _, fun j hj => absurd hj (Nat.not_lt_zero _)⟩
    case round =>
      obtain ⟨k, hk, rfl, hq⟩ := hrel
      have HQ := Lib.hid hq.out
      clear hq
      have b0 : (0 : Int) ≤ (k : Int) := by omega
      by_cases hlt : k < n
      · obtain ⟨b, off, rfl, hb1, ⟨c0, c1, c2, A1, n1, c1', c3, hi1⟩, _⟩ := (H1.out.kept (HQ.out.1.mono HC.out)).2.2 k hlt
        obtain ⟨b2, off2, rfl, hb2, ⟨d0, d1, d2, A2, n2, c2', d3, hi2⟩, _⟩ := (H2.out.kept (HQ.out.1.mono HD.out)).2.2 k hlt
        have b1 : (k : Int) < (n : Int) := by omega
        have HY := Lib.hid (fun (h : eqT (l.getD k nilT) (r.getD k nilT) = true) => show ∀ j, j < k + 1 → eqT (l.getD j nilT) (r.getD j nilT) = true from fun j hj => by
          by_cases e : j < k
          · exact HQ.out.2 j e
          · obtain rfl : j = k := by omega
            exact h)
        have HX := Lib.hid (fun h => sameL_at (eq := eqT) (d := nilT) (l := l) (m := r) (k := k) (by rw [HN.out]; exact hlt) h)
        have ST := Lib.hid (fun u (hu : Held wr u) => sametx_is (c := c1') (d := c2') (l.getD k nilT) (r.getD k nilT) u (C := C) (D := D) (hi1.kept (Below.mono hu (Nat.le_trans HC.out HQ.out.1.size))) (hi2.kept (Below.mono hu (Nat.le_trans HD.out HQ.out.1.size))) (Nat.le_trans (Nat.le_trans HC.out HQ.out.1.size) (Below.size hu)) (Nat.le_trans (Nat.le_trans HD.out HQ.out.1.size) (Below.size hu)))
        unfold txv at ST
        clear hi1 hi2 hb1 hb2
        generalize l.getD k nilT = x at *
        generalize r.getD k nilT = y at *
        obtain ⟨z, hz⟩ : ∃ z, z = eqT x y := ⟨_, rfl⟩
        rw [← hz] at ST HY HX
        clear hz
        have X0 := fun u (h : Held wr u) => h.cell c0
        have X1 := fun u (h : Held wr u) => h.cell c1
        have X2 := fun u (h : Held wr u) => h.cell c2
        have X3 := fun u (h : Held wr u) => h.cell c3
        have Y0 := fun u (h : Held wr u) => h.cell d0
        have Y1 := fun u (h : Held wr u) => h.cell d1
        have Y2 := fun u (h : Held wr u) => h.cell d2
        have Y3 := fun u (h : Held wr u) => h.cell d3
        clear c0 c1 c2 c3 d0 d1 d2 d3
        go_upto_region 6 with fail
        go_region_held3 (fun w' => Held wr w') (first | assumption | exact Held.start _ | exact Held.step (by assumption) (by assumption)) (first | (go_at_call 90; refine (ST.out _ (by assumption)).mono ?_; rintro e u ⟨rfl, hb⟩))
        rename_i hHeld
        have HB := Lib.hid (HQ.out.1.trans (Below.mono hHeld HQ.out.1.size))
        clear X0 X1 X2 X3 Y0 Y1 Y2 Y3 ST
        cases z with
        | true =>
          have HG := Lib.hid (HY.out rfl)
          clear HY HX
          go_wp2_with fail
          go_roundw
          case rel => exact ⟨k + 1, by omega, by go_num, HB.out, HG.out⟩
          case measure => simp [intOf]; omega
        | false =>
          have HG := Lib.hid (HX.out rfl)
          clear HY HX
          go_wp2_with fail
          go_ret
          exact ⟨by rw [HG.out]; rfl, HB.out⟩
      · obtain rfl : k = n := by omega
        have b1 : ¬ (k : Int) < (k : Int) := by omega
        have HG := Lib.hid (sameL_yes (eq := eqT) (d := nilT) (l := l) (m := r) (by rw [HN.out, HM.out]) (fun j hj => HQ.out.2 j (by rw [← HN.out]; exact hj)))
        go_wp2_with fail
        go_ret
        exact ⟨by rw [HG.out]; rfl, HQ.out.1⟩
  · have HG := Lib.hid (sameL_len (eq := eqT) (d := nilT) (l := l) (m := r) (by rw [h1.1, h2.1]; exact hnm))
    have b1 : ((n : Int) == (m : Int)) = false := by rw [beq_eq_false_iff_ne]; omega
    have b2 : ¬ (n : Int) = (m : Int) := by omega
    clear h1 h2 hmx hC hD
    go_enter Tryz.func65, Tryz.ntmps65
    go_wp2_with fail
    go_ret
    exact ⟨by rw [HG.out]; rfl, Below.refl _ _⟩
end Go.Proofs.YtnjggoeahaglbaaGreat.Rc

/- Are two records the same? -/
namespace Go.Proofs.YtnjggoeahaglbaaGreat.Rc
open Go.ChangeShapes Go.WideShapes Go.ChangeAt Go.RowKit
set_option linter.unusedVariables false
set_option linter.unusedSimpArgs false
set_option maxRecDepth 100000
theorem quietB {P : Program} {f : FuncId} {args : Array Value} {w : World} {v : Value} (h : Calls P f args w fun e w' => e = .returned v ∧ ∃ q, w' = w.drewN q) : Calls P f args w fun e w' => e = .returned v ∧ Below w.heap.size w w' :=
  h.mono fun _ _ ⟨he, q, hw⟩ => ⟨he, by subst hw; exact ⟨rfl, rfl, rfl, Nat.le_refl _, fun _ _ => rfl⟩⟩
set_option maxHeartbeats 8000000 in
theorem samer_is {C D : Nat} (a b : Rc) (h k : Hd) (w : World) (ha : RcM C w a h) (hb : RcM D w b k) (hC : C ≤ w.heap.size) (hD : D ≤ w.heap.size) :
    Calls Tryz.prog 27 #[rcv a h, rcv b k] w fun e w' => e = .returned (.bool (eqR a b)) ∧ Below w.heap.size w w' := by
  obtain ⟨x1, x2, x3, x4, x5, x6, ⟨x7, x8, x9, x10⟩, xg, xp, xt, xd⟩ := a
  obtain ⟨y1, y2, y3, y4, y5, y6, ⟨y7, y8, y9, y10⟩, yg, yp, yt, yd⟩ := b
  obtain ⟨⟨xA, xn, xc⟩, ⟨xB, xm, xdd⟩, ⟨xC, xo, xe⟩, ⟨xD, xpp, xf⟩⟩ := h
  obtain ⟨⟨yA, yn, yc⟩, ⟨yB, ym, ydd⟩, ⟨yC, yo, ye⟩, ⟨yD, ypp, yf⟩⟩ := k
  obtain ⟨_, _, _, _, _, _, m1, m2, m3, m4⟩ := ha
  obtain ⟨_, _, _, _, _, _, q1, q2, q3, q4⟩ := hb
  dsimp only at m1 m2 m3 m4 q1 q2 q3 q4
  have HA := Lib.hid (((Below.refl w.heap.size w).alloc (Nat.le_refl _) (.cells #[.int .i64 x1, .int .i64 x2, .int .i64 x3, .int .i64 x4, .string x5, .bool x6, .string x7, .string x8, .int .i64 x9, .int .i64 x10, .slice xA xn xc, .slice xB xm xdd, .slice xC xo xe, .slice xD xpp xf] 43)).alloc (by simp) (.cells #[.int .i64 y1, .int .i64 y2, .int .i64 y3, .int .i64 y4, .string y5, .bool y6, .string y7, .string y8, .int .i64 y9, .int .i64 y10, .slice yA yn yc, .slice yB ym ydd, .slice yC yo ye, .slice yD ypp yf] 43))
  have HX := Lib.hid ((Bx.new w #[.int .i64 x1, .int .i64 x2, .int .i64 x3, .int .i64 x4, .string x5, .bool x6, .string x7, .string x8, .int .i64 x9, .int .i64 x10, .slice xA xn xc, .slice xB xm xdd, .slice xC xo xe, .slice xD xpp xf] 43).alloc (.cells #[.int .i64 y1, .int .i64 y2, .int .i64 y3, .int .i64 y4, .string y5, .bool y6, .string y7, .string y8, .int .i64 y9, .int .i64 y10, .slice yA yn yc, .slice yB ym ydd, .slice yC yo ye, .slice yD ypp yf] 43))
  have HY := Lib.hid (Bx.new (w.alloc (.cells #[.int .i64 x1, .int .i64 x2, .int .i64 x3, .int .i64 x4, .string x5, .bool x6, .string x7, .string x8, .int .i64 x9, .int .i64 x10, .slice xA xn xc, .slice xB xm xdd, .slice xC xo xe, .slice xD xpp xf] 43)) #[.int .i64 y1, .int .i64 y2, .int .i64 y3, .int .i64 y4, .string y5, .bool y6, .string y7, .string y8, .int .i64 y9, .int .i64 y10, .slice yA yn yc, .slice yB ym ydd, .slice yC yo ye, .slice yD ypp yf] 43)
  have S1 := Lib.hid (fun u (hb : Below w.heap.size w u) => quietB (sameI_is (c := xc) (d := yc) u (m1.kept (hb.mono hC)) (q1.kept (hb.mono hD))))
  have S2 := Lib.hid (fun u (hb : Below w.heap.size w u) => quietB (sameP_is (c := xdd) (d := ydd) u (m2.kept (hb.mono hC)) (q2.kept (hb.mono hD))))
  have S3 := Lib.hid (fun u (hb : Below w.heap.size w u) => sameT_is (c := xe) (d := ye) u (m3.kept (hb.mono hC)) (q3.kept (hb.mono hD)) (Nat.le_trans hC hb.size) (Nat.le_trans hD hb.size))
  have S4 := Lib.hid (fun u (hb : Below w.heap.size w u) => quietB (sameD_is (c := xf) (d := yf) u (m4.kept (hb.mono hC)) (q4.kept (hb.mono hD))))
  have EC := eq_cl x7 x8 x9 x10 y7 y8 y9 y10
  unfold rcv eqR
  dsimp only
  clear m1 m2 m3 m4 q1 q2 q3 q4 hC hD
  generalize sameL eqI 0 xg yg = z8 at *
  generalize sameL eqP nilP xp yp = z9 at *
  generalize sameL eqT nilT xt yt = z10 at *
  generalize sameL eqD nilD xd yd = z11 at *
  generalize eqC ⟨x7, x8, x9, x10⟩ ⟨y7, y8, y9, y10⟩ = z7 at *
  go_enter Tryz.func27, Tryz.ntmps27
  go_upto_region 1 with fail
  generalize (w.alloc (.cells #[.int .i64 x1, .int .i64 x2, .int .i64 x3, .int .i64 x4, .string x5, .bool x6, .string x7, .string x8, .int .i64 x9, .int .i64 x10, .slice xA xn xc, .slice xB xm xdd, .slice xC xo xe, .slice xD xpp xf] 43)).alloc (.cells #[.int .i64 y1, .int .i64 y2, .int .i64 y3, .int .i64 y4, .string y5, .bool y6, .string y7, .string y8, .int .i64 y9, .int .i64 y10, .slice yA yn yc, .slice yB ym ydd, .slice yC yo ye, .slice yD ypp yf] 43) = W at *
  have HLx0 := Lib.hid HX.out.lt
  have HLy0 := Lib.hid HY.out.lt
  have hcx := fun j => HX.out.cell j
  have hcy := fun j => HY.out.cell j
  rw [World.size_alloc] at hcy HLy0
  have cx0 := hcx 0
  have cy0 := hcy 0
  have cx1 := hcx 1
  have cy1 := hcy 1
  have cx2 := hcx 2
  have cy2 := hcy 2
  have cx3 := hcx 3
  have cy3 := hcy 3
  have cx4 := hcx 4
  have cy4 := hcy 4
  have cx5 := hcx 5
  have cy5 := hcy 5
  have cx6 := hcx 6
  have cy6 := hcy 6
  have cx7 := hcx 7
  have cy7 := hcy 7
  have cx8 := hcx 8
  have cy8 := hcy 8
  have cx9 := hcx 9
  have cy9 := hcy 9
  have cx10 := hcx 10
  have cy10 := hcy 10
  have cx11 := hcx 11
  have cy11 := hcy 11
  have cx12 := hcx 12
  have cy12 := hcy 12
  have cx13 := hcx 13
  have cy13 := hcy 13
  clear hcx hcy
  simp only [List.getElem?_toArray, List.getElem?_cons_zero, List.getElem?_cons_succ] at cx0 cy0 cx1 cy1 cx2 cy2 cx3 cy3 cx4 cy4 cx5 cy5 cx6 cy6 cx7 cy7 cx8 cy8 cx9 cy9 cx10 cy10 cx11 cy11 cx12 cy12 cx13 cy13
  by_cases g1 : x1 = y1
  · subst g1
    by_cases g2 : x2 = y2
    · subst g2
      by_cases g3 : x3 = y3
      · subst g3
        by_cases g4 : x4 = y4
        · subst g4
          by_cases g5 : x5.toList = y5.toList
          · have e5 : (x5.toList == y5.toList) = true := by rw [g5]; simp
            by_cases g6 : x6 = y6
            · subst g6
              cases z7 with
              | false =>
                as_aux_lemma =>
                  go_wp2_with fail
                  go_ret
                  exact ⟨by simp [e5], HA.out⟩
              | true =>
                go_wp2_with fail
                refine (S1.out _ HA.out).mono ?_; rintro e u1 ⟨rfl, hb⟩
                have HA1 := Lib.hid (HA.out.trans (hb.mono HA.out.size))
                replace cx11 := (hb.cell HLx0.out).trans cx11
                replace cy11 := (hb.cell HLy0.out).trans cy11
                replace cx12 := (hb.cell HLx0.out).trans cx12
                replace cy12 := (hb.cell HLy0.out).trans cy12
                replace cx13 := (hb.cell HLx0.out).trans cx13
                replace cy13 := (hb.cell HLy0.out).trans cy13
                have HLx1 := Lib.hid (Nat.lt_of_lt_of_le HLx0.out hb.size)
                have HLy1 := Lib.hid (Nat.lt_of_lt_of_le HLy0.out hb.size)
                clear hb
                cases z8 with
                | false =>
                  as_aux_lemma =>
                    go_wp2_with fail
                    go_ret
                    exact ⟨by simp [e5], HA1.out⟩
                | true =>
                  go_wp2_with fail
                  refine (S2.out _ HA1.out).mono ?_; rintro e u2 ⟨rfl, hb⟩
                  have HA2 := Lib.hid (HA1.out.trans (hb.mono HA1.out.size))
                  replace cx12 := (hb.cell HLx1.out).trans cx12
                  replace cy12 := (hb.cell HLy1.out).trans cy12
                  replace cx13 := (hb.cell HLx1.out).trans cx13
                  replace cy13 := (hb.cell HLy1.out).trans cy13
                  have HLx2 := Lib.hid (Nat.lt_of_lt_of_le HLx1.out hb.size)
                  have HLy2 := Lib.hid (Nat.lt_of_lt_of_le HLy1.out hb.size)
                  clear hb
                  cases z9 with
                  | false =>
                    as_aux_lemma =>
                      go_wp2_with fail
                      go_ret
                      exact ⟨by simp [e5], HA2.out⟩
                  | true =>
                    go_wp2_with fail
                    refine (S3.out _ HA2.out).mono ?_; rintro e u3 ⟨rfl, hb⟩
                    have HA3 := Lib.hid (HA2.out.trans (hb.mono HA2.out.size))
                    replace cx13 := (hb.cell HLx2.out).trans cx13
                    replace cy13 := (hb.cell HLy2.out).trans cy13
                    have HLx3 := Lib.hid (Nat.lt_of_lt_of_le HLx2.out hb.size)
                    have HLy3 := Lib.hid (Nat.lt_of_lt_of_le HLy2.out hb.size)
                    clear hb
                    cases z10 with
                    | false =>
                      as_aux_lemma =>
                        go_wp2_with fail
                        go_ret
                        exact ⟨by simp [e5], HA3.out⟩
                    | true =>
                      go_wp2_with fail
                      refine (S4.out _ HA3.out).mono ?_; rintro e u4 ⟨rfl, hb⟩
                      have HA4 := Lib.hid (HA3.out.trans (hb.mono HA3.out.size))
                      clear hb
                      go_wp2_with fail
                      go_ret
                      exact ⟨by simp [e5], HA4.out⟩
            · have e6 : (x6 == y6) = false := by rw [beq_eq_false_iff_ne]; exact g6
              go_wp2_with fail
              go_ret
              exact ⟨by simp [e6], HA.out⟩
          · have e5 : (x5.toList == y5.toList) = false := by rw [beq_eq_false_iff_ne]; exact g5
            go_wp2_with fail
            go_ret
            exact ⟨by simp [e5], HA.out⟩
        · have e4 : (x4 == y4) = false := by rw [beq_eq_false_iff_ne]; exact g4
          go_wp2_with fail
          go_ret
          exact ⟨by simp [e4], HA.out⟩
      · have e3 : (x3 == y3) = false := by rw [beq_eq_false_iff_ne]; exact g3
        go_wp2_with fail
        go_ret
        exact ⟨by simp [e3], HA.out⟩
    · have e2 : (x2 == y2) = false := by rw [beq_eq_false_iff_ne]; exact g2
      go_wp2_with fail
      go_ret
      exact ⟨by simp [e2], HA.out⟩
  · have e1 : (x1 == y1) = false := by rw [beq_eq_false_iff_ne]; exact g1
    go_wp2_with fail
    go_ret
    exact ⟨by simp [e1], HA.out⟩
end Go.Proofs.YtnjggoeahaglbaaGreat.Rc
