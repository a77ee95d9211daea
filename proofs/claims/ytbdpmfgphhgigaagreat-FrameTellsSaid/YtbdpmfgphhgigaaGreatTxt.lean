/- Texts: lists of them in memory; are two alike; the book's names of marks. -/
import Derived.Test.YtbdpmfgphhgigaaGreatBkg
import Derived.StillTailTactics
import Derived.Laws.BytesArg
import Derived.Laws.IdiomStrings
import Derived.Lib.AppendStr
import Derived.Lib.Strings
namespace Go.Proofs.YtbdpmfgphhgigaaGreat.Bk
open Go.ChangeShapes Go.WideShapes Go.ChangeAt Go.RowKit
set_option linter.unusedVariables false
set_option linter.unusedSimpArgs false
set_option maxRecDepth 100000
/-- A list of texts that came in, or was made: below C. -/
def TextsM (C : Nat) (w : World) (A : Option Addr) (n : Nat) (l : List ByteArray) : Prop :=
  l.length = n ∧ n ≤ maxLen ∧ ∀ k, k < n → ∃ b off, A = some ⟨b, off, none⟩ ∧ b < C ∧ w.cell? ⟨b, off + k, none⟩ = some (.string (l.getD k ⟨#[]⟩)) ∧ (l.getD k ⟨#[]⟩).size ≤ maxLen
theorem TextsM.kept {C : Nat} {w w' : World} {A : Option Addr} {n : Nat} {l : List ByteArray} (h : TextsM C w A n l) (hb : Below C w w') : TextsM C w' A n l :=
  ⟨h.1, h.2.1, fun k hk => by
    obtain ⟨b, off, h1, h2, h3, h4⟩ := h.2.2 k hk
    exact ⟨b, off, h1, h2, (hb.cell (p := ⟨b, off + k, none⟩) h2).trans h3, h4⟩⟩
theorem TextsM.more {C D : Nat} {w : World} {A : Option Addr} {n : Nat} {l : List ByteArray} (h : TextsM C w A n l) (hD : C ≤ D) : TextsM D w A n l :=
  ⟨h.1, h.2.1, fun k hk => by
    obtain ⟨b, off, h1, h2, h3⟩ := h.2.2 k hk
    exact ⟨b, off, h1, Nat.lt_of_lt_of_le h2 hD, h3⟩⟩
theorem TextsM.nil (C : Nat) (w : World) (A : Option Addr) : TextsM C w A 0 [] := ⟨rfl, Nat.zero_le _, fun k hk => absurd hk (Nat.not_lt_zero _)⟩
theorem toL_inj {a b : ByteArray} (h : a.toList = b.toList) : a = b := by
  rw [Lib.toList_data, Lib.toList_data] at h
  apply ByteArray.ext
  exact Array.toList_inj.1 h
theorem getD_ext {l r : List ByteArray} (h : l.length = r.length) (hh : ∀ j, j < l.length → l.getD j ⟨#[]⟩ = r.getD j ⟨#[]⟩) : l = r := by
  refine List.ext_getElem h fun i h1 h2 => ?_
  have := hh i h1
  rwa [getD_at h1, getD_at h2] at this
set_option maxHeartbeats 2000000 in
theorem sameTx_is {C D n m c d : Nat} {A B : Option Addr} {l r : List ByteArray} (w : World) (h1 : TextsM C w A n l) (h2 : TextsM D w B m r) :
    Calls Tryz.prog 16 #[.slice A n c, .slice B m d] w fun e w' => e = .returned (.bool (decide (l = r))) ∧ ∃ q, w' = w.drewN q := by
  have hmx := h1.2.1
  unfold maxLen at hmx
  have hN : (n : Int) ≤ 9223372036854775807 := by omega
  by_cases hnm : n = m
  · have H1 := Lib.hid h1
    have H2 := Lib.hid h2
    have HN := Lib.hid h1.1
    have HM := Lib.hid (h2.1.trans hnm.symm)
    subst hnm
    clear h1 h2 hmx
    go_enter Tryz.func16, Tryz.ntmps16
    go_wp2_with fail
    go_loopw [5] (fun x wr => ∃ k : Nat, k ≤ n ∧ x = .int .i64 k ∧ (∃ q, wr = w.drewN q) ∧ Hid (∀ j, j < k → l.getD j ⟨#[]⟩ = r.getD j ⟨#[]⟩)) (fun x _ => n - (intOf x).toNat)
    case atStart => exact ⟨0, Nat.zero_le _, rfl, ⟨0, rfl⟩, fun j hj => absurd hj (Nat.not_lt_zero _)⟩
    case round =>
      obtain ⟨k, hk, rfl, ⟨q, rfl⟩, hq⟩ := hrel
      have HQ := Lib.hid hq.out
      clear hq
      have b0 : (0 : Int) ≤ (k : Int) := by omega
      by_cases hlt : k < n
      · obtain ⟨b, off, rfl, _, c0, _⟩ := H1.out.2.2 k hlt
        obtain ⟨b2, off2, rfl, _, d0, _⟩ := H2.out.2.2 k hlt
        have b1 : (k : Int) < (n : Int) := by omega
        have HY := Lib.hid (fun (h : l.getD k ⟨#[]⟩ = r.getD k ⟨#[]⟩) => show ∀ j, j < k + 1 → l.getD j ⟨#[]⟩ = r.getD j ⟨#[]⟩ from fun j hj => by
          by_cases e : j < k
          · exact HQ.out j e
          · obtain rfl : j = k := by omega
            exact h)
        have HX := Lib.hid (fun (h : l.getD k ⟨#[]⟩ ≠ r.getD k ⟨#[]⟩) => (show decide (l = r) = false from decide_eq_false fun e => h (by rw [e])))
        generalize l.getD k ⟨#[]⟩ = x at *
        generalize r.getD k ⟨#[]⟩ = y at *
        by_cases g : x.toList = y.toList
        · have HG := Lib.hid (HY.out (toL_inj g))
          have heq : (x.toList == y.toList) = true := by rw [beq_iff_eq]; exact g
          clear HY HX g
          go_wp2_with fail
          go_quiet (fail)
          go_wp2_with fail
          go_roundw
          case rel => exact ⟨k + 1, by omega, by go_num, ⟨_, rfl⟩, HG.out⟩
          case measure => simp [intOf] <;> omega
        · have HG := Lib.hid (HX.out (fun e => g (by rw [e])))
          have heq : (x.toList == y.toList) = false := by rw [beq_eq_false_iff_ne]; exact g
          clear HY HX g
          go_wp2_with fail
          go_quiet (fail)
          go_wp2_with fail
          go_ret
          exact ⟨by rw [HG.out]; rfl, q + nq, by simp [World.drewN, Nat.add_assoc]⟩
      · obtain rfl : k = n := by omega
        have b1 : ¬ (k : Int) < (k : Int) := by omega
        have HG := Lib.hid (show decide (l = r) = true from decide_eq_true (getD_ext (by rw [HN.out, HM.out]) (fun j hj => HQ.out j (by rw [← HN.out]; exact hj))))
        go_wp2_with fail
        go_ret
        exact ⟨by rw [HG.out]; rfl, q, rfl⟩
  · have HG := Lib.hid (show decide (l = r) = false from decide_eq_false fun e => hnm (by rw [← h1.1, ← h2.1, e]))
    have b1 : ((n : Int) == (m : Int)) = false := by rw [beq_eq_false_iff_ne]; omega
    have b2 : ¬ (n : Int) = (m : Int) := by omega
    clear h1 h2 hmx
    go_enter Tryz.func16, Tryz.ntmps16
    go_wp2_with fail
    go_ret
    exact ⟨by rw [HG.out]; rfl, 0, rfl⟩
/-- The name of the k-th mark of the i-th list. -/
def nameL (i k : Nat) : List UInt8 := [109, UInt8.ofNat (65 + i % 26), UInt8.ofNat (65 + i / 26 % 26), UInt8.ofNat (48 + k % 10), UInt8.ofNat (48 + k / 10 % 10), UInt8.ofNat (48 + k / 100 % 10)]
def nameS (i k : Nat) : ByteArray := ⟨(nameL i k).toArray⟩
theorem nameS_size (i k : Nat) : (nameS i k).size = 6 := rfl
set_option maxHeartbeats 2000000 in
theorem name_is (i k : Nat) (hi : i ≤ 1000) (hk : k ≤ 100000000) (w : World) : Calls Tryz.prog 110 #[.int .i64 i, .int .i64 k] w fun e w' => e = .returned (.string (nameS i k)) ∧ Below w.heap.size w w' := by
  have a1 : i % 26 < 26 := Nat.mod_lt _ (by decide)
  have a2 : i / 26 % 26 < 26 := Nat.mod_lt _ (by decide)
  have a3 : k % 10 < 10 := Nat.mod_lt _ (by decide)
  have a4 : k / 10 % 10 < 10 := Nat.mod_lt _ (by decide)
  have a5 : k / 100 % 10 < 10 := Nat.mod_lt _ (by decide)
  have hcv : ∀ W : World, (convert 64 9 (.slice (some ⟨W.heap.size, 0, none⟩) 6 6)).run Tryz.prog (W.alloc (.cells #[.int .u8 109, .int .u8 ((65 + i % 26 : Nat) : Int), .int .u8 ((65 + i / 26 % 26 : Nat) : Int), .int .u8 ((48 + k % 10 : Nat) : Int), .int .u8 ((48 + k / 10 % 10 : Nat) : Int), .int .u8 ((48 + k / 100 % 10 : Nat) : Int)] 5)) = .ok (.string (nameS i k)) (W.alloc (.cells #[.int .u8 109, .int .u8 ((65 + i % 26 : Nat) : Int), .int .u8 ((65 + i / 26 % 26 : Nat) : Int), .int .u8 ((48 + k % 10 : Nat) : Int), .int .u8 ((48 + k / 10 % 10 : Nat) : Int), .int .u8 ((48 + k / 100 % 10 : Nat) : Int)] 5)) := fun W =>
    run_convert_bytes_back (P := Tryz.prog) _ 64 9 5 ⟨W.heap.size, 0, none⟩ 6 (nameL i k) Tryz.underlying64 Tryz.underlying5 Tryz.underlying9 fun j hj => by
      have hh := heap_alloc_new W (.cells #[.int .u8 109, .int .u8 ((65 + i % 26 : Nat) : Int), .int .u8 ((65 + i / 26 % 26 : Nat) : Int), .int .u8 ((48 + k % 10 : Nat) : Int), .int .u8 ((48 + k / 10 % 10 : Nat) : Int), .int .u8 ((48 + k / 100 % 10 : Nat) : Int)] 5)
      have hu : ∀ n : Nat, n < 256 → ((UInt8.ofNat n).toNat : Int) = (n : Int) := fun n hn => by simp; omega
      match j, hj with
      | 0, _ => exact (cell_of_row _ W.heap.size 0 _ _ _ hh).trans rfl
      | 1, _ => exact (cell_of_row _ W.heap.size 1 _ _ _ hh).trans (by show some (Value.int .u8 _) = some (Value.int .u8 ((UInt8.ofNat _).toNat : Int)); rw [hu _ (by omega)])
      | 2, _ => exact (cell_of_row _ W.heap.size 2 _ _ _ hh).trans (by show some (Value.int .u8 _) = some (Value.int .u8 ((UInt8.ofNat _).toNat : Int)); rw [hu _ (by omega)])
      | 3, _ => exact (cell_of_row _ W.heap.size 3 _ _ _ hh).trans (by show some (Value.int .u8 _) = some (Value.int .u8 ((UInt8.ofNat _).toNat : Int)); rw [hu _ (by omega)])
      | 4, _ => exact (cell_of_row _ W.heap.size 4 _ _ _ hh).trans (by show some (Value.int .u8 _) = some (Value.int .u8 ((UInt8.ofNat _).toNat : Int)); rw [hu _ (by omega)])
      | 5, _ => exact (cell_of_row _ W.heap.size 5 _ _ _ hh).trans (by show some (Value.int .u8 _) = some (Value.int .u8 ((UInt8.ofNat _).toNat : Int)); rw [hu _ (by omega)])
  have e1 : (i : Int) % 26 = ((i % 26 : Nat) : Int) := by omega
  have e2 : (i : Int) / 26 = ((i / 26 : Nat) : Int) := by omega
  have e3 : ((i / 26 : Nat) : Int) % 26 = ((i / 26 % 26 : Nat) : Int) := by omega
  have e4 : (k : Int) % 10 = ((k % 10 : Nat) : Int) := by omega
  have e5 : (k : Int) / 10 = ((k / 10 : Nat) : Int) := by omega
  have e6 : ((k / 10 : Nat) : Int) % 10 = ((k / 10 % 10 : Nat) : Int) := by omega
  have e7 : (k : Int) / 100 = ((k / 100 : Nat) : Int) := by omega
  have e8 : ((k / 100 : Nat) : Int) % 10 = ((k / 100 % 10 : Nat) : Int) := by omega
  generalize nameS i k = S at *
  have c1 : ((65 + i % 26 : Nat) : Int) = 65 + ((i % 26 : Nat) : Int) := by omega
  have c2 : ((65 + i / 26 % 26 : Nat) : Int) = 65 + ((i / 26 % 26 : Nat) : Int) := by omega
  have c3 : ((48 + k % 10 : Nat) : Int) = 48 + ((k % 10 : Nat) : Int) := by omega
  have c4 : ((48 + k / 10 % 10 : Nat) : Int) = 48 + ((k / 10 % 10 : Nat) : Int) := by omega
  have c5 : ((48 + k / 100 % 10 : Nat) : Int) = 48 + ((k / 100 % 10 : Nat) : Int) := by omega
  rw [c1, c2, c3, c4, c5] at hcv
  clear c1 c2 c3 c4 c5
  generalize i % 26 = x1 at *
  generalize i / 26 % 26 = x2 at *
  generalize i / 26 = y1 at *
  generalize k % 10 = x3 at *
  generalize k / 10 % 10 = x4 at *
  generalize k / 10 = y2 at *
  generalize k / 100 % 10 = x5 at *
  generalize k / 100 = y3 at *
  have u1 : IntKind.u8.wrap (65 + (x1 : Int)) = 65 + (x1 : Int) := IntWalk.u8_in _ (by omega)
  have u2 : IntKind.u8.wrap (65 + (x2 : Int)) = 65 + (x2 : Int) := IntWalk.u8_in _ (by omega)
  have u3 : IntKind.u8.wrap (48 + (x3 : Int)) = 48 + (x3 : Int) := IntWalk.u8_in _ (by omega)
  have u4 : IntKind.u8.wrap (48 + (x4 : Int)) = 48 + (x4 : Int) := IntWalk.u8_in _ (by omega)
  have u5 : IntKind.u8.wrap (48 + (x5 : Int)) = 48 + (x5 : Int) := IntWalk.u8_in _ (by omega)
  go_enter Tryz.func110, Tryz.ntmps110
  go_wp2_with fail
  go_ret
  exact ⟨rfl, (Below.refl _ _).alloc (Nat.le_refl _) _⟩
end Go.Proofs.YtbdpmfgphhgigaaGreat.Bk
