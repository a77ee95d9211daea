/- Slices of numbers: how they read, what keeps them; SameInts: whether two are the same. -/
import Derived.Test.YtoladghpoddlgaaMem
import Derived.Test.YtoladghpoddlgaaChecked
import Derived.Test.YtoladghpoddlgaaRows
import Derived.WalkKit
import Derived.ProofKit
import Derived.IntWalk
import Derived.Below
import Derived.Carry
import Derived.OneCell
import Derived.Lib.Hide
import Derived.LoopTactic
import Derived.BigQuiet
import Derived.RegionTactic
import Derived.Deep.QuietTactic
import Derived.Deep.OwnRows
import Derived.Deep.AppendLies
import Derived.Lib.Strings
namespace Go.Proofs.Ytoladghpoddlgaa.I
open Go.ChangeShapes Go.WideShapes Go.ChangeAt Go.RowKit
set_option linter.unusedVariables false
set_option linter.unusedSimpArgs false
set_option maxRecDepth 100000

theorem add_plain (b off i : Nat) : (⟨b, off, none⟩ : Addr).add i = ⟨b, off + i, none⟩ := by unfold Addr.add; split <;> simp_all
theorem infoI : (Try.prog.info? 3).map (fun i => (i.zero, i.size, i.bytes)) = some (some (.int .i64 0), 1, 8) := by kernel_rfl
/-- The slice value sv holds the numbers zs, in a block below n₀; or there are none. -/
def Nums (n₀ : Nat) (W : World) (sv : Value) (zs : List Int) : Prop :=
  (∃ A c, sv = .slice A 0 c ∧ zs = []) ∨ ∃ b off cap, sv = .slice (some ⟨b, off, none⟩) zs.length cap ∧ b < n₀ ∧ ∀ j, j < zs.length → W.cell? ⟨b, off + j, none⟩ = some (.int .i64 (zs[j]?.getD 0))
theorem Nums.below {n₀ : Nat} {A B : World} (h : Below n₀ A B) {sv : Value} {zs : List Int} : Nums n₀ A sv zs → Nums n₀ B sv zs
  | .inl e => .inl e
  | .inr ⟨b, off, cap, e, hb, hc⟩ => .inr ⟨b, off, cap, e, hb, fun j hj => (h.cell (p := ⟨b, off + j, none⟩) hb).trans (hc j hj)⟩
/-- The slice value's row holds the numbers l. -/
def Row (w : World) (A : Option Addr) (n c : Nat) (l : List Int) : Prop := n = l.length ∧ w.ownsRow 0 3 1 (.slice A n c) n (l.map (Value.int .i64))
theorem own_base {w : World} {B e s n : Nat} {v : Value} {xs : List Value} (h : w.ownsRow B e s v n xs) : w.ownsRow 0 e s v n xs := by
  refine ⟨h.1, ?_⟩
  rcases h.2 with h | ⟨g, cap, cur, h1, h2, h3⟩
  · exact .inl h
  · exact .inr ⟨g, cap, cur, h1, Nat.zero_le _, h3⟩
theorem Row.at {w : World} {A : Option Addr} {n c : Nat} {l : List Int} (h : Row w A n c l) {i : Nat} (hi : i < n) : ∃ g, A = some ⟨g, 0, none⟩ ∧ w.cell? ⟨g, i, none⟩ = some (.int .i64 (l.getD i 0)) := by
  obtain ⟨hn, h⟩ := h
  rcases h.2 with ⟨h1, h2⟩ | ⟨g, cap, cur, h1, h2, h3⟩
  · omega
  · simp only [Value.slice.injEq] at h1
    obtain ⟨rfl, _, rfl⟩ := h1
    refine ⟨g, rfl, ?_⟩
    have := h.cells (g := g) rfl i (.int .i64 (l.getD i 0)) (by simp [List.getD, List.getElem?_eq_getElem (show i < l.length by omega)])
    rw [add_plain, Nat.zero_add] at this
    exact this
theorem Row.nums {w : World} {A : Option Addr} {n c : Nat} {l : List Int} (h : Row w A n c l) : Nums w.heap.size w (.slice A n c) l := by
  obtain ⟨hn, ho⟩ := h
  by_cases h0 : n = 0
  · subst h0
    exact .inl ⟨A, c, rfl, List.eq_nil_of_length_eq_zero hn.symm⟩
  · obtain ⟨g, rfl, hc⟩ := Row.at ⟨hn, ho⟩ (i := 0) (by omega)
    refine .inr ⟨g, 0, c, by rw [hn], World.block_lt_of_cell? w _ hc, fun j hj => ?_⟩
    obtain ⟨g', e, hc'⟩ := Row.at ⟨hn, ho⟩ (i := j) (by omega)
    simp only [Option.some.injEq, Addr.mk.injEq, and_true] at e
    subst e
    rw [Nat.zero_add, hc']
    simp [List.getD]
theorem Row.below {w w' : World} {A : Option Addr} {n c : Nat} {l : List Int} (h : Row w A n c l) (hb : Below w.heap.size w w') : Row w' A n c l := by
  refine ⟨h.1, h.2.1, ?_⟩
  rcases h.2.2 with h | ⟨g, cap, cur, h1, h2, h3, h4⟩
  · exact .inl h
  · exact .inr ⟨g, cap, cur, h1, h2, (hb.block g (Array.getElem?_eq_some_iff.1 h3).1).trans h3, h4⟩
theorem Nums.at {n₀ : Nat} {w : World} {A : Option Addr} {n c : Nat} {l : List Int} (h : Nums n₀ w (.slice A n c) l) {i : Nat} (hi : i < n) : ∃ b off, A = some ⟨b, off, none⟩ ∧ b < n₀ ∧ w.cell? ⟨b, off + i, none⟩ = some (.int .i64 (l.getD i 0)) := by
  rcases h with ⟨A', c', h1, h2⟩ | ⟨b, off, cap, h1, h2, h3⟩
  · simp at h1; omega
  · simp only [Value.slice.injEq] at h1
    obtain ⟨rfl, hn, rfl⟩ := h1
    exact ⟨b, off, rfl, h2, by rw [h3 i (by omega)]; simp [List.getD]⟩
theorem Nums.len {n₀ : Nat} {w : World} {A : Option Addr} {n c : Nat} {l : List Int} (h : Nums n₀ w (.slice A n c) l) : n = l.length := by
  rcases h with ⟨A', c', h1, h2⟩ | ⟨b, off, cap, h1, h2, h3⟩
  · simp at h1; subst h2; simp; omega
  · simp at h1; omega
theorem own_shape {w : World} {B e s n : Nat} {v : Value} {xs : List Value} (h : w.ownsRow B e s v n xs) : ∃ A c, v = .slice A n c := by
  rcases h.2 with ⟨rfl, rfl⟩ | ⟨g, cap, cur, rfl, _⟩
  · exact ⟨_, _, rfl⟩
  · exact ⟨_, _, rfl⟩
/-! One cell of an owned row, set. -/
theorem own_set {w : World} {B e s n : Nat} {v : Value} {xs : List Value} {g k : Nat} (h : w.ownsRow B e s v n xs) (hg : v.ownBlock = some g) (u : Value) : (w.setCell ⟨g, k, none⟩ u).ownsRow B e s v n (xs.set k u) := by
  refine ⟨by rw [List.length_set]; exact h.1, ?_⟩
  rcases h.2 with ⟨rfl, _⟩ | ⟨g', cap, cur, rfl, h1, h2, h3, h4, h5, h6⟩
  · simp [Value.ownBlock] at hg
  · simp only [Value.ownBlock, Option.some.injEq] at hg
    subst hg
    refine .inr ⟨g', cap, cur.setIfInBounds k u, rfl, h1, ?_, h3, h4, by simp [h5], ?_⟩
    · rw [setCell_eq_setRow w g' k cur e (0, 0) u h2, setRow_heap w g' _ _ _ _ h2]
    · rw [Array.toList_setIfInBounds, List.take_set, h6]
/-- A part of a row. -/
theorem Nums.part {n₀ : Nat} {w : World} {b off n c : Nat} {l : List Int} (h : Nums n₀ w (.slice (some ⟨b, off, none⟩) n c) l) (p m c' : Nat) (hp : p + m ≤ n) : Nums n₀ w (.slice (some ⟨b, off + p, none⟩) m c') ((l.drop p).take m) := by
  have hl := h.len
  by_cases h0 : m = 0
  · subst h0
    exact .inl ⟨_, _, rfl, by simp⟩
  · have hlt : b < n₀ := by
      obtain ⟨b', off', e, hb, _⟩ := h.at (i := 0) (by omega)
      simp only [Option.some.injEq, Addr.mk.injEq, and_true] at e
      omega
    have hlen : ((l.drop p).take m).length = m := by rw [List.length_take, List.length_drop]; omega
    refine .inr ⟨b, off + p, c', by rw [hlen], hlt, fun j hj => ?_⟩
    rw [hlen] at hj
    obtain ⟨b', off', e, _, hc⟩ := h.at (i := p + j) (by omega)
    simp only [Option.some.injEq, Addr.mk.injEq, and_true] at e
    obtain ⟨rfl, rfl⟩ := e
    rw [Nat.add_assoc, hc, List.getElem?_take, if_pos hj, List.getElem?_drop]
    simp [List.getD]
/-- How many at the start are the same. -/
theorem same_iff {l m : List Int} (hn : l.length = m.length) : l = m ↔ ∀ j, j < l.length → l.getD j 0 = m.getD j 0 := by
  constructor
  · rintro rfl j _; rfl
  · intro h
    apply List.ext_getElem hn
    intro i h1 h2
    have := h i h1
    simpa [List.getD, h1, h2] using this
set_option maxHeartbeats 1000000 in
theorem sameint_any (n₀ : Nat) (A B : Option Addr) (n m c d : Nat) (l k : List Int) (w : World) (hn : n ≤ 1000000) (hm : m ≤ 1000000) (h1 : Nums n₀ w (.slice A n c) l) (h2 : Nums n₀ w (.slice B m d) k) :
    Calls Try.prog 34 #[.slice A n c, .slice B m d] w fun e w' => e = .returned (.bool (decide (l = k))) ∧ ∃ q, w' = w.drewN q := by
  obtain ⟨r, hr⟩ : ∃ r, r = decide (l = k) := ⟨_, rfl⟩
  rw [← hr]
  have HR := Lib.hid hr
  clear hr
  have H1 := Lib.hid h1
  have H2 := Lib.hid h2
  have hN : (n : Int) ≤ 1000000 := by omega
  have L1 := h1.len
  have L2 := h2.len
  by_cases hnm : n = m
  · subst hnm
    have HS := Lib.hid (same_iff (l := l) (m := k) (by omega))
    have HL := Lib.hid L1
    clear h1 h2 L1 L2 hm
    go_enter Try.func34, Try.ntmps34
    go_wp2_with fail
    go_loopw [5] (fun x wr => ∃ j : Nat, j ≤ n ∧ x = .int .i64 j ∧ Hid (∀ i, i < j → l.getD i 0 = k.getD i 0) ∧ ∃ q, wr = w.drewN q) (fun x _ => n - (intOf x).toNat)
    case atStart => exact ⟨0, Nat.zero_le _, rfl, fun i hi => absurd hi (Nat.not_lt_zero _), 0, rfl⟩
    case round =>
      obtain ⟨j, hj, rfl, hall, q, rfl⟩ := hrel
      have b0 : (0 : Int) ≤ (j : Int) := by omega
      by_cases hlt : j < n
      · obtain ⟨b, off, rfl, hb, hc⟩ := H1.out.at hlt
        obtain ⟨b2, off2, rfl, hb2, hc2⟩ := H2.out.at hlt
        have b1 : (j : Int) < (n : Int) := by omega
        have HX := Lib.hid (show l.getD j 0 = k.getD j 0 ∨ l.getD j 0 ≠ k.getD j 0 from Decidable.em _)
        have HX2 := Lib.hid (show l.getD j 0 = k.getD j 0 ↔ l.getD j 0 = k.getD j 0 from Iff.rfl)
        have HST := Lib.hid (fun (e : l.getD j 0 = k.getD j 0) => (show ∀ i, i < j + 1 → l.getD i 0 = k.getD i 0 from fun i hi => by
          by_cases h : i = j
          · rw [h]; exact e
          · exact hall.out i (by omega)))
        have HNO := Lib.hid (fun (e : l.getD j 0 ≠ k.getD j 0) => (show decide (l = k) = false from decide_eq_false (fun h => e (by rw [h]))))
        clear HX2
        clear hb hb2
        generalize l.getD j 0 = x at *
        generalize k.getD j 0 = y at *
        rcases HX.out with hxy | hxy
        · have HST1 := Lib.hid (HST.out hxy)
          subst hxy
          clear HX HST HNO
          go_wp2_with fail
          go_quiet (fail)
          go_wp2_with fail
          go_roundw
          case rel => exact ⟨j + 1, by omega, by go_num, HST1.out, _, rfl⟩
          case measure => simp [intOf]; omega
        · have hb : (x == y) = false := by simpa using hxy
          obtain rfl : r = false := HR.out.trans (HNO.out hxy)
          clear HX HST HNO hall HR
          go_wp2_with fail
          go_quiet (fail)
          go_wp2_with fail
          go_ret
          exact ⟨rfl, _, World.drewN_drewN ..⟩
      · obtain rfl : n = j := by omega
        have e1 : decide (l = k) = true := decide_eq_true (HS.out.2 (by rw [← HL.out]; exact hall.out))
        obtain rfl : r = true := HR.out.trans e1
        clear e1 hall HR
        go_wp2_with fail
        go_ret
        exact ⟨rfl, q, rfl⟩
  · have e1 : decide (l = k) = false := decide_eq_false (fun h => hnm (by rw [L1, L2, h]))
    have hb : ((n : Int) == (m : Int)) = false := by rw [beq_eq_false_iff_ne]; omega
    have hb2 : ((n : Int) != (m : Int)) = true := by rw [bne_iff_ne]; omega
    have hne : (n : Int) ≠ (m : Int) := by omega
    obtain rfl : r = false := HR.out.trans e1
    clear h1 h2 L1 L2 hm hN e1 H1 H2 HR
    go_enter Try.func34, Try.ntmps34
    go_wp2_with fail
    go_ret
    exact ⟨rfl, 0, rfl⟩
theorem same_walk (n₀ : Nat) (A B : Option Addr) (n c d : Nat) (l : List Int) (w : World) (hn : n ≤ 1000000) (h1 : Nums n₀ w (.slice A n c) l) (h2 : Nums n₀ w (.slice B n d) l) :
    Calls Try.prog 34 #[.slice A n c, .slice B n d] w fun e w' => e = .returned (.bool true) ∧ ∃ q, w' = w.drewN q :=
  (sameint_any n₀ A B n n c d l l w hn hn h1 h2).mono fun e w' ⟨a, b⟩ => ⟨by rw [a, decide_eq_true rfl], b⟩
end Go.Proofs.Ytoladghpoddlgaa.I
