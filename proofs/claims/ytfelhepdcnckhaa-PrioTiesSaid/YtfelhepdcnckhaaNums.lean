/- Slices of numbers of the law's own: how they read, what keeps them; SameInts. -/
import Derived.Test.YtfelhepdcnckhaaLaws
import Derived.Test.YtfelhepdcnckhaaSort
namespace Go.Proofs.Ytfelhepdcnckhaa
open Go.ChangeShapes Go.WideShapes Go.ChangeAt Go.RowKit
set_option linter.unusedVariables false

/-- The slice value's row holds the numbers l. -/
def Row (w : World) (A : Option Addr) (n c : Nat) (l : List Int) : Prop := n = l.length ∧ w.ownsRow 0 3 1 (.slice A n c) n (l.map (Value.int .i64))
theorem own_base {w : World} {B e s n : Nat} {v : Value} {xs : List Value} (h : w.ownsRow B e s v n xs) : w.ownsRow 0 e s v n xs := by
  refine ⟨h.1, ?_⟩
  rcases h.2 with h | ⟨g, cap, cur, h1, h2, h3⟩
  · exact .inl h
  · exact .inr ⟨g, cap, cur, h1, Nat.zero_le _, h3⟩
theorem Row.at {w : World} {A : Option Addr} {n c : Nat} {l : List Int} (h : Row w A n c l) {i : Nat} (hi : i < n) : ∃ g, A = some ⟨g, 0, none⟩ ∧ w.cell? ⟨g, i, none⟩ = some (.int .i64 (l.getD i 0)) := by
  obtain ⟨hn, h⟩ := h
  rcases h.2 with ⟨h1, h2⟩ | ⟨g, cap, cur, h1, h2, h3⟩
  · omega
  · simp only [Value.slice.injEq] at h1
    obtain ⟨rfl, _, rfl⟩ := h1
    refine ⟨g, rfl, ?_⟩
    have := h.cells (g := g) rfl i (.int .i64 (l.getD i 0)) (by simp [List.getD, List.getElem?_eq_getElem (show i < l.length by omega)])
    rw [add_plain, Nat.zero_add] at this
    exact this
theorem Row.nums {w : World} {A : Option Addr} {n c : Nat} {l : List Int} (h : Row w A n c l) : Nums w.heap.size w (.slice A n c) l := by
  obtain ⟨hn, ho⟩ := h
  by_cases h0 : n = 0
  · subst h0
    exact .inl ⟨A, c, rfl, List.eq_nil_of_length_eq_zero hn.symm⟩
  · obtain ⟨g, rfl, hc⟩ := Row.at ⟨hn, ho⟩ (i := 0) (by omega)
    refine .inr ⟨g, 0, c, by rw [hn], World.block_lt_of_cell? w _ hc, fun j hj => ?_⟩
    obtain ⟨g', e, hc'⟩ := Row.at ⟨hn, ho⟩ (i := j) (by omega)
    simp only [Option.some.injEq, Addr.mk.injEq, and_true] at e
    subst e
    rw [Nat.zero_add, hc']
    simp [List.getD]
theorem Row.below {w w' : World} {A : Option Addr} {n c : Nat} {l : List Int} (h : Row w A n c l) (hb : Below w.heap.size w w') : Row w' A n c l := by
  refine ⟨h.1, h.2.1, ?_⟩
  rcases h.2.2 with h | ⟨g, cap, cur, h1, h2, h3, h4⟩
  · exact .inl h
  · exact .inr ⟨g, cap, cur, h1, h2, (hb.block g (Array.getElem?_eq_some_iff.1 h3).1).trans h3, h4⟩
theorem Row.kept {C p : Nat} {w w' : World} {A : Option Addr} {n c : Nat} {l : List Int} {m : List Pr} (h : Row w A n c l) (ho : Own C p m w) (hk : Kept C p w w') : Row w' A n c l := by
  refine ⟨h.1, h.2.1, ?_⟩
  rcases h.2.2 with h | ⟨g, cap, cur, h1, h2, h3, h4⟩
  · exact .inl h
  · refine .inr ⟨g, cap, cur, h1, h2, hk.2 g _ h3 (fun e => ?_) (by intro cs; simp), h4⟩
    obtain ⟨v, ⟨f, k, hf, _⟩, _⟩ := ho
    rw [e, hf.1] at h3
    simp at h3
theorem Ints.nums {w : World} {A : Option Addr} {n c : Nat} {l : List Int} (h : Ints w A n l) : Nums w.heap.size w (.slice A n c) l := by
  by_cases h0 : n = 0
  · subst h0
    exact .inl ⟨A, c, rfl, List.eq_nil_of_length_eq_zero h.1⟩
  · obtain ⟨b, off, rfl, hb, hc, _⟩ := h.2 0 (by omega)
    refine .inr ⟨b, off, c, by rw [h.1], hb, fun j hj => ?_⟩
    obtain ⟨b', off', e, _, hc', _⟩ := h.2 j (by rw [← h.1]; exact hj)
    simp only [Option.some.injEq, Addr.mk.injEq, and_true] at e
    obtain ⟨rfl, rfl⟩ := e
    rw [hc']
    simp [List.getD]
theorem Gathered.row {zs l : List Int} {w w' : World} {A : Option Addr} {n c : Nat} (hl : zs.length = l.length) (h1 : n = zs.length) (h2 : w'.ownsRow w.heap.size 3 1 (.slice A n c) n (l.map (Value.int .i64))) : Row w' A n c l :=
  ⟨h1.trans hl, own_base h2⟩
theorem Nums.at {n₀ : Nat} {w : World} {A : Option Addr} {n c : Nat} {l : List Int} (h : Nums n₀ w (.slice A n c) l) {i : Nat} (hi : i < n) : ∃ b off, A = some ⟨b, off, none⟩ ∧ b < n₀ ∧ w.cell? ⟨b, off + i, none⟩ = some (.int .i64 (l.getD i 0)) := by
  rcases h with ⟨A', c', h1, h2⟩ | ⟨b, off, cap, h1, h2, h3⟩
  · simp at h1; omega
  · simp only [Value.slice.injEq] at h1
    obtain ⟨rfl, hn, rfl⟩ := h1
    exact ⟨b, off, rfl, h2, by rw [h3 i (by omega)]; simp [List.getD]⟩
theorem Nums.len {n₀ : Nat} {w : World} {A : Option Addr} {n c : Nat} {l : List Int} (h : Nums n₀ w (.slice A n c) l) : n = l.length := by
  rcases h with ⟨A', c', h1, h2⟩ | ⟨b, off, cap, h1, h2, h3⟩
  · simp at h1; subst h2; simp; omega
  · simp at h1; omega

set_option maxHeartbeats 1000000 in
theorem same_walk (n₀ : Nat) (A B : Option Addr) (n c d : Nat) (l : List Int) (w : World) (hn : n ≤ 1000000) (h1 : Nums n₀ w (.slice A n c) l) (h2 : Nums n₀ w (.slice B n d) l) :
    Calls Try.prog 15 #[.slice A n c, .slice B n d] w fun e w' => e = .returned (.bool true) ∧ ∃ q, w' = w.drewN q := by
  have H1 := Lib.hid h1
  have H2 := Lib.hid h2
  have hN : (n : Int) ≤ 1000000 := by omega
  clear h1 h2
  go_enter Try.func15, Try.ntmps15
  go_wp2_with fail
  go_loopw [5] (fun x wr => ∃ k : Nat, k ≤ n ∧ x = .int .i64 k ∧ ∃ q, wr = w.drewN q) (fun x _ => n - (intOf x).toNat)
  case atStart => exact ⟨0, Nat.zero_le _, rfl, 0, rfl⟩
  case round =>
    obtain ⟨k, hk, rfl, q, rfl⟩ := hrel
    have b0 : (0 : Int) ≤ (k : Int) := by omega
    by_cases hlt : k < n
    · obtain ⟨b, off, rfl, hb, hc⟩ := H1.out.at hlt
      obtain ⟨b2, off2, rfl, hb2, hc2⟩ := H2.out.at hlt
      have b1 : (k : Int) < (n : Int) := by omega
      generalize l.getD k 0 = x at *
      clear hb hb2
      go_wp2_with fail
      go_quiet (fail)
      go_wp2_with fail
      go_roundw
      case rel => exact ⟨k + 1, by omega, by go_num, _, rfl⟩
      case measure => simp [intOf]; omega
    · obtain rfl : k = n := by omega
      go_wp2_with fail
      go_ret
      exact ⟨rfl, q, rfl⟩
end Go.Proofs.Ytfelhepdcnckhaa
