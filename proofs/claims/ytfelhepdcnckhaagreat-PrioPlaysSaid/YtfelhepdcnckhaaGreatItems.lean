/- The document's items: how a list of them reads; the first of them. -/
import Derived.Test.YtfelhepdcnckhaaGreatBook
import Derived.Test.YtfelhepdcnckhaaGreatMeth
namespace Go.Proofs.YtfelhepdcnckhaaGreat
open Go.ChangeShapes Go.WideShapes Go.ChangeAt Go.RowKit
set_option linter.unusedVariables false
set_option maxRecDepth 100000

def Its (w : World) (A : Option Addr) (n c : Nat) (l : List Pr) : Prop := n = l.length ∧ w.ownsRow 0 35 2 (.slice A n c) n (l.flatMap pc)
abbrev p0 : Pr := (0, 0)
theorem its_vals (l : List Pr) : l = vals (fun i => l.getD i p0) l.length := by
  apply List.ext_getElem
  · simp [vals]
  · intro i h1 h2
    simp [vals, List.getD, h1]
theorem its_len (l : List Pr) : (l.flatMap pc).length = l.length * 2 := by
  have := pcs_length (fun i => l.getD i p0) l.length
  unfold pcs at this
  rwa [← its_vals] at this
theorem its_at0 (l : List Pr) (i : Nat) (h : i < l.length) : (l.flatMap pc)[i * 2]? = some (.int .i64 (l.getD i p0).1) := by
  have := pcs_at0 (fun i => l.getD i p0) l.length i h
  unfold pcs at this
  rwa [← its_vals] at this
theorem its_at1 (l : List Pr) (i : Nat) (h : i < l.length) : (l.flatMap pc)[i * 2 + 1]? = some (.int .i64 (l.getD i p0).2) := by
  have := pcs_at1 (fun i => l.getD i p0) l.length i h
  unfold pcs at this
  rwa [← its_vals] at this
theorem its_ones (l : List Pr) : ∀ u ∈ l.flatMap pc, u.oneCell' = true := by
  intro u hu
  obtain ⟨x, _, hx⟩ := List.mem_flatMap.1 hu
  simp only [pc, List.mem_cons, List.not_mem_nil, or_false] at hx
  rcases hx with rfl | rfl <;> rfl
theorem Its.at {w : World} {A : Option Addr} {n c : Nat} {l : List Pr} (h : Its w A n c l) {i : Nat} (hi : i < n) : ∃ g, A = some ⟨g, 0, none⟩ ∧ w.cell? ⟨g, i * 2, none⟩ = some (.int .i64 (l.getD i p0).1) ∧ w.cell? ⟨g, i * 2 + 1, none⟩ = some (.int .i64 (l.getD i p0).2) := by
  obtain ⟨hn, h⟩ := h
  rcases h.2 with ⟨_, h0⟩ | ⟨g, cap, cur, h1, _⟩
  · omega
  · simp only [Value.slice.injEq] at h1
    obtain ⟨rfl, _, rfl⟩ := h1
    have c0 := h.cells (g := g) rfl (i * 2) _ (its_at0 l i (by omega))
    have c1 := h.cells (g := g) rfl (i * 2 + 1) _ (its_at1 l i (by omega))
    rw [add_plain, Nat.zero_add] at c0 c1
    exact ⟨g, rfl, c0, c1⟩
theorem Its.src {w : World} {A : Option Addr} {n c : Nat} {l : List Pr} (h : Its w A n c l) : Src w 2 A n (l.flatMap pc) := by
  obtain ⟨hn, h⟩ := h
  refine ⟨by rw [its_len, hn], fun h0 => ?_⟩
  rcases h.2 with ⟨_, h1⟩ | ⟨g, cap, cur, h1, _⟩
  · omega
  · simp only [Value.slice.injEq] at h1
    obtain ⟨rfl, _, rfl⟩ := h1
    exact ⟨_, rfl, h.cells (g := g) rfl⟩
theorem owns_kept3 {w w' : World} {B e s n : Nat} {v : Value} {xs : List Value} (h : w.ownsRow B e s v n xs) (hk : ∀ g, v.ownBlock = some g → w'.heap[g]? = w.heap[g]?) : w'.ownsRow B e s v n xs := by
  refine ⟨h.1, ?_⟩
  rcases h.2 with h1 | ⟨g', cap, cur, rfl, h1, h2, h3⟩
  · exact .inl h1
  · exact .inr ⟨g', cap, cur, rfl, h1, (hk g' rfl).trans h2, h3⟩
theorem Its.below {w w' : World} {A : Option Addr} {n c : Nat} {l : List Pr} (h : Its w A n c l) (hb : Below w.heap.size w w') : Its w' A n c l := ⟨h.1, owns_kept3 h.2 fun g hg => hb.block g (h.2.lt g hg).2⟩
theorem owns_block3 {w : World} {B e s n : Nat} {v : Value} {xs : List Value} (h : w.ownsRow B e s v n xs) {g : Nat} (hg : v.ownBlock = some g) : ∃ cur, w.heap[g]? = some (.cells cur e (0, 0)) := by
  rcases h.2 with ⟨rfl, _⟩ | ⟨g', cap, cur, rfl, _, h2, _⟩
  · simp [Value.ownBlock] at hg
  · simp only [Value.ownBlock, Option.some.injEq] at hg
    subst hg
    exact ⟨cur, h2⟩
theorem Its.kept {C p : Nat} {w w' : World} {A : Option Addr} {n c : Nat} {l m : List Pr} (h : Its w A n c l) (ho : Own C p m w) (hk : Kept C p w w') : Its w' A n c l :=
  ⟨h.1, owns_kept3 h.2 fun g hg => by
    obtain ⟨cur, hc⟩ := owns_block3 h.2 hg
    rw [hc]
    refine hk.2 g _ hc (fun e => ?_) (by intro cs; simp)
    obtain ⟨v, ⟨f, k, hf, _⟩, _⟩ := ho
    rw [e, hf.1] at hc
    simp at hc⟩
theorem its_nil (w : World) : Its w none 0 0 [] := ⟨rfl, World.ownsRow_nil _ _ _ _⟩
theorem infoT : (Tryz.prog.info? 35).map (fun i => (i.zero, i.size, i.bytes)) = some (some (.agg #[.int .i64 0, .int .i64 0]), 2, 16) := by kernel_rfl

/-! The first. -/
def FirstIs (l : List Pr) (w : World) (e : Ending) (w' : World) : Prop := (∃ q, w' = w.drewN q) ∧ ((l = [] ∧ e = .returned (.int .i64 (-1))) ∨ ∃ k : Nat, k < l.length ∧ e = .returned (.int .i64 k) ∧ Best l (l.getD k p0))
def Seeking (l : List Pr) (i : Nat) (k : Int) : Prop := (i = 0 ∧ k = -1) ∨ ∃ j : Nat, k = j ∧ j < i ∧ ∀ x, x < i → le (l.getD j p0) (l.getD x p0)
theorem seek_new {l : List Pr} {i j : Nat} (h : ∀ x, x < i → le (l.getD j p0) (l.getD x p0)) (hl : le (l.getD i p0) (l.getD j p0)) : Seeking l (i + 1) (i : Int) := .inr ⟨i, rfl, by omega, fun x hx => by
  by_cases e : x = i
  · subst e; exact le_refl _
  · exact le_trans _ _ _ hl (h x (by omega))⟩
theorem seek_old {l : List Pr} {i j : Nat} (hj : j < i) (h : ∀ x, x < i → le (l.getD j p0) (l.getD x p0)) (hl : le (l.getD j p0) (l.getD i p0)) : Seeking l (i + 1) (j : Int) := .inr ⟨j, rfl, by omega, fun x hx => by
  by_cases e : x = i
  · subst e; exact hl
  · exact h x (by omega)⟩
theorem seek_end {l : List Pr} {j : Nat} (hj : j < l.length) (h : ∀ x, x < l.length → le (l.getD j p0) (l.getD x p0)) : Best l (l.getD j p0) := by
  refine ⟨?_, fun y hy => ?_⟩
  · rw [List.getD, List.getElem?_eq_getElem hj]; exact List.getElem_mem hj
  · obtain ⟨x, hx, rfl⟩ := List.getElem_of_mem hy
    have := h x hx
    have e : l.getD x p0 = l[x] := by simp [List.getD, hx]
    rwa [e] at this

set_option maxHeartbeats 4000000 in
theorem first_walk (A : Option Addr) (n c : Nat) (l : List Pr) (w : World) (h : Its w A n c l) (hn : n ≤ 1000000) :
    Calls Tryz.prog 5 #[.slice A n c] w fun e w' => FirstIs l w e w' := by
  have H := Lib.hid h
  have HL : Hid (n = l.length) := h.1
  have hN : (n : Int) ≤ 1000000 := by omega
  clear h
  go_enter Tryz.func5, Tryz.ntmps5
  go_wp2_with fail
  go_loopw [3, 4] (fun k x wr => ∃ (i : Nat) (z : Int), i ≤ n ∧ x = .int .i64 i ∧ k = .int .i64 z ∧ Hid (Seeking l i z ∧ ∃ q, wr = w.drewN q)) (fun _ x _ => n - (intOf x).toNat)
  case atStart => exact ⟨0, -1, Nat.zero_le _, rfl, rfl, .inl ⟨rfl, rfl⟩, 0, rfl⟩
  case round =>
    obtain ⟨i, z, hi, rfl, rfl, hq⟩ := hrel
    obtain ⟨hs, q, rfl⟩ := hq.out
    clear hq
    have b0 : (0 : Int) ≤ (i : Int) := by omega
    by_cases hlt : i < n
    · have b1 : (i : Int) < (n : Int) := by omega
      rcases hs with ⟨rfl, rfl⟩ | ⟨j, rfl, hj, hb⟩
      · go_wp2_with fail
        go_quiet (fail)
        go_wp2_with fail
        go_roundw
        case rel => exact ⟨1, 0, by omega, rfl, rfl, .inr ⟨0, rfl, by omega, fun x hx => by
          have e : x = 0 := by omega
          subst e
          exact le_refl _⟩, _, rfl⟩
        case measure => simp [intOf]; omega
      · have HB := Lib.hid hb
        have b2 : (0 : Int) ≤ (j : Int) := by omega
        have b3 : (j : Int) < (n : Int) := by omega
        have b4 : ¬ ((j : Int) < 0) := by omega
        have b5 : decide ((j : Int) < 0) = false := by simp
        obtain ⟨g, rfl, c0, c1⟩ := H.out.at hlt
        obtain ⟨g', eg, c2, c3⟩ := H.out.at (i := j) (by omega)
        simp only [Option.some.injEq, Addr.mk.injEq, and_true] at eg
        subst eg
        have HNEW := Lib.hid (fun hl => seek_new HB.out hl)
        have HOLD := Lib.hid (fun hl => seek_old hj HB.out hl)
        have HLE1 : Hid (le (l.getD i p0) (l.getD j p0) ↔ ((l.getD j p0).1 < (l.getD i p0).1 ∨ ((l.getD i p0).1 = (l.getD j p0).1 ∧ (l.getD i p0).2 ≤ (l.getD j p0).2))) := Iff.rfl
        have HLE2 : Hid (le (l.getD j p0) (l.getD i p0) ↔ ((l.getD i p0).1 < (l.getD j p0).1 ∨ ((l.getD j p0).1 = (l.getD i p0).1 ∧ (l.getD j p0).2 ≤ (l.getD i p0).2))) := Iff.rfl
        clear hb
        generalize l.getD i p0 = x at *
        generalize l.getD j p0 = y at *
        obtain ⟨a, b⟩ := x
        obtain ⟨c', d⟩ := y
        simp only at c0 c1 c2 c3 HLE1 HLE2
        by_cases t1 : c' < a
        · have T1 := Lib.hid t1
          go_wp2_with fail
          go_quiet (fail)
          go_wp2_with fail
          go_roundw
          case rel => exact ⟨i + 1, i, by omega, by go_num, rfl, HNEW.out (HLE1.out.2 (.inl T1.out)), _, rfl⟩
          case measure => simp [intOf]; omega
        · have d1 : decide (c' < a) = false := by simpa using t1
          by_cases t2 : a = c'
          · subst t2
            by_cases t3 : b < d
            · have T3 := Lib.hid t3
              go_wp2_with fail
              go_quiet (fail)
              go_wp2_with fail
              go_roundw
              case rel => exact ⟨i + 1, i, by omega, by go_num, rfl, HNEW.out (HLE1.out.2 (.inr ⟨by trivial, by have := T3.out; omega⟩)), _, rfl⟩
              case measure => simp [intOf]; omega
            · have T3 := Lib.hid t3
              have d3 : decide (b < d) = false := by simpa using t3
              go_wp2_with fail
              go_quiet (fail)
              go_wp2_with fail
              go_roundw
              case rel => exact ⟨i + 1, j, by omega, by go_num, rfl, HOLD.out (HLE2.out.2 (.inr ⟨by trivial, by have := T3.out; omega⟩)), _, rfl⟩
              case measure => simp [intOf]; omega
          · have T1 := Lib.hid t1
            have T2 := Lib.hid t2
            have d2 : ((a : Int) == c') = false := by simpa using t2
            clear t2
            go_wp2_with fail
            go_quiet (fail)
            go_wp2_with fail
            go_roundw
            case rel => exact ⟨i + 1, j, by omega, by go_num, rfl, HOLD.out (HLE2.out.2 (.inl (by have := T1.out; have := T2.out; omega))), _, rfl⟩
            case measure => simp [intOf]; omega
    · obtain rfl : i = n := by omega
      go_wp2_with fail
      go_ret
      refine ⟨⟨q, rfl⟩, ?_⟩
      rcases hs with ⟨h0, hz⟩ | ⟨j, hz, hj, hb⟩
      · exact .inl ⟨List.eq_nil_of_length_eq_zero (by rw [← HL.out]; exact h0), by rw [hz]; rfl⟩
      · exact .inr ⟨j, by rw [← HL.out]; exact hj, by rw [hz]; rfl, seek_end (by rw [← HL.out]; exact hj) (by rw [← HL.out]; exact hb)⟩
end Go.Proofs.YtfelhepdcnckhaaGreat
