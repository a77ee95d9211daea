/- All that BlobTells rests on. -/
import Derived.Test.YtoladghpoddlgaaBook6
import Derived.Test.YtoladghpoddlgaaRput
import Derived.Test.YtoladghpoddlgaaRget
import Derived.Test.YtoladghpoddlgaaLentI
import Derived.Test.YtoladghpoddlgaaOwnI
namespace Go.Proofs.Ytoladghpoddlgaa
open Go.ChangeShapes Go.WideShapes Go.ChangeAt Go.RowKit
set_option linter.unusedVariables false
set_option linter.unusedSimpArgs false
set_option maxRecDepth 100000
theorem own_lists {B : Nat} {w : World} {A : Option Addr} {n c : Nat} {l : List Pg} (h : w.ownsRow B 26 4 (.slice A n c) n (pcs l)) (hn : l.length = n) : Row w A n c l := ⟨hn.symm, own_base h (Nat.zero_le _)⟩
theorem Lent.keptB {C b : Nat} {w w' : World} {g n c : Nat} {l : List Pg} (h : Lent w g n c l) (hk : KeptB C b w w') {cs : Array Value} (hb : w.heap[b]? = some (.cells cs 46 (0, 0))) : Lent w' g n c l := ⟨h.1, owns_kept2 h.2 fun q hq => by
  obtain ⟨cur, hc⟩ := owns_block h.2 hq
  rw [hc]
  exact hk.2 q _ hc (fun e => by rw [e, hb] at hc; simp at hc) (by intro cs; simp)⟩
theorem ILent.keptB {C b : Nat} {w w' : World} {g n c : Nat} {l : List Int} (h : I.Lent w g n c l) (hk : KeptB C b w w') {cs : Array Value} (hb : w.heap[b]? = some (.cells cs 46 (0, 0))) : I.Lent w' g n c l := h.keep (by
  obtain ⟨cur, hc⟩ := h.block
  rw [hc]
  exact hk.2 g _ hc (fun e => by rw [e, hb] at hc; simp at hc) (by intro cs; simp))
theorem ILent.kept {w w' : World} {g n c : Nat} {l : List Int} (h : I.Lent w g n c l) (hb : Below w.heap.size w w') : I.Lent w' g n c l := h.keep (hb.block g h.lt)
theorem ILent.nums {w : World} {g n c : Nat} {l : List Int} (h : I.Lent w g n c l) : I.Nums w.heap.size w (.slice (some ⟨g, 0, none⟩) n c) l := h.row.nums
theorem Book.block {C b : Nat} {w : World} {es fs : List E} {ls ms : List (List Pg)} (h : Book C w b es fs ls ms) : ∃ cs, w.heap[b]? = some (.cells cs 46 (0, 0)) := by
  obtain ⟨⟨_, v, u, _, _, h1, _⟩, _⟩ := h
  exact ⟨_, h1⟩
theorem Ints.nums {w : World} {A : Option Addr} {n : Nat} {l : List Int} (h : Ints w A n l) (c : Nat) : I.Nums w.heap.size w (.slice A n c) l := by
  obtain ⟨hl, h⟩ := h
  by_cases h0 : n = 0
  · subst h0
    exact .inl ⟨A, c, rfl, List.eq_nil_of_length_eq_zero hl⟩
  · obtain ⟨b, off, rfl, hb, _⟩ := h 0 (by omega)
    refine .inr ⟨b, off, c, by rw [hl], hb, fun j hj => ?_⟩
    obtain ⟨b', off', e, _, hc, _⟩ := h j (by omega)
    simp only [Option.some.injEq, Addr.mk.injEq, and_true] at e
    obtain ⟨rfl, rfl⟩ := e
    rw [hc]
    simp [List.getD]
theorem INums.more {n m : Nat} {w : World} {A : Option Addr} {k c : Nat} {l : List Int} (h : I.Nums n w (.slice A k c) l) (hm : n ≤ m) : I.Nums m w (.slice A k c) l := by
  rcases h with h | ⟨b, off, cap, h1, h2, h3⟩
  · exact .inl h
  · exact .inr ⟨b, off, cap, h1, by omega, h3⟩
theorem putS_sz (v : BA) (l : List Int) : Sz (putS v l) := by
  intro p hp
  unfold putS at hp
  split at hp
  · exact max_small (pagesL_sizes p hp)
  · simp at hp
theorem putS_sizes (v : BA) (l : List Int) : ∀ p ∈ putS v l, p.b.size ≤ 1000000 := by
  intro p hp
  unfold putS at hp
  split at hp
  · exact pagesL_sizes p hp
  · simp at hp
theorem putS_len (v : BA) (l : List Int) : (putS v l).length ≤ 2 := by
  cases h : putOk v l with
  | false => rw [putS_no h]; simp
  | true =>
    rw [putS_yes h, pagesL_length]
    rcases putOk_len h with ⟨h, _⟩ | ⟨h, _⟩ <;> omega
end Go.Proofs.Ytoladghpoddlgaa
