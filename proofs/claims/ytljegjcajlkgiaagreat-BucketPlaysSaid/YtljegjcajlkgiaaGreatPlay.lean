/- All that BucketPlays rests on: its state. -/
import Derived.Test.YtljegjcajlkgiaaGreatBook6
import Derived.Test.YtljegjcajlkgiaaGreatWith
import Derived.Test.YtljegjcajlkgiaaGreatOps
namespace Go.Proofs.YtljegjcajlkgiaaGreat
open Go.ChangeShapes Go.WideShapes Go.ChangeAt Go.RowKit
set_option linter.unusedVariables false
theorem own_row {B : Nat} {w : World} {A : Option Addr} {n c : Nat} {l : List Ce} (h : w.ownsRow B 42 4 (.slice A n c) n (ccs l)) (hn : l.length = n) : Row w A n c l := ⟨hn.symm, own_base h (Nat.zero_le _)⟩
theorem Row.kept {w w' : World} {A : Option Addr} {n c : Nat} {l : List Ce} (h : Row w A n c l) (hb : Below w.heap.size w w') : Row w' A n c l := h.below hb
theorem Book.kept {C : Nat} {w w' : World} {b : Nat} {es fs : List E} {ls ms : List (List Ce)} (h : Book C w b es fs ls ms) (hb : Below w.heap.size w w') : Book C w' b es fs ls ms := h.below hb
theorem Book.block {C b : Nat} {w : World} {es fs : List E} {ls ms : List (List Ce)} (h : Book C w b es fs ls ms) : ∃ cs, w.heap[b]? = some (.cells cs 40 (0, 0)) := by
  obtain ⟨⟨_, v, u, _, _, h1, _⟩, _⟩ := h
  exact ⟨_, h1⟩
theorem PBox.keptB {C b : Nat} {w w' : World} {B : Nat} {k d x : Int} {s : ByteArray} (h : PBox w B k d x s) (hk : KeptB C b w w') {cs : Array Value} (hb : w.heap[b]? = some (.cells cs 40 (0, 0))) : PBox w' B k d x s := by
  unfold PBox at h ⊢
  exact hk.2 B _ h (fun e => by rw [e, hb] at h; simp at h) (by intro cs; simp)
/-- What is known of the book's lists. -/
def Bk (C j : Nat) (es : List E) (ls : List (List Ce)) : Prop := es.length = j ∧ (∀ e ∈ es, ∀ g, e.own = some g → C ≤ g) ∧ (∀ i, i < es.length → (es.getD i e0).n ≤ 90000) ∧ ∀ i, i < es.length → Sz (ls.getD i [])
theorem Bk.add {C j : Nat} {es : List E} {ls : List (List Ce)} (h : Bk C j es ls) (hl : es.length = ls.length) {e : E} {l : List Ce} (he : ∀ g, e.own = some g → C ≤ g) (hn : e.n ≤ 90000) (hs : Sz l) : Bk C (j + 1) (es ++ [e]) (ls ++ [l]) := by
  obtain ⟨h1, h2, h3, h4⟩ := h
  refine ⟨by simp [h1], fun x hx g hg => ?_, fun i hi => ?_, fun i hi => ?_⟩
  · rcases List.mem_append.1 hx with hx | hx
    · exact h2 x hx g hg
    · rw [List.mem_singleton] at hx; subst hx; exact he g hg
  · by_cases hlt : i < es.length
    · rw [getD_lt _ _ _ _ hlt]; exact h3 i hlt
    · have hii : i = es.length := by simp at hi; omega
      subst hii
      rw [getD_last]; exact hn
  · by_cases hlt : i < es.length
    · rw [getD_lt _ _ _ _ (by omega)]; exact h4 i hlt
    · have hii : i = ls.length := by simp at hi; omega
      subst hii
      have e1 := getD_ge ls [l] [] 0
      rw [Nat.add_zero] at e1
      rw [e1]; exact hs
/-- The state ahead of a round. -/
def ST (w0 : World) (bP bB : Nat) (k d x : Int) (g : Bool) (j : Nat) (A : Option Addr) (m c : Nat) (w : World) : Prop := ∃ b es fs ls, b.length ≤ 300 ∧ goodP k b = g ∧ (cellsP k b).length = m ∧ PBox w bP k d x (str b) ∧ Row w A m c (cellsP k b) ∧ Book w0.heap.size w bB es fs ls ls ∧ Bk w0.heap.size j es ls ∧ Below w0.heap.size w0 w
theorem put_sz {l : List Ce} (h : putOk l = true) : Sz l := put_sizes h
theorem book_len {C b : Nat} {w : World} {es fs : List E} {ls : List (List Ce)} (h : Book C w b es fs ls ls) : es.length = ls.length ∧ fs.length = ls.length := ⟨h.2.1.1, h.2.2.1.1⟩
theorem book_far {C b n c B : Nat} {w w' : World} {es fs : List E} {ls : List (List Ce)} {A : Option Addr} {l : List Ce} (h : Book C w b es fs ls ls) (hown : w'.ownsRow B 42 4 (.slice A n c) n (ccs l)) (hB : w.heap.size ≤ B) : ∀ x ∈ es ++ fs, FarR x ⟨A, n, c⟩ := fun x hx g h1 h2 => by
  have h3 : g < w.heap.size := by
    rcases List.mem_append.1 hx with hx | hx
    · obtain ⟨l', hr⟩ := lists_mem h.2.1 hx
      exact row_own_lt hr h1
    · obtain ⟨l', hr⟩ := lists_mem h.2.2.1 hx
      exact row_own_lt hr h1
  have h4 := (hown.lt g h2).1
  omega
end Go.Proofs.YtljegjcajlkgiaaGreat
