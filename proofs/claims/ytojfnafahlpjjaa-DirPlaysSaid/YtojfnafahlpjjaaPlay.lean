/- All that DirPlays rests on: its state. -/
import Derived.Test.YtojfnafahlpjjaaBook6
import Derived.Test.YtojfnafahlpjjaaRef
import Derived.Test.YtojfnafahlpjjaaAsk
namespace Go.Proofs.Ytojfnafahlpjjaa
open Go.ChangeShapes Go.WideShapes Go.ChangeAt Go.RowKit
set_option linter.unusedVariables false
set_option linter.unusedSimpArgs false
theorem Book.kept {C : Nat} {w w' : World} {b : Nat} {es fs : List E} {ls ms : List (List Int)} (h : Book C w b es fs ls ms) (hb : Below w.heap.size w w') : Book C w' b es fs ls ms := h.below hb
theorem Row.kept {w w' : World} {A : Option Addr} {n c : Nat} {l : List Int} (h : Row w A n c l) (hb : Below w.heap.size w w') : Row w' A n c l := h.below hb
theorem Book.block {C b : Nat} {w : World} {es fs : List E} {ls ms : List (List Int)} (h : Book C w b es fs ls ms) : ∃ cs, w.heap[b]? = some (.cells cs 41 (0, 0)) := by
  obtain ⟨⟨_, v, u, _, _, h1, _⟩, _⟩ := h
  exact ⟨_, h1⟩
/-- A page's box is written: the book stands. -/
theorem Book.other {C : Nat} {w w' : World} {b : Nat} {es fs : List E} {ls ms : List (List Int)} (h : Book C w b es fs ls ms) {B : Nat} {cs : Array Value} (hB : w.heap[B]? = some (.cells cs 23 (0, 0))) (hk : ∀ k, k ≠ B → w'.heap[k]? = w.heap[k]?) : Book C w' b es fs ls ms := by
  have row : ∀ {A : Option Addr} {n c : Nat} {l : List Int}, Row w A n c l → Row w' A n c l := fun hr => hr.keep fun g hg => hk g (by
    rintro rfl
    obtain ⟨cur, hc⟩ := row_block hr hg
    rw [hB] at hc
    simp at hc)
  have own : ∀ {n : Nat} {v : Value} {xs : List Value}, w.ownsRow 0 29 1 v n xs → w'.ownsRow 0 29 1 v n xs := fun hr => owns_kept hr fun g hg => hk g (by
    rintro rfl
    obtain ⟨cur, hc⟩ := owns_block hr hg
    rw [hB] at hc
    simp at hc)
  obtain ⟨⟨hC, v, u, k1, k2, h1, h2, h3, h4⟩, h5, h6, h7⟩ := h
  refine ⟨⟨hC, v, u, k1, k2, (hk b ?_).trans h1, own h2, own h3, h4⟩, ⟨h5.1, fun i hi => row (h5.2 i hi)⟩, ⟨h6.1, fun i hi => row (h6.2 i hi)⟩, h7⟩
  rintro rfl
  rw [hB] at h1
  simp at h1
theorem PBox.keptB {C b : Nat} {w w' : World} {B : Nat} {k d x : Int} {s : ByteArray} (h : PBox w B k d x s) (hk : KeptB C b w w') {cs : Array Value} (hb : w.heap[b]? = some (.cells cs 41 (0, 0))) : PBox w' B k d x s := by
  unfold PBox at h ⊢
  exact hk.2 B _ h (fun e => by rw [e, hb] at h; simp at h) (by intro cs; simp)
theorem OBox.keptB {C b : Nat} {w w' : World} {B : Nat} {k d x n : Int} (h : OBox w B k d x n) (hk : KeptB C b w w') {cs : Array Value} (hb : w.heap[b]? = some (.cells cs 41 (0, 0))) : OBox w' B k d x n := by
  unfold OBox at h ⊢
  exact hk.2 B _ h (fun e => by rw [e, hb] at h; simp at h) (by intro cs; simp)
theorem Tbl.keptB {C b : Nat} {w w' : World} {g : Nat} {l : List Int} (h : Tbl w g l) (hk : KeptB C b w w') {cs : Array Value} (hb : w.heap[b]? = some (.cells cs 41 (0, 0))) : Tbl w' g l := by
  unfold Tbl at h ⊢
  exact hk.2 g _ h (fun e => by rw [e, hb] at h; simp at h) (by intro cs; simp)
theorem OBox.heap {w w' : World} {B : Nat} {k b d n : Int} (h : OBox w B k b d n) (hh : w'.heap[B]? = w.heap[B]?) : OBox w' B k b d n := hh.trans h
/-- What is known of the book's lists. -/
def Bk (C j : Nat) (es : List E) : Prop := es.length = j ∧ (∀ e ∈ es, ∀ g, e.own = some g → C ≤ g) ∧ ∀ i, i < es.length → (es.getD i e0).n ≤ 90000
theorem Bk.add {C j : Nat} {es : List E} (h : Bk C j es) {e : E} (he : ∀ g, e.own = some g → C ≤ g) (hn : e.n ≤ 90000) : Bk C (j + 1) (es ++ [e]) := by
  obtain ⟨h1, h2, h3⟩ := h
  refine ⟨by simp [h1], fun x hx g hg => ?_, fun i hi => ?_⟩
  · rcases List.mem_append.1 hx with hx | hx
    · exact h2 x hx g hg
    · rw [List.mem_singleton] at hx; subst hx; exact he g hg
  · by_cases hlt : i < es.length
    · rw [getD_lt _ _ _ _ hlt]; exact h3 i hlt
    · have hii : i = es.length := by simp at hi; omega
      subst hii
      rw [getD_last]; exact hn
theorem book_len {C b : Nat} {w : World} {es fs : List E} {ls : List (List Int)} (h : Book C w b es fs ls ls) : es.length = ls.length ∧ fs.length = ls.length := ⟨h.2.1.1, h.2.2.1.1⟩
theorem book_far {C b n c B : Nat} {w w' : World} {es fs : List E} {ls : List (List Int)} {A : Option Addr} {l : List Int} (h : Book C w b es fs ls ls) (hown : w'.ownsRow B 3 1 (.slice A n c) n (l.map (Value.int .i64))) (hB : w.heap.size ≤ B) : ∀ x ∈ es ++ fs, FarR x ⟨A, n, c⟩ := fun x hx g h1 h2 => by
  have h3 : g < w.heap.size := by
    rcases List.mem_append.1 hx with hx | hx
    · obtain ⟨l', hr⟩ := lists_mem h.2.1 hx
      exact row_own_lt hr h1
    · obtain ⟨l', hr⟩ := lists_mem h.2.2.1 hx
      exact row_own_lt hr h1
  have h4 := (hown.lt g h2).1
  omega
/-- One list more, in the law's state. -/
theorem add_st {C b j : Nat} {w : World} {es fs : List E} {ls : List (List Int)} (h : Book C w b es fs ls ls) (hbk : Bk C j es) (hC : C ≤ w.heap.size) (hj : j ≤ 100) {A : Option Addr} {n c : Nat} {l : List Int} (hr : Row w A n c l) (hn : n ≤ 1000) (hA : ∀ g, (⟨A, n, c⟩ : E).own = some g → C ≤ g) (hfar : ∀ x ∈ es ++ fs, FarR x ⟨A, n, c⟩) :
    Calls Try.prog 17 #[ptr b, .slice A n c] w fun q w' => q = .returned (.tuple #[]) ∧ KeptB C b w w' ∧ ∃ es' fs' ls', Book C w' b es' fs' ls' ls' ∧ Bk C (j + 1) es' := by
  have hl := book_len h
  refine (add_walk C b es fs ls ls A n c l w h hC hr (by omega) (by rw [hbk.1]; omega) (by rw [hl.2, ← hl.1, hbk.1]; omega) hfar).mono ?_
  rintro q w' ⟨rfl, f, h1, h2, h3⟩
  exact ⟨rfl, h2, _, _, _, h1, hbk.add hA (by show n ≤ 90000; omega)⟩
/-- The state ahead of a round; behind the switch; behind the store. -/
def ST (w0 : World) (bP bB j : Nat) (w : World) : Prop := ∃ (k d x : Int) (b : BA) (es fs : List E) (ls : List (List Int)), PBox w bP k d x (str b) ∧ Book w0.heap.size w bB es fs ls ls ∧ Bk w0.heap.size j es ∧ Below w0.heap.size w0 w
def ST2 (w0 : World) (bP bB bO j : Nat) (ok ob od on : Int) (w : World) : Prop := ∃ (k d x : Int) (b : BA) (es fs : List E) (ls : List (List Int)), PBox w bP k d x (str b) ∧ OBox w bO ok ob od on ∧ Book w0.heap.size w bB es fs ls ls ∧ Bk w0.heap.size j es ∧ Below w0.heap.size w0 w
def ST3 (w0 : World) (bP bB bO bQ bW j : Nat) (ok ob od on er : Int) (w : World) : Prop := ∃ (kq dq xq : Int) (sq : ByteArray), PBox w bQ kq dq xq sq ∧ PBox w bW kq dq xq sq ∧ ST2 w0 bP bB bO j ok ob od on w
theorem ent_none (k d x : Int) (b : BA) (h0 : dirS k d b = []) (w : World) : Calls Try.prog 11 #[pv k d x b] w fun q w' => ∃ A n c, q = .returned (.tuple #[.slice A n c, .bool false]) ∧ Below w.heap.size w w' := by
  refine (entries_any2 k d x b w).mono ?_
  rintro q w' ⟨hb, ⟨_, A, n, c, h⟩ | ⟨h, _⟩⟩
  · exact ⟨A, n, c, h, hb⟩
  · exact absurd h0 h
theorem ent_some (x : Int) (l : List Int) (e : Nat) (hg : GoodD l e) (w : World) : Calls Try.prog 11 #[pv 1 e x (mkD l)] w fun q w' => ∃ A c, q = .returned (.tuple #[.slice A l.length c, .bool true]) ∧ Row w' A l.length c l ∧ Below w.heap.size w w' := by
  refine (entries_any2 1 e x (mkD l) w).mono ?_
  rw [dirS_mkD hg]
  rintro q w' ⟨hb, ⟨h, _⟩ | ⟨_, A, c, h, ho⟩⟩
  · exact absurd h hg.ne
  · exact ⟨A, c, h, ⟨rfl, own_base ho⟩, hb⟩
/-- A page that is a directory, or is none. -/
theorem dir_or (k d x : Int) (b : BA) : dirS k d b = [] ∨ ∃ (e : Nat) (L : List Int), k = 1 ∧ d = (e : Int) ∧ GoodD L e ∧ b = mkD L := by
  rcases dirS_cases k d b with h | ⟨h1, e, h2, h3, h4⟩
  · exact .inl h
  · exact .inr ⟨e, _, h1, h2, h3, h4⟩
theorem halve_let (x : Int) (l : List Int) (e : Nat) (hg : GoodD l e) :
    ((e = 0 ∨ ∃ f, e = f + 1 ∧ l.take (2 ^ f) ≠ l.drop (2 ^ f)) ∧ ∀ w, Calls Try.prog 13 #[.agg #[.int .i64 1, .int .i64 e, .int .i64 x, .string (str (mkD l))]] w fun q w' => q = .returned (.tuple #[.agg #[.int .i64 0, .int .i64 0, .int .i64 0, .string ⟨#[]⟩], .int .i64 11]) ∧ Below w.heap.size w w') ∨
    ∃ f, e = f + 1 ∧ l.take (2 ^ f) = l.drop (2 ^ f) ∧ ∀ w, Calls Try.prog 13 #[.agg #[.int .i64 1, .int .i64 e, .int .i64 x, .string (str (mkD l))]] w fun q w' => q = .returned (.tuple #[.agg #[.int .i64 1, .int .i64 f, .int .i64 x, .string (str (mkD (l.take (2 ^ f))))], .int .i64 0]) ∧ Below w.heap.size w w' := by
  cases e with
  | zero => exact .inl ⟨.inl rfl, fun w => halve_zero x l 0 hg rfl w⟩
  | succ f =>
    by_cases h : l.take (2 ^ f) = l.drop (2 ^ f)
    · exact .inr ⟨f, rfl, h, fun w => halve_ok x l f hg h w⟩
    · exact .inl ⟨.inr ⟨f, rfl, h⟩, fun w => halve_err x l f hg h w⟩
end Go.Proofs.Ytojfnafahlpjjaa
