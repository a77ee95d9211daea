/- The book: what it holds; one list more; are they as they were. -/
import Derived.Test.YtoladghpoddlgaaBook
import Derived.Test.YtoladghpoddlgaaBase
import Derived.Deep.QuietTactic
import Derived.BigQuiet
import Derived.RegionTactic
import Derived.Lib.Builder
import Derived.Lib.SliceRun
namespace Go.Proofs.Ytoladghpoddlgaa
open Go.ChangeShapes Go.WideShapes Go.ChangeAt Go.RowKit
set_option linter.unusedVariables false
set_option maxRecDepth 100000

structure E where
  A : Option Addr
  n : Nat
  c : Nat
def E.val (e : E) : Value := .slice e.A e.n e.c
def e0 : E := ⟨none, 0, 0⟩
def E.own (e : E) : Option Nat := e.val.ownBlock
/-- Each of es holds what stands at its place in ls. -/
def Lists (w : World) (es : List E) (ls : List (List Pg)) : Prop := es.length = ls.length ∧ ∀ i, i < es.length → Row w (es.getD i e0).A (es.getD i e0).n (es.getD i e0).c (ls.getD i [])
/-- No two share a block. -/
def FarR (a b : E) : Prop := ∀ g, a.own = some g → b.own ≠ some g
def Far (es : List E) : Prop := es.Pairwise FarR
theorem FarR.symm {a b : E} (h : FarR a b) : FarR b a := fun g hb ha => h g ha hb
theorem Far.perm {es fs : List E} (h : Far es) (p : es.Perm fs) : Far fs := (List.Perm.pairwise_iff (fun h => FarR.symm h) p).1 h
theorem Far.at {es : List E} (h : Far es) {i j : Nat} (hi : i < es.length) (hj : j < es.length) (hij : i ≠ j) : FarR (es.getD i e0) (es.getD j e0) := by
  have h1 := List.pairwise_iff_getElem.1 h
  have e1 : es.getD i e0 = es[i] := by simp [List.getD, hi]
  have e2 : es.getD j e0 = es[j] := by simp [List.getD, hj]
  rw [e1, e2]
  by_cases hlt : i < j
  · exact h1 i j hi hj hlt
  · exact (h1 j i hj hi (by omega)).symm
theorem far_snoc {es : List E} {e : E} (h : Far es) (he : ∀ x ∈ es, FarR x e) : Far (es ++ [e]) :=
  List.pairwise_append.2 ⟨h, List.pairwise_singleton _ _, fun x hx y hy => by simp at hy; subst hy; exact he x hx⟩
theorem far_two {es fs : List E} {e f : E} (h : Far (es ++ fs)) (he : ∀ x ∈ es ++ fs, FarR x e) (hf : ∀ x ∈ es ++ fs ++ [e], FarR x f) : Far ((es ++ [e]) ++ (fs ++ [f])) := by
  refine (far_snoc (far_snoc h he) hf).perm ?_
  rw [List.append_assoc es fs, List.append_assoc es, List.append_assoc fs, List.append_assoc es [e]]
  refine List.Perm.append_left es ?_
  exact List.perm_append_comm_assoc _ _ _
def nil_ : Value := .slice none 0 0
def bookCells (v u : Value) : Array Value := #[nil_, nil_, nil_, nil_, nil_, nil_, v, u, nil_, nil_, nil_, nil_, nil_, nil_, nil_, nil_, nil_, nil_]
/-- The book at b: its lists es, their copies fs. -/
def BookAt (C : Nat) (w : World) (b : Nat) (es fs : List E) : Prop :=
  C ≤ b ∧ ∃ v u, (∀ g, v.ownBlock = some g → C ≤ g) ∧ (∀ g, u.ownBlock = some g → C ≤ g) ∧ w.heap[b]? = some (.cells (bookCells v u) 46 (0, 0)) ∧ w.ownsRow 0 23 1 v es.length (es.map E.val) ∧ w.ownsRow 0 23 1 u fs.length (fs.map E.val) ∧ ∀ g, v.ownBlock = some g → u.ownBlock ≠ some g
def Book (C : Nat) (w : World) (b : Nat) (es fs : List E) (ls ms : List (List Pg)) : Prop := BookAt C w b es fs ∧ Lists w es ls ∧ Lists w fs ms ∧ Far (es ++ fs)

theorem row_block {w : World} {A : Option Addr} {n c : Nat} {l : List Pg} (h : Row w A n c l) {g : Nat} (hg : (Value.slice A n c).ownBlock = some g) : ∃ cur, w.heap[g]? = some (.cells cur 26 (0, 0)) := by
  rcases h.2.2 with ⟨h1, _⟩ | ⟨g', cap, cur, h1, _, h2, _⟩
  · rw [h1] at hg; simp [Value.ownBlock] at hg
  · rw [h1] at hg
    simp only [Value.ownBlock, Option.some.injEq] at hg
    subst hg
    exact ⟨cur, h2⟩
theorem owns_block {w : World} {B e s n : Nat} {v : Value} {xs : List Value} (h : w.ownsRow B e s v n xs) {g : Nat} (hg : v.ownBlock = some g) : ∃ cur, w.heap[g]? = some (.cells cur e (0, 0)) := by
  rcases h.2 with ⟨rfl, _⟩ | ⟨g', cap, cur, rfl, _, h2, _⟩
  · simp [Value.ownBlock] at hg
  · simp only [Value.ownBlock, Option.some.injEq] at hg
    subst hg
    exact ⟨cur, h2⟩
theorem owns_kept {w w' : World} {B e s n : Nat} {v : Value} {xs : List Value} (h : w.ownsRow B e s v n xs) (hk : ∀ g, v.ownBlock = some g → w'.heap[g]? = w.heap[g]?) : w'.ownsRow B e s v n xs := by
  refine ⟨h.1, ?_⟩
  rcases h.2 with h1 | ⟨g', cap, cur, rfl, h1, h2, h3⟩
  · exact .inl h1
  · exact .inr ⟨g', cap, cur, rfl, h1, (hk g' rfl).trans h2, h3⟩
theorem Row.keep {w w' : World} {A : Option Addr} {n c : Nat} {l : List Pg} (h : Row w A n c l) (hk : ∀ g, (Value.slice A n c).ownBlock = some g → w'.heap[g]? = w.heap[g]?) : Row w' A n c l := ⟨h.1, owns_kept h.2 hk⟩
theorem Lists.below {w w' : World} {es : List E} {ls : List (List Pg)} (h : Lists w es ls) (hb : Below w.heap.size w w') : Lists w' es ls := ⟨h.1, fun i hi => (h.2 i hi).below hb⟩
theorem BookAt.below {C : Nat} {w w' : World} {b : Nat} {es fs : List E} (h : BookAt C w b es fs) (hb : Below w.heap.size w w') : BookAt C w' b es fs := by
  obtain ⟨hC, v, u, k1, k2, h1, h2, h3, h4⟩ := h
  exact ⟨hC, v, u, k1, k2, (hb.block b (Array.getElem?_eq_some_iff.1 h1).1).trans h1, owns_kept h2 fun g hg => hb.block g (h2.lt g hg).2, owns_kept h3 fun g hg => hb.block g (h3.lt g hg).2, h4⟩
theorem Book.below {C : Nat} {w w' : World} {b : Nat} {es fs : List E} {ls ms : List (List Pg)} (h : Book C w b es fs ls ms) (hb : Below w.heap.size w w') : Book C w' b es fs ls ms := ⟨h.1.below hb, h.2.1.below hb, h.2.2.1.below hb, h.2.2.2⟩
theorem Book.new {C : Nat} {w : World} {b : Nat} (hC : C ≤ b) (h : w.heap[b]? = some (.cells (bookCells nil_ nil_) 46 (0, 0))) : Book C w b [] [] [] [] :=
  ⟨⟨hC, _, _, fun g hg => by simp [nil_, Value.ownBlock] at hg, fun g hg => by simp [nil_, Value.ownBlock] at hg, h, World.ownsRow_nil _ _ _ _, World.ownsRow_nil _ _ _ _, fun g hg => by simp [nil_, Value.ownBlock] at hg⟩, ⟨rfl, fun i hi => by simp at hi⟩, ⟨rfl, fun i hi => by simp at hi⟩, List.Pairwise.nil⟩
theorem getD_last (es : List E) (e : E) : (es ++ [e]).getD es.length e0 = e := by simp [List.getD]
theorem getD_lt {α : Type} (es fs : List α) (d : α) (i : Nat) (h : i < es.length) : (es ++ fs).getD i d = es.getD i d := by simp [List.getD, List.getElem?_append_left h]
theorem getD_ge {α : Type} (es fs : List α) (d : α) (i : Nat) : (es ++ fs).getD (es.length + i) d = fs.getD i d := by simp [List.getD, List.getElem?_append_right (Nat.le_add_right _ _)]
/-- One more. -/
theorem Lists.snoc {w : World} {es : List E} {ls : List (List Pg)} {e : E} {l : List Pg} (h : Lists w es ls) (hr : Row w e.A e.n e.c l) : Lists w (es ++ [e]) (ls ++ [l]) := by
  refine ⟨by simp [h.1], fun i hi => ?_⟩
  by_cases hlt : i < es.length
  · rw [getD_lt _ _ _ _ hlt, getD_lt _ _ _ _ (by rw [← h.1]; exact hlt)]
    exact h.2 i hlt
  · have hii : i = es.length := by simp at hi; omega
    subst hii
    have e1 := getD_ge ls [l] [] 0
    rw [Nat.add_zero, ← h.1] at e1
    rw [getD_last, e1]
    exact hr
theorem bval (w : World) {b : Nat} {v u : Value} (h : w.heap[b]? = some (.cells (bookCells v u) 46 (0, 0))) : w.cell? ⟨b, 6, none⟩ = some v ∧ w.cell? ⟨b, 7, none⟩ = some u ∧ (∀ o, w.frozen? ⟨b, o, none⟩ = false) :=
  ⟨cell_of_row w b 6 _ _ _ h, cell_of_row w b 7 _ _ _ h, fun o => Lib.frozen_of_heap h o⟩
/-- The value of the list at place i, as memory has it. -/
theorem owns_entry {w : World} {A : Option Addr} {c k : Nat} {es : List E} (h : w.ownsRow 0 23 1 (.slice A k c) k (es.map E.val)) {i : Nat} (hi : i < k) : ∃ g, A = some ⟨g, 0, none⟩ ∧ g < w.heap.size ∧ w.cell? ⟨g, i, none⟩ = some (.slice (es.getD i e0).A (es.getD i e0).n (es.getD i e0).c) := by
  have hk : k = es.length := by have := h.1; simp at this; omega
  rcases h.2 with ⟨_, h0⟩ | ⟨g, cap, cur, h1, _, h2, _⟩
  · omega
  · simp only [Value.slice.injEq] at h1
    obtain ⟨rfl, _, rfl⟩ := h1
    refine ⟨g, rfl, (Array.getElem?_eq_some_iff.1 h2).1, ?_⟩
    have := h.cells (g := g) rfl i (es.getD i e0).val (by simp [List.getD, show i < es.length by omega])
    rw [add_plain, Nat.zero_add] at this
    exact this
theorem quiet_more {P : Program} {f : FuncId} {args : Array Value} {w : World} {a n : Nat} {v : Value} (h : Calls P f args (w.drewN (a + n)) fun e w' => e = .returned v ∧ ∃ q, w' = (w.drewN (a + n)).drewN q) :
    Calls P f args (w.drewN (a + n)) fun e w' => e = .returned v ∧ ∃ q, w' = w.drewN (a + q) := h.mono fun _ _ ⟨he, q, hw⟩ => ⟨he, n + q, by rw [hw, World.drewN_drewN, Nat.add_assoc]⟩
theorem infoL : (Try.prog.info? 23).map (fun i => (i.zero, i.size, i.bytes)) = some (some (.slice none 0 0), 1, 24) := by kernel_rfl

theorem same_self {n c d : Nat} {A B : Option Addr} {l : List Pg} (w : World) (h1 : Row w A n c l) (h2 : Row w B n d l) (hs : Sz l) (hn : n ≤ 1000000) (q : Nat) :
    Calls Try.prog 16 #[.slice A n c, .slice B n d] (w.drewN q) fun e w' => e = .returned (.bool true) ∧ ∃ q', w' = (w.drewN q).drewN q' := by
  have hb : Below w.heap.size w (w.drewN q) := ⟨rfl, rfl, rfl, Nat.le_refl _, fun _ _ => rfl⟩
  have := same_walk (c := c) (d := d) (w.drewN q) ((h1.below hb).pgs hs (by unfold maxLen; omega)) ((h2.below hb).pgs hs (by unfold maxLen; omega)) h1.1.symm h2.1.symm hn
  rw [sameB_self] at this
  exact this
set_option maxHeartbeats 1000000 in
theorem still_walk (C b : Nat) (es fs : List E) (ls : List (List Pg)) (w : World) (h : Book C w b es fs ls ls) (hn : es.length ≤ 1000) (hsz : ∀ i, i < es.length → (es.getD i e0).n ≤ 1000000) (hls : ∀ i, i < es.length → Sz (ls.getD i [])) :
    Calls Try.prog 38 #[ptr b] w fun e w' => e = .returned (.bool true) ∧ ∃ q, w' = w.drewN q := by
  have HS := Lib.hid hsz
  have HLS := Lib.hid hls
  obtain ⟨⟨_, v, u, _, _, h1, h2, h3, h4⟩, h5, h6, h7⟩ := h
  obtain ⟨c0, c1, _⟩ := bval w h1
  obtain ⟨Av, cv, hv⟩ := own_shape h2
  obtain ⟨Au, cu, hu⟩ := own_shape h3
  have hfl : fs.length = es.length := by rw [h6.1, ← h5.1]
  rw [hfl] at h3 hu
  obtain ⟨k, hk⟩ : ∃ k, es.length = k := ⟨_, rfl⟩
  rw [hk] at h2 h3 hv hu hfl hn
  have HK := Lib.hid hk
  have HFL := Lib.hid hfl
  subst hv hu
  have H2 := Lib.hid h2
  have H3 := Lib.hid h3
  have H5 := Lib.hid h5
  have H6 := Lib.hid h6
  have hN : (k : Int) ≤ 1000 := by omega
  clear h1 h2 h3 h4 h5 h6 h7 hfl hsz hls hk
  go_enter Try.func38, Try.ntmps38
  go_wp2_with fail
  go_loopw [3] (fun x wr => ∃ i : Nat, i ≤ k ∧ x = .int .i64 i ∧ ∃ q, wr = w.drewN q) (fun x _ => k - (intOf x).toNat)
  case atStart => exact ⟨0, Nat.zero_le _, rfl, 0, rfl⟩
  case round =>
    obtain ⟨i, hi, rfl, q, rfl⟩ := hrel
    have b0 : (0 : Int) ≤ (i : Int) := by omega
    by_cases hlt : i < k
    · have b1 : (i : Int) < (k : Int) := by omega
      obtain ⟨g, rfl, _, ce⟩ := owns_entry H2.out hlt
      obtain ⟨g2, rfl, _, cf⟩ := owns_entry H3.out hlt
      have re := H5.out.2 i (by rw [HK.out]; exact hlt)
      have rf := H6.out.2 i (by rw [HFL.out]; exact hlt)
      have hz := HS.out i (by rw [HK.out]; exact hlt)
      have hl := HLS.out i (by rw [HK.out]; exact hlt)
      generalize es.getD i e0 = e at *
      generalize fs.getD i e0 = f at *
      generalize ls.getD i [] = l at *
      obtain ⟨eA, eN, eC⟩ := e
      obtain ⟨fA, fN, fC⟩ := f
      simp only at re rf ce cf hz
      obtain rfl : eN = fN := by rw [re.1, rf.1]
      have HC := Lib.hid (fun q => same_self (c := eC) (d := fC) w re rf hl hz q)
      clear re rf hz hl
      go_wp2_with fail
      go_quiet ((go_at_call 16; exact quiet_more (HC.out _)))
      go_wp2_with fail
      go_roundw
      case rel => exact ⟨i + 1, by omega, by go_num, _, rfl⟩
      case measure => simp [intOf]; omega
    · obtain rfl : i = k := by omega
      go_wp2_with fail
      go_ret
      exact ⟨rfl, q, rfl⟩

/-! One list more. -/
/-- What a call on the book leaves alone. -/
def KeptB (C b : Nat) (w w' : World) : Prop := Below C w w' ∧ ∀ k o, w.heap[k]? = some o → k ≠ b → (∀ cs, o ≠ .cells cs 23 (0, 0)) → w'.heap[k]? = some o
theorem KeptB.trans {C b : Nat} {x y z : World} (h : KeptB C b x y) (k : KeptB C b y z) : KeptB C b x z := ⟨h.1.trans k.1, fun i o h1 h2 h3 => k.2 i o (h.2 i o h1 h2 h3) h2 h3⟩
theorem KeptB.of_below {C b : Nat} {x y : World} (h : Below x.heap.size x y) (hC : C ≤ x.heap.size) : KeptB C b x y :=
  ⟨h.mono hC, fun i o h1 _ _ => (h.block i (Array.getElem?_eq_some_iff.1 h1).1).trans h1⟩
theorem KeptB.row {C b : Nat} {w w' : World} (h : KeptB C b w w') {A : Option Addr} {n c : Nat} {l : List Pg} (hr : Row w A n c l) {cs : Array Value} (hb : w.heap[b]? = some (.cells cs 46 (0, 0))) : Row w' A n c l := by
  refine hr.keep fun g hg => ?_
  obtain ⟨cur, hc⟩ := row_block hr hg
  rw [hc]
  exact h.2 g _ hc (fun e => by rw [e, hb] at hc; simp at hc) (by intro cs; simp)
/-- The slice at one of the book's places has grown by one list, and has been stored. -/
theorem grown_entry {C b o : Nat} {w w1 : World} {cs : Array Value} {v v' x : Value} {k : Nat} {xs : List Value} (hb : w.heap[b]? = some (.cells cs 46 (0, 0))) (hCb : C ≤ b) (hCv : ∀ g, v.ownBlock = some g → C ≤ g)
    (hv : w.ownsRow 0 23 1 v k xs) (hown : w1.ownsRow 0 23 1 v' (k + 1) (xs ++ [x])) (ob : Obj) (hg : (w.alloc ob).grownBy w1 v.ownBlock) (hat : v'.ownBlock = v.ownBlock ∨ v'.ownBlock = some (w.heap.size + 1)) :
    (w1.setCell ⟨b, o, none⟩ v').heap[b]? = some (.cells (cs.setIfInBounds o v') 46 (0, 0)) ∧ (w1.setCell ⟨b, o, none⟩ v').ownsRow 0 23 1 v' (k + 1) (xs ++ [x]) ∧ KeptB C b w (w1.setCell ⟨b, o, none⟩ v') ∧
      (∀ g, v'.ownBlock = some g → C ≤ g) ∧ w1.heap[b]? = some (.cells cs 46 (0, 0)) ∧ ∀ g cur, w.heap[g]? = some (.cells cur 23 (0, 0)) → v.ownBlock ≠ some g → (w1.setCell ⟨b, o, none⟩ v').heap[g]? = w.heap[g]? := by
  have hbl := (Array.getElem?_eq_some_iff.1 hb).1
  have hvb : v.ownBlock ≠ some b := fun e => by
    obtain ⟨cur, hc⟩ := owns_block hv e
    rw [hb] at hc; simp at hc
  have hb1 : w1.heap[b]? = some (.cells cs 46 (0, 0)) :=
    ((hg.block b (by rw [World.size_alloc]; omega) (fun e => hvb e.symm)).trans (Below.heap_alloc w ob b hbl)).trans hb
  have hv'b : v'.ownBlock ≠ some b := fun e => by
    obtain ⟨cur, hc⟩ := owns_block hown e
    rw [hb1] at hc; simp at hc
  have hsz : w.heap.size ≤ w1.heap.size := by have := hg.size; rw [World.size_alloc] at this; omega
  refine ⟨?_, ownsRow_setCell_other hown hv'b _, ⟨⟨hg.os, hg.tape, hg.output, by rw [World.size_setCell]; exact hsz, fun i hi => ?_⟩, fun i ob' h1 h2 h3 => ?_⟩, fun g hg' => ?_, hb1, fun g cur h1 h2 => ?_⟩
  · rw [setCell_eq_setRow w1 b o _ _ _ _ hb1, setRow_heap w1 b _ _ _ _ hb1]
  · rw [Below.heap_setCell _ _ _ _ (show i ≠ b by omega)]
    by_cases hlt : i < w.heap.size
    · exact (hg.block i (by rw [World.size_alloc]; omega) (fun e => by have := hCv i e.symm; omega)).trans (Below.heap_alloc w ob i hlt)
    · omega
  · have hlt := (Array.getElem?_eq_some_iff.1 h1).1
    rw [Below.heap_setCell _ _ _ _ h2]
    refine ((hg.block i (by rw [World.size_alloc]; omega) (fun e => ?_)).trans (Below.heap_alloc w ob i hlt)).trans h1
    obtain ⟨cur, hc⟩ := owns_block hv e.symm
    rw [h1] at hc
    exact h3 cur (by simpa using hc)
  · rcases hat with h | h
    · exact hCv g (h ▸ hg')
    · rw [h] at hg'
      have : w.heap.size + 1 = g := by simpa using hg'
      omega
  · have hlt := (Array.getElem?_eq_some_iff.1 h1).1
    rw [Below.heap_setCell _ _ _ _ (fun e => by rw [e, hb] at h1; simp at h1)]
    exact (hg.block g (by rw [World.size_alloc]; omega) (fun e => h2 e.symm)).trans (Below.heap_alloc w ob g hlt)

def Added (C b : Nat) (es fs : List E) (ls ms : List (List Pg)) (e : E) (l : List Pg) (w w' : World) : Prop := ∃ f, Book C w' b (es ++ [e]) (fs ++ [f]) (ls ++ [l]) (ms ++ [l]) ∧ KeptB C b w w' ∧ ∀ g, f.own = some g → w.heap.size ≤ g

theorem row_own_lt {w : World} {A : Option Addr} {n c : Nat} {l : List Pg} (h : Row w A n c l) {g : Nat} (hg : (⟨A, n, c⟩ : E).own = some g) : g < w.heap.size := (h.2.lt g hg).2
theorem lists_mem {w : World} {es : List E} {ls : List (List Pg)} (h : Lists w es ls) {x : E} (hx : x ∈ es) : ∃ l, Row w x.A x.n x.c l := by
  obtain ⟨i, hi, rfl⟩ := List.getElem_of_mem hx
  have := h.2 i hi
  have e : es.getD i e0 = es[i] := by simp [List.getD, hi]
  rw [e] at this
  exact ⟨_, this⟩
theorem lists_keptB {C b : Nat} {w w' : World} {es : List E} {ls : List (List Pg)} (h : Lists w es ls) (k : KeptB C b w w') {cs : Array Value} (hb : w.heap[b]? = some (.cells cs 46 (0, 0))) : Lists w' es ls := ⟨h.1, fun i hi => k.row (h.2 i hi) hb⟩
theorem added_end {C b k kf n c c' cu c2 c3 : Nat} {es fs : List E} {ls ms : List (List Pg)} {A A' Au A2 A3 : Option Addr} {l : List Pg} {w W w2 w3 : World} {cs0 : Array Value}
    (hCb : C ≤ b) (hk : es.length = k) (hkf : fs.length = kf) (K4 : ∀ g, (Value.slice A' (k + 1) c').ownBlock = some g → C ≤ g)
    (K2 : W.ownsRow 0 23 1 (.slice A' (k + 1) c') (k + 1) (es.map E.val ++ [.slice A n c])) (K3 : KeptB C b w W) (H1 : w.heap[b]? = some (.cells cs0 46 (0, 0)))
    (H1' : W.heap[b]? = some (.cells (bookCells (.slice A' (k + 1) c') (.slice Au kf cu)) 46 (0, 0)))
    (HUV : ∀ g, (Value.slice A' (k + 1) c').ownBlock = some g → (Value.slice Au kf cu).ownBlock ≠ some g) (HU : W.ownsRow 0 23 1 (.slice Au kf cu) kf (fs.map E.val)) (HRW : Row W A n c l) (H5 : Lists w es ls) (H6 : Lists w fs ms) (H7 : Far (es ++ fs))
    (HF : ∀ x ∈ es ++ fs, FarR x ⟨A, n, c⟩) (hC : C ≤ w.heap.size) (HR : Row w A n c l) (hr2 : w2.ownsRow W.drew.heap.size 26 4 (.slice A2 l.length c2) l.length (pcs l)) (hb2 : Below W.drew.heap.size W.drew w2)
    (hh2 : w2.heap[b]? = some (.cells (bookCells (.slice A' (k + 1) c') (.slice Au kf cu)) 46 (0, 0))) (hU2 : w2.ownsRow 0 23 1 (.slice Au kf cu) kf (fs.map E.val))
    (KK : (w3.setCell ⟨b, 7, none⟩ (.slice A3 (kf + 1) c3)).heap[b]? = some (.cells ((bookCells (.slice A' (k + 1) c') (.slice Au kf cu)).setIfInBounds 7 (.slice A3 (kf + 1) c3)) 46 (0, 0)) ∧
      (w3.setCell ⟨b, 7, none⟩ (.slice A3 (kf + 1) c3)).ownsRow 0 23 1 (.slice A3 (kf + 1) c3) (kf + 1) (fs.map E.val ++ [.slice A2 l.length c2]) ∧ KeptB C b w2 (w3.setCell ⟨b, 7, none⟩ (.slice A3 (kf + 1) c3)) ∧
      (∀ g, (Value.slice A3 (kf + 1) c3).ownBlock = some g → C ≤ g) ∧ w3.heap[b]? = some (.cells (bookCells (.slice A' (k + 1) c') (.slice Au kf cu)) 46 (0, 0)) ∧
      ∀ g cur, w2.heap[g]? = some (.cells cur 23 (0, 0)) → (Value.slice Au kf cu).ownBlock ≠ some g → (w3.setCell ⟨b, 7, none⟩ (.slice A3 (kf + 1) c3)).heap[g]? = w2.heap[g]?)
    (hown : w3.ownsRow 0 23 1 (.slice A3 (kf + 1) c3) (kf + 1) (fs.map E.val ++ [.slice A2 l.length c2])) (hat : (Value.slice A3 (kf + 1) c3).ownBlock = (Value.slice Au kf cu).ownBlock ∨ (Value.slice A3 (kf + 1) c3).ownBlock = some (w2.heap.size + 1)) :
    Added C b es fs ls ms ⟨A, n, c⟩ l w (w3.setCell ⟨b, 7, none⟩ (.slice A3 (kf + 1) c3)) := by
  obtain ⟨q1, q2, q3, q4, q5, q6⟩ := KK
  have hb2' : Below W.heap.size W w2 := ⟨hb2.os, hb2.tape, hb2.output, hb2.size, hb2.block⟩
  have hws : w.heap.size ≤ W.heap.size := K3.1.size
  have hv2 : w2.ownsRow 0 23 1 (.slice A' (k + 1) c') (k + 1) (es.map E.val ++ [.slice A n c]) := owns_kept K2 fun g hg => hb2'.block g (K2.lt g hg).2
  have hv4 : (w3.setCell ⟨b, 7, none⟩ (.slice A3 (kf + 1) c3)).ownsRow 0 23 1 (.slice A' (k + 1) c') (k + 1) (es.map E.val ++ [.slice A n c]) := owns_kept hv2 fun g hg => by
    obtain ⟨cur, hc⟩ := owns_block hv2 hg
    exact q6 g cur hc (HUV g hg)
  have step : ∀ {es' : List E} {ls' : List (List Pg)}, Lists w es' ls' → Lists (w3.setCell ⟨b, 7, none⟩ (.slice A3 (kf + 1) c3)) es' ls' := fun h => lists_keptB ((lists_keptB h K3 H1).below hb2') q3 hh2
  have hRe : Row (w3.setCell ⟨b, 7, none⟩ (.slice A3 (kf + 1) c3)) A n c l := q3.row (HRW.below hb2') hh2
  have hRf : Row (w3.setCell ⟨b, 7, none⟩ (.slice A3 (kf + 1) c3)) A2 l.length c2 l := q3.row (NewL.row hr2) hh2
  refine ⟨⟨A2, l.length, c2⟩, ⟨⟨hCb, _, _, K4, q4, q1, ?_, ?_, fun g hg hu => ?_⟩, (step H5).snoc hRe, (step H6).snoc hRf, far_two H7 HF fun x hx g hg hf => ?_⟩, K3.trans ((KeptB.of_below hb2' (Nat.le_trans hC hws)).trans q3), fun g hf => Nat.le_trans hws (hr2.lt g hf).1⟩
  · rw [List.length_append, hk, List.map_append]; exact hv4
  · rw [List.length_append, hkf, List.map_append]; exact q2
  · rcases hat with e | e
    · exact HUV g hg (e ▸ hu)
    · rw [e] at hu
      have e1 : w2.heap.size + 1 = g := by simpa using hu
      have := (hv2.lt g hg).2
      omega
  · have h1 : W.heap.size ≤ g := (hr2.lt g hf).1
    have h2 : g < w.heap.size := by
      rcases List.mem_append.1 hx with hx | hx
      · rcases List.mem_append.1 hx with hx | hx
        · obtain ⟨l', hl⟩ := lists_mem H5 hx
          exact row_own_lt hl hg
        · obtain ⟨l', hl⟩ := lists_mem H6 hx
          exact row_own_lt hl hg
      · simp at hx
        subst hx
        exact row_own_lt HR hg
    omega

set_option maxHeartbeats 4000000 in
theorem add_walk (C b : Nat) (es fs : List E) (ls ms : List (List Pg)) (A : Option Addr) (n c : Nat) (l : List Pg) (w : World) (h : Book C w b es fs ls ms) (hC : C ≤ w.heap.size) (hr : Row w A n c l) (hsl : Sz l) (hn : n ≤ 1000000) (hk : es.length ≤ 200) (hkf : fs.length ≤ 200)
    (hfar : ∀ x ∈ es ++ fs, FarR x ⟨A, n, c⟩) :
    Calls Try.prog 15 #[ptr b, .slice A n c] w fun e w' => e = .returned (.tuple #[]) ∧ Added C b es fs ls ms ⟨A, n, c⟩ l w w' := by
  obtain ⟨i0, hi, hz0, hz1, hz2⟩ := info_parts infoL
  have HF := Lib.hid hfar
  obtain ⟨⟨hCb, v, u, kv, ku, h1, h2, h3, h4⟩, h5, h6, h7⟩ := h
  obtain ⟨c0, c1, fz⟩ := bval w h1
  have f0 := fz 6
  obtain ⟨Av, cv, hv⟩ := own_shape h2
  obtain ⟨k, hk2⟩ : ∃ k, es.length = k := ⟨_, rfl⟩
  obtain ⟨kf, hkf2⟩ : ∃ kf, fs.length = kf := ⟨_, rfl⟩
  rw [hk2] at h2 hv hk
  rw [hkf2] at h3 hkf
  have HK := Lib.hid hk2
  have HKF := Lib.hid hkf2
  subst hv
  have hkN : (k : Int) < 250 := by omega
  have H1 := Lib.hid h1
  have H3 := Lib.hid h3
  have H4 := Lib.hid h4
  have H5 := Lib.hid h5
  have H6 := Lib.hid h6
  have H7 := Lib.hid h7
  have KV := Lib.hid kv
  have KU := Lib.hid ku
  have HR := Lib.hid hr
  have HCb := Lib.hid hCb
  have HC := Lib.hid hC
  clear h1 h3 h4 h5 h6 h7 hk2 hkf2 kv ku fz c1 hr hCb hC hfar
  go_enter Try.func15, Try.ntmps15
  go_wp2_with (at_builtin; refine wpList_append_src _ rfl (.tmp 14) (.tmp 16) 39 rfl 23 i0 (.slice none 0 0) 1 24 Try.underlying39 hi hz0 hz1 hz2 rfl (by decide) 0 _ _ _ rfl (h2.alloc _) _ 1 1 [.slice A n c] rfl ⟨rfl, fun _ => ⟨_, rfl, cell_one_new _ _ _⟩⟩ (by intro x hx; simp at hx; subst hx; rfl) (by unfold maxLen; omega) (by omega) (Nat.zero_le _) ?_; intro v' w1 hown hgrow hat; obtain ⟨A', c', rfl⟩ := own_shape hown; rw [World.size_alloc] at hat; have KK := Lib.hid (grown_entry (C := C) (o := 6) (x := .slice A n c) H1.out HCb.out KV.out h2 hown _ hgrow hat); have d0 : w1.cell? ⟨b, 6, none⟩ = some (.slice Av k cv) := cell_of_row w1 b 6 _ _ _ KK.out.2.2.2.2.1; have d1 : w1.frozen? ⟨b, 6, none⟩ = false := Lib.frozen_of_heap KK.out.2.2.2.2.1 6)
  obtain ⟨k1, k2, k3, k4, k5, k6⟩ := KK.out
  have hu3 := H3.out
  have K1 := Lib.hid k1
  have K2 := Lib.hid k2
  have K3 := Lib.hid k3
  have K4 := Lib.hid k4
  have HU : Hid ((w1.setCell ⟨b, 6, none⟩ (.slice A' (k + 1) c')).ownsRow 0 23 1 u kf (fs.map E.val)) := owns_kept hu3 fun g hg => by
    obtain ⟨cur, hc⟩ := owns_block hu3 hg
    exact k6 g cur hc (fun e => H4.out g e hg)
  have HUV : Hid (∀ g, (Value.slice A' (k + 1) c').ownBlock = some g → u.ownBlock ≠ some g) := fun g hg hu => by
    rcases hat with e | e
    · exact H4.out g (e ▸ hg) hu
    · rw [e] at hg
      have e1 : w.heap.size + 1 = g := by simpa using hg
      have := (hu3.lt g hu).2
      omega
  have HRW := Lib.hid (k3.row HR.out H1.out)
  clear k1 k2 k3 k4 k5 k6 hown hgrow hat h2 hu3 KK
  generalize hW : w1.setCell ⟨b, 6, none⟩ (.slice A' (k + 1) c') = W at *
  have HWL := Lib.hid hW
  have h1' : W.heap[b]? = some (.cells (bookCells (.slice A' (k + 1) c') u) 46 (0, 0)) := K1.out
  have H1' := Lib.hid h1'
  obtain ⟨x0, x1, xf⟩ := bval W h1'
  have xf1 := xf 7
  obtain ⟨Au, cu, hu⟩ := own_shape HU.out
  subst hu
  have HCP := Lib.hid (copy_walk (c := c) W.drew ((HRW.out.below (Below.refl _ _).drew).pgs hsl (by unfold maxLen; omega)) HRW.out.1.symm hn)
  clear hW h1' xf x0
  go_region_law (first
    | (refine step_append_src _ (by rfl) (.tmp 24) (.tmp 27) 39 (by rfl) 23 i0 (.slice none 0 0) 1 24 Try.underlying39 hi hz0 hz1 hz2 rfl (by decide) 0 (.slice Au kf cu) kf (fs.map E.val) (by rfl) (hU2.alloc _) (some ⟨w2.heap.size, 0, none⟩) 1 1 [.slice A2 l.length c2] (by rfl) ⟨rfl, fun _ => ⟨_, rfl, cell_one_new _ _ _⟩⟩ (by intro x hx; simp at hx; subst hx; rfl) (by unfold maxLen; omega) (by omega) (Nat.zero_le _) ?_; intro v3 w3 hown hgrow hat; obtain ⟨A3, c3, rfl⟩ := own_shape hown; rw [World.size_alloc] at hat; have KK := Lib.hid (grown_entry (C := C) (o := 7) (x := .slice A2 l.length c2) hh2 HCb.out KU.out hU2 hown _ hgrow hat); have d2 : w3.cell? ⟨b, 7, none⟩ = some (.slice Au kf cu) := cell_of_row w3 b 7 _ _ _ KK.out.2.2.2.2.1; have d3 : w3.frozen? ⟨b, 7, none⟩ = false := Lib.frozen_of_heap KK.out.2.2.2.2.1 7)
    | (go_simp; go_at_call 29; refine HCP.out.mono ?_; rintro e w2 ⟨A2, c2, rfl, hr2, hb2⟩; have hh2 : w2.heap[b]? = some (.cells (bookCells (.slice A' (k + 1) c') (.slice Au kf cu)) 46 (0, 0)) := (hb2.block b (Array.getElem?_eq_some_iff.1 H1'.out).1).trans H1'.out; have hU2 : w2.ownsRow 0 23 1 (.slice Au kf cu) kf (fs.map E.val) := owns_kept HU.out (fun g hg => hb2.block g (HU.out.lt g hg).2); have x2 : w2.cell? ⟨b, 7, none⟩ = some (.slice Au kf cu) := cell_of_row w2 b 7 _ _ _ hh2; have x3 : ∀ ob, (w2.alloc ob).cell? ⟨b, 7, none⟩ = some (.slice Au kf cu) := fun ob => Lib.cell?_alloc_some ob x2))
  all_goals go_end0
  all_goals (have HX := added_end HCb.out HK.out HKF.out K4.out K2.out K3.out H1.out H1'.out HUV.out HU.out HRW.out H5.out H6.out H7.out HF.out HC.out HR.out hr2 hb2 hh2 hU2 KK.out hown hat)
  all_goals exact ⟨rfl, HX⟩
end Go.Proofs.Ytoladghpoddlgaa
