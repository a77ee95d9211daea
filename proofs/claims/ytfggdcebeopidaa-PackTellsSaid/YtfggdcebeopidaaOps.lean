/- What is written, one thing behind the other: what the Writer holds behind it, and what its bytes are. -/
import Derived.Test.YtfggdcebeopidaaBig
import Derived.SliceStrings
import Derived.Deep.Slices
import Derived.Deep.Fields
import Derived.ChangeSame
import Derived.LaidEqlPtr
import Derived.Lib.Builder
namespace Go.Proofs.Ytfggdcebeopidaa
open Go.ChangeShapes Go.WideShapes Go.ChangeAt Go.RowKit
set_option linter.unusedVariables false

section
open Go.Deep
variable {H : Type} {enc : TypeId × Value → H} {P : Program} {w : World} {base : Nat} {spare : Nat → Bool} {held : Bool}
theorem open_slice_fields {t e : TypeId} {fs : Array Field} {fuel : Nat} {cs : List Value} {x : DataW H × List MemPlace} (ht : P.underlying t = some (.slice e)) (he : P.underlying e = some (.struct fs))
    (hone : oneCellFields P fs = true) (hC : P.cellsOf e = fs.size) (h : DataW.trod enc P w base spare held fuel t cs = some x) :
    (cs = [.slice none 0 0] ∧ x = (.nil, [])) ∨
    ∃ (a : Addr) (len cap m : Nat) (D : Nat → DataW H) (Pl : Nat → List MemPlace), cs = [.slice (some a) len cap] ∧ base ≤ a.block ∧ len ≤ cap ∧ cap ≤ maxLen ∧ m = (if spare a.block then cap else len) ∧
      x = (.slice ((List.range len).map D) ((List.range (m - len)).map fun j => D (len + j)), MemPlace.row a (m * fs.size) ++ (List.range m).flatMap Pl) ∧
      ∀ i, i < m → ∃ (ys : List (DataW H × List MemPlace)) (n : Nat), D i = .agg (ys.map (·.1)) ∧ Pl i = ys.flatMap (·.2) ∧ ys.length = fs.size ∧
        ∀ (j : Nat) (f : Field), fs[j]? = some f → ∃ (v : Value) (y : DataW H × List MemPlace), w.cell? (a.add (i * fs.size + j)) = some v ∧ ys[j]? = some y ∧ DataW.trod enc P w base spare held n f.type [v] = some y := by
  rcases open_slice ht h with h0 | ⟨a, len, cap, m, n, D, Pl, hcs, hb, hl, hm, hmm, hx, hi⟩
  · exact .inl h0
  · refine .inr ⟨a, len, cap, m, D, Pl, hcs, hb, hl, hm, hmm, by rw [hC] at hx; exact hx, fun i him => ?_⟩
    obtain ⟨cs', hc, ht'⟩ := hi i him
    rw [hC] at hc
    obtain ⟨ys, n', hn', hy, hlen, hyl, hf⟩ := DataW.trod_struct he ht'
    obtain ⟨_, hcl, hat⟩ := World.cells?_some hc
    simp only [Prod.mk.injEq] at hy
    refine ⟨ys, n', hy.1, hy.2, hyl, fun j f hj => ?_⟩
    obtain ⟨ho, hk⟩ := hone_of hone j f hj
    have hjl : j < fs.size := (Array.getElem?_eq_some_iff.1 hj).1
    have hcell := hat j hjl
    have hv : cs'[j]? = some (cs'[j]'(by omega)) := List.getElem?_eq_getElem (by omega)
    have h1 := hf j f hj
    rw [ho, hk] at h1
    have hone' : (cs'.drop j).take 1 = [cs'[j]'(by omega)] := by
      rw [List.drop_eq_getElem_cons (by omega)]
      rfl
    rw [hone'] at h1
    have hys : ys[j]? = some (ys[j]'(by omega)) := List.getElem?_eq_getElem (by omega)
    refine ⟨_, _, ?_, hys, h1.trans hys⟩
    rw [← Go.Deep.add_add, hcell, hv]
end
/-- Something that is written: its kind, its number, its text. -/
structure O where
  kind : Int
  n : Int
  s : ByteArray
def o0 : O := ⟨0, 0, ByteArray.empty⟩
/-- The k-th of them lies in the caller's memory. -/
def OpAt (w : World) (A : Option Addr) (k : Nat) (o : O) : Prop :=
  ∃ b off, A = some ⟨b, off, none⟩ ∧ b < w.heap.size ∧ w.cell? ⟨b, off + k * 3, none⟩ = some (.int .i64 o.kind) ∧ w.cell? ⟨b, off + k * 3 + 1, none⟩ = some (.int .i64 o.n) ∧ w.cell? ⟨b, off + k * 3 + 2, none⟩ = some (.string o.s) ∧
    -9223372036854775808 ≤ o.n ∧ o.n ≤ 9223372036854775807 ∧ o.s.size ≤ maxLen
def Ops (w : World) (A : Option Addr) (len : Nat) (l : List O) : Prop := l.length = len ∧ ∀ k, k < len → OpAt w A k (l.getD k o0)
theorem choose_list {P : Nat → O → Prop} : ∀ {n : Nat}, (∀ k, k < n → ∃ o, P k o) → ∃ l : List O, l.length = n ∧ ∀ k, k < n → P k (l.getD k o0)
  | 0, _ => ⟨[], rfl, fun k hk => by omega⟩
  | n + 1, h => by
    obtain ⟨l, hl, hp⟩ := choose_list (n := n) fun k hk => h k (by omega)
    obtain ⟨o, ho⟩ := h n (by omega)
    refine ⟨l ++ [o], by simp [hl], fun k hk => ?_⟩
    by_cases e : k < n
    · have := hp k e
      rwa [List.getD_eq_getElem?_getD, List.getElem?_append_left (by omega), ← List.getD_eq_getElem?_getD]
    · obtain rfl : k = n := by omega
      rw [List.getD_eq_getElem?_getD, List.getElem?_append_right (by omega), hl]
      simpa using ho
theorem Wr_more {C p : Nat} {w : World} {l : List UInt8} {b : Bool} (h : Wr C w p l b) (o : Obj) : Wr C (w.alloc o) p l b :=
  ⟨by have := h.1; simp; omega, by obtain ⟨_, v, hh, hown⟩ := h; exact ⟨v, (Below.heap_alloc w o p (block_of_heap hh)).trans hh, hown.alloc o⟩⟩
theorem Wr_below {C p : Nat} {w w' : World} {l : List UInt8} {b : Bool} (h : Wr C w p l b) (hb : Below w.heap.size w w') : Wr C w' p l b :=
  h.kept (D := w.heap.size) (q := w.heap.size) (Only.of_below hb (Nat.le_refl _)) (Nat.le_refl _) (by have := h.lt; omega) fun cs n e => by have := block_of_heap e; omega

/-- What a Writer is behind one more thing. -/
def step (a : List UInt8 × Bool) (o : O) : List UInt8 × Bool :=
  if o.kind = 1 then after 65535 w2 a.1 a.2 o.n else if o.kind = 2 then after 4294967295 w4 a.1 a.2 o.n else if a.2 then (a.1, true) else (a.1 ++ (w2 o.s.size ++ o.s.data.toList), false)
def st (l : List O) : List UInt8 × Bool := l.foldl step ([], false)
def enc1 (o : O) : List UInt8 := if o.kind = 1 then w2 o.n else if o.kind = 2 then w4 o.n else w2 o.s.size ++ o.s.data.toList
def enc (l : List O) : List UInt8 := l.flatMap enc1
def Fits (o : O) : Prop := (o.kind = 1 → 0 ≤ o.n ∧ o.n ≤ 65535) ∧ (o.kind = 2 → 0 ≤ o.n ∧ o.n ≤ 4294967295)

theorem getD_mem (l : List O) (k : Nat) (h : k < l.length) : l.getD k o0 ∈ l := by
  rw [List.getD_eq_getElem?_getD, List.getElem?_eq_getElem h]; exact List.getElem_mem h
theorem take_getD (l : List O) (k : Nat) (h : k < l.length) : l.take (k + 1) = l.take k ++ [l.getD k o0] := by
  rw [List.take_succ_eq_append_getElem h, List.getD_eq_getElem?_getD, List.getElem?_eq_getElem h]; rfl
theorem drop_getD (l : List O) (k : Nat) (h : k < l.length) : l.drop k = l.getD k o0 :: l.drop (k + 1) := by
  rw [List.drop_eq_getElem_cons h, List.getD_eq_getElem?_getD, List.getElem?_eq_getElem h]; rfl
theorem st_take (l : List O) (k : Nat) (h : k < l.length) : st (l.take (k + 1)) = step (st (l.take k)) (l.getD k o0) := by
  rw [take_getD l k h]; simp [st]
theorem enc_drop (l : List O) (k : Nat) (h : k < l.length) : enc (l.drop k) = enc1 (l.getD k o0) ++ enc (l.drop (k + 1)) := by
  rw [drop_getD l k h]; simp [enc]
theorem enc1_le (o : O) (h : o.s.size ≤ 300) : (enc1 o).length ≤ 302 := by
  have e : o.s.data.toList.length = o.s.size := by simp
  unfold enc1
  split
  · simp [w2_length]
  · split
    · simp [w4_length]
    · rw [List.length_append, w2_length, e]; omega
theorem enc_le : ∀ (l : List O), (∀ o ∈ l, o.s.size ≤ 300) → (enc l).length ≤ l.length * 302
  | [], _ => by simp [enc]
  | o :: l, h => by
    have := enc_le l fun x hx => h x (by simp [hx])
    have h1 := enc1_le o (h o (by simp))
    have e : enc (o :: l) = enc1 o ++ enc l := rfl
    rw [e, List.length_append, List.length_cons]; omega
theorem step_good {a : List UInt8 × Bool} {o : O} (h : (step a o).2 = false) : a.2 = false ∧ (step a o).1 = a.1 ++ enc1 o ∧ Fits o := by
  unfold step at h ⊢
  unfold enc1 Fits
  by_cases h1 : o.kind = 1
  · rw [if_pos h1] at h ⊢
    rw [if_pos h1]
    unfold after at h ⊢
    by_cases h2 : 0 ≤ o.n ∧ o.n ≤ 65535
    · rw [if_pos h2] at h ⊢
      cases hb : a.2
      · exact ⟨rfl, by simp, fun _ => h2, fun h3 => by omega⟩
      · rw [hb] at h; simp at h
    · rw [if_neg h2] at h; simp at h
  · rw [if_neg h1] at h ⊢
    rw [if_neg h1]
    by_cases h2 : o.kind = 2
    · rw [if_pos h2] at h ⊢
      rw [if_pos h2]
      unfold after at h ⊢
      by_cases h3 : 0 ≤ o.n ∧ o.n ≤ 4294967295
      · rw [if_pos h3] at h ⊢
        cases hb : a.2
        · exact ⟨rfl, by simp, fun h4 => absurd h4 h1, fun _ => h3⟩
        · rw [hb] at h; simp at h
      · rw [if_neg h3] at h; simp at h
    · rw [if_neg h2] at h ⊢
      rw [if_neg h2]
      cases hb : a.2
      · exact ⟨rfl, by simp, fun h4 => absurd h4 h1, fun h4 => absurd h4 h2⟩
      · rw [hb] at h; simp at h
theorem fold_good : ∀ (l : List O) (a : List UInt8 × Bool), (l.foldl step a).2 = false → a.2 = false ∧ (l.foldl step a).1 = a.1 ++ enc l ∧ ∀ o ∈ l, Fits o
  | [], a, h => ⟨h, by simp [enc], fun o ho => by simp at ho⟩
  | o :: l, a, h => by
    obtain ⟨h1, h2, h3⟩ := fold_good l (step a o) h
    obtain ⟨h4, h5, h6⟩ := step_good h1
    refine ⟨h4, ?_, ?_⟩
    · show (l.foldl step (step a o)).1 = a.1 ++ (enc1 o ++ enc l)
      rw [h2, h5, List.append_assoc]
    · intro x hx
      rcases List.mem_cons.1 hx with rfl | hx
      · exact h6
      · exact h3 x hx
theorem st_good {l : List O} (h : (st l).2 = false) : (st l).1 = enc l ∧ ∀ o ∈ l, Fits o := by
  obtain ⟨_, h2, h3⟩ := fold_good l _ h
  exact ⟨h2.trans (List.nil_append _), h3⟩
theorem step_le (a : List UInt8 × Bool) (o : O) (h : o.s.size ≤ 300) : (step a o).1.length ≤ a.1.length + 304 := by
  have e : o.s.data.toList.length = o.s.size := by simp
  unfold step after
  split
  · split
    · split
      · simp
      · simp [w2_length]
    · simp
  · split
    · split
      · split
        · simp
        · simp [w4_length]
      · simp
    · split
      · simp
      · simp [w2_length]; omega

/-- The first of the loops, k rounds on. -/
def Told (l : List O) (k p : Nat) (w w1 wr : World) (wt : ByteArray) : Prop :=
  (∀ o ∈ l.take k, o.s.size ≤ 300) ∧ Wr w.heap.size wr p (st (l.take k)).1 (st (l.take k)).2 ∧ Below w.heap.size w wr ∧ w1.heap.size < wr.heap.size ∧
    ((st (l.take k)).2 = false → wt = str (st (l.take k)).1) ∧ wt.size ≤ 304 * k ∧ (st (l.take k)).1.length ≤ 304 * k
theorem str_append (l m : List UInt8) : str l ++ str m = str (l ++ m) := by
  apply ByteArray.ext; apply Array.ext'; simp [str]
theorem told_next {l : List O} {k p : Nat} {w w1 wr X : World} {wt s : ByteArray} (h : Told l k p w w1 wr wt) (hk : k < l.length) (hs : (l.getD k o0).s.size ≤ 300)
    (hw : Wr w.heap.size X p (step (st (l.take k)) (l.getD k o0)).1 (step (st (l.take k)) (l.getD k o0)).2) (hb : Below w.heap.size w X) (hz : wr.heap.size ≤ X.heap.size)
    (he : (step (st (l.take k)) (l.getD k o0)).2 = false → s = str (enc1 (l.getD k o0))) (hl : s.size ≤ 304) : Told l (k + 1) p w w1 X (wt ++ s) := by
  obtain ⟨h1, h2, h3, h4, h5, h6, h7⟩ := h
  unfold Told
  rw [st_take l k hk]
  refine ⟨?_, hw, hb, by omega, ?_, by rw [ByteArray.size_append]; omega, by have := step_le (st (l.take k)) (l.getD k o0) hs; omega⟩
  · rw [take_getD l k hk]
    intro o ho
    rcases List.mem_append.1 ho with ho | ho
    · exact h1 o ho
    · have : o = l.getD k o0 := by simpa using ho
      rw [this]; exact hs
  · intro hg
    obtain ⟨g1, g2, _⟩ := step_good hg
    rw [g2, h5 g1, he hg, str_append]

theorem neq_same (p : Nat) (W : World) : (binOp .neq 24 (ptr p) (ptr p)).run Try.prog W = .ok (.bool false) W := by
  obtain ⟨j, hj⟩ := Option.isSome_iff_exists.1 (by kernel_rfl : (Try.prog.info? 27).isSome = true)
  exact Lib.run_neq_ptr_same W _ Try.underlying24 hj

theorem after_in0 {top : Int} {f : Int → List UInt8} {l : List UInt8} {v : Int} (h : 0 ≤ v ∧ v ≤ top) : after top f l false v = (l ++ f v, false) := by unfold after; rw [if_pos h]; rfl
theorem after_in1 {top : Int} {f : Int → List UInt8} {l : List UInt8} {v : Int} : after top f l true v = (l, true) := by simp [after]
theorem after_out {top : Int} {f : Int → List UInt8} {l : List UInt8} {b : Bool} {v : Int} (h : ¬ (0 ≤ v ∧ v ≤ top)) : after top f l b v = (l, true) := by unfold after; rw [if_neg h]
theorem step1 (a : List UInt8 × Bool) (n : Int) (s : ByteArray) : step a ⟨1, n, s⟩ = after 65535 w2 a.1 a.2 n := by simp [step]
theorem step2 (a : List UInt8 × Bool) (n : Int) (s : ByteArray) : step a ⟨2, n, s⟩ = after 4294967295 w4 a.1 a.2 n := by simp [step]
theorem step3 (l : List UInt8) (k n : Int) (s : ByteArray) (h1 : k ≠ 1) (h2 : k ≠ 2) : step (l, false) ⟨k, n, s⟩ = (l ++ (w2 s.size ++ s.data.toList), false) := by simp [step, h1, h2]
theorem step4 (l : List UInt8) (k n : Int) (s : ByteArray) (h1 : k ≠ 1) (h2 : k ≠ 2) : step (l, true) ⟨k, n, s⟩ = (l, true) := by simp [step, h1, h2]
theorem enc_text (k n : Int) (s : ByteArray) (h1 : k ≠ 1) (h2 : k ≠ 2) : str (w2 s.size) ++ s = str (enc1 ⟨k, n, s⟩) := by
  have e : enc1 ⟨k, n, s⟩ = w2 s.size ++ s.data.toList := by simp [enc1, h1, h2]
  rw [e, ← str_append, str_data]

/-- The second of the loops: what is left to be read. -/
def Left (l : List O) (k q : Nat) (w wr : World) : Prop := Rd wr q (enc (l.drop k)) true ∧ Below w.heap.size w wr

end Go.Proofs.Ytfggdcebeopidaa
