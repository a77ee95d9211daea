/- Blocks, worlds that turn within a set of blocks, maps of the program as plain functions. -/
import Derived.Test.YtcecfageijkifaaChecked
import Derived.Test.YtcecfageijkifaaRows
import Derived.WalkKit
import Derived.ProofKit
import Derived.IntWalk
import Derived.Below
import Derived.Carry
import Derived.OneCell
import Derived.LoopTactic
import Derived.BigQuiet
import Derived.RegionTactic
import Derived.Deep.QuietTactic
import Derived.Deep.OwnRows
import Derived.Deep.AppendLies
import Derived.Laws.BytesArg
import Derived.Laws.MakeOwn
import Derived.Laws.IdiomStrings
import Derived.SliceStrings
import Derived.Maps.AppendAt
import Derived.OwnWalk
import Derived.Laws.AppendOwn
import Derived.Deep.MidRow
import Derived.Lib.Hide
import Derived.Lib.AppendStr
import Derived.Lib.Strings
import Derived.StillTailTactics
import Derived.Laws.Entries
import Derived.Deep.RegionHeld3
import Derived.Deep.RegionLaw
import Derived.Deep.DeepCutAuto
import Derived.Deep.CutBlock
import Derived.Maps.Own
import Derived.Maps.OwnSet
import Derived.Maps.Views
import Derived.Lib.SliceRun
namespace Go.Proofs.Ytcecfageijkifaa.Po
open Go.ChangeShapes Go.WideShapes Go.ChangeAt Go.RowKit
set_option linter.unusedVariables false
set_option linter.unusedSimpArgs false
set_option maxRecDepth 100000
abbrev BA := List UInt8
def str (l : BA) : ByteArray := ⟨l.toArray⟩
theorem str_inj {a b : BA} (h : str a = str b) : a = b := by
  have := congrArg (fun s : ByteArray => s.data.toList) h
  exact this
theorem str_size (l : BA) : (str l).size = l.length := rfl
abbrev ptr (p : Nat) : Value := .pointer (some ⟨p, 0, none⟩)
def rng (v : Int) : Prop := -9223372036854775808 ≤ v ∧ v ≤ 9223372036854775807
theorem rng_wf {v : Int} (h : rng v) : (Lit.int .i64 v).wf = true := WalkArith.wf_i64 h
theorem wf_rng {v : Int} (h : (Lit.int .i64 v).wf = true) : rng v := by
  simp [Lit.wf, IntKind.min, IntKind.max, IntKind.signed, IntKind.bits] at h
  exact h
theorem block_of_heap {w : World} {p : Nat} {o : Obj} (h : w.heap[p]? = some o) : p < w.heap.size := (Array.getElem?_eq_some_iff.1 h).1
theorem frozen_of_heap (w : World) (p i : Nat) (cs : Array Value) (t : TypeId) (h : w.heap[p]? = some (.cells cs t (0, 0))) : w.frozen? ⟨p, i, none⟩ = false := by
  simp [World.frozen?, h]
/-! A block, as it is. -/
def Bx (w : World) (B : Nat) (cs : Array Value) (t : TypeId) : Prop := w.heap[B]? = some (.cells cs t (0, 0))
theorem Bx.new (w : World) (cs : Array Value) (t : TypeId) : Bx (w.alloc (.cells cs t)) w.heap.size cs t := heap_alloc_new w _
theorem Bx.lt {w : World} {B : Nat} {cs : Array Value} {t : TypeId} (h : Bx w B cs t) : B < w.heap.size := block_of_heap h
theorem Bx.held {w w' : World} {B : Nat} {cs : Array Value} {t : TypeId} (h : Bx w B cs t) (hb : Below w.heap.size w w') : Bx w' B cs t := (hb.block B h.lt).trans h
theorem Bx.cell {w : World} {B : Nat} {cs : Array Value} {t : TypeId} (h : Bx w B cs t) (i : Nat) : w.cell? ⟨B, i, none⟩ = cs[i]? := cell_of_row _ _ _ _ _ _ h
theorem Bx.free {w : World} {B : Nat} {cs : Array Value} {t : TypeId} (h : Bx w B cs t) (i : Nat) : w.frozen? ⟨B, i, none⟩ = false := frozen_of_heap _ _ _ _ _ h
theorem Bx.alloc {w : World} {B : Nat} {cs : Array Value} {t : TypeId} (h : Bx w B cs t) (o : Obj) : Bx (w.alloc o) B cs t := (Below.heap_alloc w o B h.lt).trans h
theorem Bx.drew {w : World} {B : Nat} {cs : Array Value} {t : TypeId} (h : Bx w B cs t) : Bx w.drew B cs t := h
theorem Bx.set {w : World} {B : Nat} {cs : Array Value} {t : TypeId} (h : Bx w B cs t) (i : Nat) (v : Value) : Bx (w.setCell ⟨B, i, none⟩ v) B (cs.setIfInBounds i v) t := heap_setCell_same w B i cs t v h
theorem Bx.other {w : World} {B C : Nat} {cs : Array Value} {t : TypeId} (h : Bx w B cs t) (hne : B ≠ C) (i : Nat) (v : Value) : Bx (w.setCell ⟨C, i, none⟩ v) B cs t := (Below.heap_setCell w ⟨C, i, none⟩ v B hne).trans h
theorem Bx.grown {w w' : World} {B : Nat} {cs : Array Value} {t : TypeId} {row : Option Nat} (h : Bx w B cs t) (hg : w.grownBy w' row) (hne : some B ≠ row) : Bx w' B cs t := (hg.block B h.lt hne).trans h
/-! A world that turned within a set of blocks (and has new ones). -/
structure Tn (S : Nat → Prop) (w w' : World) : Prop where
  os : w'.os = w.os
  tape : w'.tape = w.tape
  output : w'.output = w.output
  size : w.heap.size ≤ w'.heap.size
  block : ∀ k, k < w.heap.size → ¬ S k → w'.heap[k]? = w.heap[k]?
theorem Tn.refl (S : Nat → Prop) (w : World) : Tn S w w := ⟨rfl, rfl, rfl, Nat.le_refl _, fun _ _ _ => rfl⟩
theorem Tn.trans {S : Nat → Prop} {a b c : World} (h : Tn S a b) (k : Tn S b c) : Tn S a c :=
  ⟨k.os.trans h.os, k.tape.trans h.tape, k.output.trans h.output, Nat.le_trans h.size k.size, fun i hi hs => (k.block i (Nat.lt_of_lt_of_le hi h.size) hs).trans (h.block i hi hs)⟩
/-- The second step within other blocks, but of the old ones only within the first's. -/
theorem Tn.then {S S' : Nat → Prop} {a b c : World} (h : Tn S a b) (k : Tn S' b c) (hS : ∀ i, S' i → S i ∨ a.heap.size ≤ i) : Tn S a c :=
  ⟨k.os.trans h.os, k.tape.trans h.tape, k.output.trans h.output, Nat.le_trans h.size k.size, fun i hi hs => (k.block i (Nat.lt_of_lt_of_le hi h.size) (fun h' => by rcases hS i h' with h1 | h1; exact hs h1; omega)).trans (h.block i hi hs)⟩
theorem Tn.mono {S S' : Nat → Prop} {a b : World} (h : Tn S a b) (hS : ∀ i, S i → S' i) : Tn S' a b := ⟨h.os, h.tape, h.output, h.size, fun k hk hs => h.block k hk fun h' => hs (hS k h')⟩
theorem Tn.of_below {S : Nat → Prop} {a b : World} (h : Below a.heap.size a b) : Tn S a b := ⟨h.os, h.tape, h.output, h.size, fun k hk _ => h.block k hk⟩
theorem Tn.of_grown {S : Nat → Prop} {a b : World} {row : Option Nat} (h : a.grownBy b row) (hr : ∀ k, row = some k → S k) : Tn S a b :=
  have q := (Below.refl 0 a).grown h (Nat.zero_le _) (fun _ _ => Nat.zero_le _)
  ⟨q.os, q.tape, q.output, q.size, fun k hk hs => h.block k hk fun e => hs (hr k e.symm)⟩
theorem Tn.alloc (S : Nat → Prop) (w : World) (o : Obj) : Tn S w (w.alloc o) := .of_below ((Below.refl _ w).alloc (Nat.le_refl _) o)
theorem Tn.drew (S : Nat → Prop) (w : World) : Tn S w w.drew := .of_below (Below.refl _ w).drew
theorem Tn.setCell {S : Nat → Prop} (w : World) (a : Addr) (v : Value) (h : S a.block) : Tn S w (w.setCell a v) :=
  have q := (Below.refl 0 w).setCell (p := a) (Nat.zero_le _) v
  ⟨q.os, q.tape, q.output, q.size, fun k _ hs => Below.heap_setCell w a v k (fun e => hs (by rw [e]; exact h))⟩
theorem Tn.below {S : Nat → Prop} {a b : World} {C : Nat} (h : Tn S a b) (hC : C ≤ a.heap.size) (hS : ∀ i, S i → C ≤ i) : Below C a b :=
  ⟨h.os, h.tape, h.output, h.size, fun k hk => h.block k (Nat.lt_of_lt_of_le hk hC) fun h' => by have := hS k h'; omega⟩
theorem Tn.bx {S : Nat → Prop} {w w' : World} {B : Nat} {cs : Array Value} {t : TypeId} (h : Tn S w w') (hb : Bx w B cs t) (hs : ¬ S B) : Bx w' B cs t := (h.block B hb.lt hs).trans hb
theorem Tn.row {S : Nat → Prop} {w w' : World} {B e s n : Nat} {v : Value} {xs : List Value} (h : Tn S w w') (hr : w.ownsRow B e s v n xs) (hs : ∀ g, v.ownBlock = some g → ¬ S g) : w'.ownsRow B e s v n xs := by
  refine ⟨hr.1, ?_⟩
  have hlt := hr.lt
  rcases hr.2 with h1 | ⟨g', cap, cur, rfl, h1, h2, h3⟩
  · exact .inl h1
  · exact .inr ⟨g', cap, cur, rfl, h1, (h.block g' (hlt g' rfl).2 (hs g' rfl)).trans h2, h3⟩
section
variable {H : Type} {P : Program} {k : TypeId} {R : Value → Option (DataW H × List MemPlace)} {w w' : World} {b n : Nat} {D : DataW H}
theorem Tn.map {S : Nat → Prop} (h : Tn S w w') (hm : w.ownsMap P k R b n D) (hs : ¬ S b) : w'.ownsMap P k R b n D := by
  have hlt := hm.lt
  obtain ⟨es, clock, hb, r⟩ := hm
  exact ⟨es, clock, (h.block b hlt hs).trans hb, r⟩
theorem own_tight (hm : w.ownsMap P k R b n D) : w.ownsMap P k R b (Maps.size D) D := by
  obtain ⟨es, clock, hb, F, hs, rfl⟩ := hm
  exact ⟨es, clock, hb, F, by simp [Maps.size, length_sorted], rfl⟩
end
/-! Integer keys. -/
abbrev DW := DataW Unit
abbrev kI (k : Int) : Lit := .int .i64 k
theorem kI_ne {a b : Int} (h : a ≠ b) : kI a ≠ kI b := fun e => h (by simpa [kI] using e)
theorem kI_key (k : Int) : WideAt.IsKeyLit (kI k) := trivial
theorem keyedI : Maps.Keyed Try.prog 3 := Maps.int_keyed Try.underlying3
theorem keyI {k : Int} (h : rng k) : keyOf Try.prog 3 (.int .i64 k) = some (kI k) := Maps.keyOf_int_mk Try.underlying3 (rng_wf h)
/-- A map with integer keys, as a plain function: what stands at a key (e: how a plain value reads as a datum). -/
def MapI {α : Type} (R : Value → Option (DW × List MemPlace)) (e : Option α → DW) (w : World) (b n : Nat) (f : Int → Option α) : Prop :=
  ∃ D : DW, w.ownsMap Try.prog 3 R b n D ∧ (∀ k, D.atKey (kI k) (e none) = e (f k)) ∧ ∀ k, Maps.has D (kI k) = (f k).isSome
section
variable {α : Type} {R : Value → Option (DW × List MemPlace)} {e : Option α → DW} {w w' : World} {b n : Nat} {f : Int → Option α}
def updI (f : Int → Option α) (k : Int) (v : Option α) : Int → Option α := fun j => if j = k then v else f j
theorem updI_same (f : Int → Option α) (k : Int) (v : Option α) : updI f k v k = v := by simp [updI]
theorem updI_other (f : Int → Option α) {k j : Int} (v : Option α) (h : j ≠ k) : updI f k v j = f j := by simp [updI, h]
theorem MapI.lt (h : MapI R e w b n f) : b < w.heap.size := by obtain ⟨D, h, _⟩ := h; exact h.lt
theorem MapI.made (w : World) : MapI (α := α) R e (w.alloc (.map #[] 0)) w.heap.size 0 (fun _ => none) :=
  ⟨.map [], World.ownsMap_made w _ _ _, fun k => rfl, fun k => rfl⟩
theorem MapI.kept {S : Nat → Prop} (h : MapI R e w b n f) (t : Tn S w w') (hs : ¬ S b) : MapI R e w' b n f := by
  obtain ⟨D, h1, h2⟩ := h
  exact ⟨D, t.map h1 hs, h2⟩
theorem MapI.grown {row : Option Nat} (h : MapI R e w b n f) (g : w.grownBy w' row) (hne : some b ≠ row) : MapI R e w' b n f := by
  obtain ⟨D, h1, h2⟩ := h
  exact ⟨D, h1.kept g hne, h2⟩
theorem MapI.mono {m : Nat} (h : MapI R e w b n f) (hn : n ≤ m) : MapI R e w b m f := by
  obtain ⟨D, h1, h2⟩ := h
  exact ⟨D, h1.mono hn, h2⟩
/-- m[k]. -/
theorem MapI.look {t el : TypeId} (h : MapI R e w b n f) (ht : Try.prog.underlying t = some (.map 3 el)) {z : Value} (hz : (zeroValue el).run Try.prog w = .ok z w) (hzd : R z = some (e none, [])) {page : Int} (hk : rng page) :
    ∃ v ps, (Instr.lookup t (.map (some b)) (.int .i64 page) false).run Try.prog w = .ok v w ∧ R v = some (e (f page), ps) := by
  obtain ⟨D, h1, h2, h3⟩ := h
  obtain ⟨v, ps, h4, h5⟩ := h1.lookup keyedI ht hz hzd (keyI hk)
  rw [h2] at h5
  exact ⟨v, ps, h4, h5⟩
/-- m[k] = v. -/
theorem MapI.put {t el : TypeId} (h : MapI R e w b n f) (ht : Try.prog.underlying t = some (.map 3 el)) (hn : n < maxLen) {page : Int} (hk : rng page) {val : Value} {x : α} (hv : R val = some (e (some x), [])) :
    ∃ w', (Instr.mapUpdate t (.map (some b)) (.int .i64 page) val).run Try.prog w = .ok () w' ∧ MapI R e w' b (n + 1) (updI f page (some x)) ∧ w.grownBy w' (some b) := by
  obtain ⟨D, h1, h2, h3⟩ := h
  obtain ⟨w', h4, h5, h6⟩ := h1.update keyedI ht hn (keyI hk) hv
  refine ⟨w', h4, ⟨_, h5, fun k => ?_, fun k => ?_⟩, h6⟩
  · by_cases hkk : k = page
    · subst hkk
      rw [Maps.atKey_put_same h1.isMap (kI_key _), updI_same]
    · rw [Maps.atKey_put_other (kI_ne hkk), updI_other _ _ hkk, h2]
  · by_cases hkk : k = page
    · subst hkk
      rw [Maps.has_put_same h1.isMap (kI_key _), updI_same]
      rfl
    · rw [Maps.has_put_other (kI_ne hkk), updI_other _ _ hkk, h3]
/-- delete(m, k). -/
theorem MapI.drop {t el : TypeId} (h : MapI R e w b n f) (ht : Try.prog.underlying t = some (.map 3 el)) {page : Int} (hk : rng page) (ty : TypeId) :
    ∃ w', (Builtin.delete_ #[t, 3] ty #[.map (some b), .int .i64 page]).run Try.prog w = .ok (.tuple #[]) w' ∧ MapI R e w' b n (updI f page none) ∧ w.grownBy w' (some b) := by
  obtain ⟨D, h1, h2, h3⟩ := h
  obtain ⟨w', h4, h5, h6⟩ := h1.drop keyedI ht (keyI hk) ty
  refine ⟨w', h4, ⟨_, h5, fun k => ?_, fun k => ?_⟩, h6.grown⟩
  · by_cases hkk : k = page
    · subst hkk
      rw [Maps.atKey_del_same, updI_same]
    · rw [Maps.atKey_del_other (kI_ne hkk), updI_other _ _ hkk, h2]
  · by_cases hkk : k = page
    · subst hkk
      rw [Maps.has_del_same, updI_same]
      rfl
    · rw [Maps.has_del_other (kI_ne hkk), updI_other _ _ hkk, h3]
end
end Go.Proofs.Ytcecfageijkifaa.Po
