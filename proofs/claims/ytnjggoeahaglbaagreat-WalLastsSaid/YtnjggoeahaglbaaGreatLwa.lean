/- The program's log: its memory; the small calls on it. -/
import Derived.Test.YtnjggoeahaglbaaGreatWq
import Derived.Test.YtnjggoeahaglbaaGreatDk
import Derived.Test.YtnjggoeahaglbaaGreatFa
import Derived.Deep.RegionHeld3
import Derived.Deep.QuietTactic
import Derived.Deep.RegionLaw
import Derived.Deep.DeepCutAuto
import Derived.Deep.CutBlock
import Derived.LoopTactic
import Derived.StillTailTactics
namespace Go.Proofs.YtnjggoeahaglbaaGreat.Wa
open Go.ChangeShapes Go.WideShapes Go.ChangeAt Go.RowKit
open Fr
set_option linter.unusedVariables false
set_option linter.unusedSimpArgs false
set_option maxRecDepth 100000
/-- A log: where it lies, its epoch, its end, its records' bytes, how many are durable. -/
structure Lg where
  first : Nat
  sectors : Nat
  epoch : Int
  fin : Nat
  recs : List BA
  dur : Nat
abbrev wfn (p : Nat) : Value := .func (.func 43) #[.pointer (some ⟨p, 0, none⟩)] #[]
abbrev sfn (p : Nat) : Value := .func (.func 44) #[.pointer (some ⟨p, 0, none⟩)] #[]
abbrev rfn (p : Nat) : Value := .func (.func 40) #[.pointer (some ⟨p, 0, none⟩)] #[]
def gcs (p : Nat) (v : Value) (A : Lg) : Array Value := #[wfn p, sfn p, .int .i64 A.first, .int .i64 A.sectors, .int .i64 A.epoch, .int .i64 A.fin, v, .int .i64 A.dur]
/-- Sizes that the program reckons with. -/
structure GFits (A : Lg) : Prop where
  fi : A.first ≤ 10000
  s1 : A.sectors ≤ 4000
  fn : A.fin ≤ A.sectors
  dn : A.dur ≤ A.recs.length
  bl : A.recs.length ≤ 900000
  st : (strmB (A.recs.drop A.dur)).length ≤ 1000000
  sz : ∀ x ∈ A.recs, x.length ≤ 800000
  e0 : 1 ≤ A.epoch
  e1 : A.epoch ≤ 4294967295
def LgM (C q p : Nat) (v : Value) (A : Lg) (w : World) : Prop := Bx w q (gcs p v A) 89 ∧ OwnT C w v A.recs ∧ C ≤ q
theorem LgM.kept {C q p : Nat} {v : Value} {A : Lg} {w w' : World} (h : LgM C q p v A w) (hb : Below w.heap.size w w') : LgM C q p v A w' := ⟨h.1.held hb, h.2.1.kept hb, h.2.2⟩
theorem LgM.cells {C q p : Nat} {v : Value} {A : Lg} {w : World} (h : LgM C q p v A w) : w.cell? ⟨q, 0, none⟩ = some (wfn p) ∧ w.cell? ⟨q, 1, none⟩ = some (sfn p) ∧ w.cell? ⟨q, 2, none⟩ = some (.int .i64 A.first) ∧ w.cell? ⟨q, 3, none⟩ = some (.int .i64 A.sectors) ∧ w.cell? ⟨q, 4, none⟩ = some (.int .i64 A.epoch) ∧ w.cell? ⟨q, 5, none⟩ = some (.int .i64 A.fin) ∧ w.cell? ⟨q, 6, none⟩ = some v ∧ w.cell? ⟨q, 7, none⟩ = some (.int .i64 A.dur) :=
  ⟨h.1.cell 0, h.1.cell 1, h.1.cell 2, h.1.cell 3, h.1.cell 4, h.1.cell 5, h.1.cell 6, h.1.cell 7⟩
/-- What a call on a log leaves: all below C; all rows of other types, all rows of texts but its own. -/
structure GLeaves (C q : Nat) (v : Value) (w w' : World) : Prop where
  below : Below C w w'
  other : ∀ (k : Nat) (cs : Array Value) (t : TypeId) (fr : Nat × Nat), w.heap[k]? = some (.cells cs t fr) → t ≠ 78 → t ≠ 101 → t ≠ 103 → (t = 9 → v.ownBlock ≠ some k) → k ≠ q → w'.heap[k]? = w.heap[k]?
def Mv (v v' : Value) (w : World) : Prop := ∀ g, v'.ownBlock = some g → v.ownBlock = some g ∨ w.heap.size ≤ g
theorem Mv.refl (v : Value) (w : World) : Mv v v w := fun g h => .inl h
theorem Mv.trans {v v1 v2 : Value} {w w1 : World} (h : Mv v v1 w) (k : Mv v1 v2 w1) (hs : w.heap.size ≤ w1.heap.size) : Mv v v2 w := fun g hg => by
  rcases k g hg with h1 | h1
  · exact h g h1
  · exact .inr (Nat.le_trans hs h1)
theorem GLeaves.size {C q : Nat} {v : Value} {a b : World} (h : GLeaves C q v a b) : a.heap.size ≤ b.heap.size := h.below.size
theorem GLeaves.of_below {C q : Nat} {v : Value} {a b : World} (h : Below a.heap.size a b) (hC : C ≤ a.heap.size) : GLeaves C q v a b :=
  ⟨h.mono hC, fun k cs t fr hk _ _ _ _ _ => h.block k (Array.getElem?_eq_some_iff.1 hk).1⟩
theorem GLeaves.trans {C q : Nat} {v v' : Value} {a b c : World} (h : GLeaves C q v a b) (k : GLeaves C q v' b c) (hm : Mv v v' a) : GLeaves C q v a c :=
  ⟨h.below.trans k.below, fun i cs t fr hi h1 h2 h3 h4 h5 => by
    have e := h.other i cs t fr hi h1 h2 h3 h4 h5
    refine (k.other i cs t fr (e.trans hi) h1 h2 h3 (fun ht hg => ?_) h5).trans e
    rcases hm i hg with h6 | h6
    · exact h4 ht h6
    · have := (Array.getElem?_eq_some_iff.1 hi).1
      omega⟩
theorem GLeaves.of_disk {C q : Nat} {v : Value} {a b : World} (h : Dk.Leaves C a b) : GLeaves C q v a b := ⟨h.below, fun k cs t fr hi h1 h2 h3 _ _ => h.other k cs t fr hi h1 h2 h3⟩
/-- A row of texts through a call on a disk. -/
theorem ownT_disk {B C : Nat} {v : Value} {l : List BA} {w w' : World} (h : OwnT B w v l) (hl : Dk.Leaves C w w') : OwnT B w' v l := by
  refine owns_kept2 h fun g hg => ?_
  rcases h.2 with ⟨e, _⟩ | ⟨g', cap, cur, e, _, h3, _⟩
  · rw [e] at hg; simp [Value.ownBlock] at hg
  · rw [e] at hg
    simp only [Value.ownBlock, Option.some.injEq] at hg
    subst hg
    exact hl.other _ _ _ _ h3 (by decide) (by decide) (by decide)
theorem LgM.disk {C D q p : Nat} {v : Value} {A : Lg} {w w' : World} (h : LgM C q p v A w) (hl : Dk.Leaves D w w') : LgM C q p v A w' :=
  ⟨(hl.other _ _ _ _ h.1 (by decide) (by decide) (by decide)).trans h.1, ownT_disk h.2.1 hl, h.2.2⟩
set_option maxHeartbeats 400000 in
theorem open_yes {q p : Nat} (w : World) (h : w.cell? ⟨q, 0, none⟩ = some (wfn p)) : Calls Tryz.prog 47 #[.pointer (some ⟨q, 0, none⟩)] w fun e w' => e = .returned (.bool true) ∧ w = w' := by
  have en : ∀ w, (binOp .neq 87 (wfn p) .nilFunc).run Tryz.prog w = .ok (.bool true) w := fun w => rfl
  go_enter Tryz.func47, Tryz.ntmps47
  go_wp2_with fail
  go_ret
  exact ⟨rfl, rfl⟩
set_option maxHeartbeats 400000 in
theorem open_nil (w : World) : Calls Tryz.prog 47 #[.pointer none] w fun e w' => e = .returned (.bool false) ∧ w = w' := by
  go_enter Tryz.func47, Tryz.ntmps47
  go_wp2_with fail
  go_ret
  exact ⟨rfl, rfl⟩
set_option maxHeartbeats 400000 in
theorem last_is {q : Nat} {a : Option Addr} {n c : Nat} (w : World) (h : w.cell? ⟨q, 6, none⟩ = some (.slice a n c)) : Calls Tryz.prog 28 #[.pointer (some ⟨q, 0, none⟩)] w fun e w' => e = .returned (.int .i64 n) ∧ w = w' := by
  go_enter Tryz.func28, Tryz.ntmps28
  go_wp2_with fail
  go_ret
  exact ⟨rfl, rfl⟩
set_option maxHeartbeats 400000 in
theorem durable_is {q : Nat} {n : Int} (w : World) (h : w.cell? ⟨q, 7, none⟩ = some (.int .i64 n)) : Calls Tryz.prog 29 #[.pointer (some ⟨q, 0, none⟩)] w fun e w' => e = .returned (.int .i64 n) ∧ w = w' := by
  go_enter Tryz.func29, Tryz.ntmps29
  go_wp2_with fail
  go_ret
  exact ⟨rfl, rfl⟩
set_option maxHeartbeats 400000 in
theorem epoch_is {q : Nat} {n : Int} (w : World) (h : w.cell? ⟨q, 4, none⟩ = some (.int .i64 n)) : Calls Tryz.prog 32 #[.pointer (some ⟨q, 0, none⟩)] w fun e w' => e = .returned (.int .i64 n) ∧ w = w' := by
  go_enter Tryz.func32, Tryz.ntmps32
  go_wp2_with fail
  go_ret
  exact ⟨rfl, rfl⟩
def withinB (f s : Int) (a : Nat) : Bool := decide (1 ≤ s ∧ s ≤ 4000 ∧ 0 ≤ f ∧ f ≤ (a : Int) - s)
set_option maxHeartbeats 1000000 in
theorem within_is (f s : Int) (a : Nat) (ha : a ≤ 10000) (w : World) : Calls Tryz.prog 37 #[.int .i64 f, .int .i64 s, .int .i64 (a : Int)] w fun e w' => e = .returned (.bool (withinB f s a)) ∧ w = w' := by
  by_cases h1 : 1 ≤ s
  case neg =>
    have hb : withinB f s a = false := decide_eq_false (by omega)
    rw [hb]; clear hb
    go_enter Tryz.func37, Tryz.ntmps37
    go_wp2_with fail
    go_ret
    exact ⟨rfl, rfl⟩
  by_cases h2 : s ≤ 4000
  case neg =>
    have hb : withinB f s a = false := decide_eq_false (by omega)
    rw [hb]; clear hb
    go_enter Tryz.func37, Tryz.ntmps37
    go_wp2_with fail
    go_ret
    exact ⟨rfl, rfl⟩
  have e1 : IntKind.i64.wrap ((a : Int) - s) = (a : Int) - s := IntWalk.i64_in _ (by omega)
  by_cases h3 : 0 ≤ f
  case neg =>
    have hb : withinB f s a = false := decide_eq_false (by omega)
    rw [hb]; clear hb
    go_enter Tryz.func37, Tryz.ntmps37
    go_wp2_with fail
    go_ret
    exact ⟨rfl, rfl⟩
  by_cases h4 : f ≤ (a : Int) - s
  case neg =>
    have hb : withinB f s a = false := decide_eq_false (by omega)
    rw [hb]; clear hb
    go_enter Tryz.func37, Tryz.ntmps37
    go_wp2_with fail
    go_ret
    exact ⟨rfl, rfl⟩
  have hb : withinB f s a = true := decide_eq_true (by omega)
  rw [hb]; clear hb
  go_enter Tryz.func37, Tryz.ntmps37
  go_wp2_with fail
  go_ret
  exact ⟨rfl, rfl⟩
set_option maxHeartbeats 1000000 in
theorem left_is {C q p : Nat} {v : Value} {A : Lg} (w : World) (h : LgM C q p v A w) (hf : GFits A) :
    Calls Tryz.prog 30 #[.pointer (some ⟨q, 0, none⟩)] w fun e w' => e = .returned (.int .i64 ((A.sectors : Int) - (A.fin : Int) - (cntB (A.recs.drop A.dur) : Int))) ∧ Below w.heap.size w w' := by
  obtain ⟨f0, f1, f2, f3, f4, f5, f6, _, _⟩ := hf
  obtain ⟨x0, x1, x2, x3, x4, x5, x6, x7⟩ := h.cells
  obtain ⟨hx, hB, hC⟩ := h
  obtain ⟨vA, vc, rfl⟩ := hB.shape
  have htx := (hB.txt (fun x hx => Nat.le_trans (f6 x hx) (by unfold maxLen; omega)) (by unfold maxLen; omega)).2
  have hcap := hB.cap
  have HD := Lib.hid (htx.drop (k := A.dur) (cap := vc) f3 hcap)
  have CO := Lib.hid (fun (u : World) (hb : Below w.heap.size w u) => count_b (c := vc - A.dur) u (HD.out.kept hb) (by omega))
  have hcl := cut_lo vA A.recs.length vc A.dur f3
  have hcn : cntB (A.recs.drop A.dur) ≤ 1000000 := by unfold cntB; split <;> omega
  have hc3 := fun u (hh : Held w u) => hh.cell x3
  have hc5 := fun u (hh : Held w u) => hh.cell x5
  have hc6 := fun u (hh : Held w u) => hh.cell x6
  have hc7 := fun u (hh : Held w u) => hh.cell x7
  generalize cntB (A.recs.drop A.dur) = K at *
  have e1 : IntKind.i64.wrap ((A.sectors : Int) - (A.fin : Int)) = (A.sectors : Int) - (A.fin : Int) := IntWalk.i64_in _ (by omega)
  have e2 : IntKind.i64.wrap ((A.sectors : Int) - (A.fin : Int) - (K : Int)) = (A.sectors : Int) - (A.fin : Int) - (K : Int) := IntWalk.i64_in _ (by omega)
  have HCO := Lib.hid (fun (u : World) (hh : Held w u) => CO.out u hh)
  clear x0 x1 x2 x3 x4 x5 x6 x7 hx hB htx HD CO
  generalize A.sectors = S at *
  generalize A.fin = X at *
  generalize A.recs.length = bl at *
  generalize A.dur = N at *
  go_enter Tryz.func30, Tryz.ntmps30
  go_wp2_with fail
  go_region_held3 (fun u => Held w u) (first | exact Held.start _ | exact Held.step (by assumption) (by assumption) | assumption) (first
    | (go_at_call 49; refine (HCO.out _ (by assumption)).mono ?_; rintro e u ⟨rfl, hb⟩))
  have HH := Lib.hid ‹Held w _›
  go_wp2_with fail
  go_ret
  exact ⟨rfl, HH.out⟩
end Go.Proofs.YtnjggoeahaglbaaGreat.Wa
