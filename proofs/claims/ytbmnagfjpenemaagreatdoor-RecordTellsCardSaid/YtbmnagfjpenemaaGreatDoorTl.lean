/- What RecordTells rests on: rows of the record's lists as rows of the book; the seven names. -/
import Derived.Test.YtbmnagfjpenemaaGreatDoorBks
import Derived.Test.YtbmnagfjpenemaaGreatDoorRpt
import Derived.Test.YtbmnagfjpenemaaGreatDoorRts
import Derived.Test.YtbmnagfjpenemaaGreatDoorTurn
import Derived.Test.YtbmnagfjpenemaaGreatDoorLight
import Derived.Test.YtbmnagfjpenemaaGreatDoorBase
import Derived.Test.YtbmnagfjpenemaaGreatDoorEvery
namespace Go.Proofs.YtbmnagfjpenemaaGreatDoor
open Go.ChangeShapes Go.WideShapes Go.ChangeAt Go.RowKit
set_option linter.unusedVariables false
set_option linter.unusedSimpArgs false
set_option maxRecDepth 100000
theorem ics_kI (l : List Int) : Bk.kI.cs l = ics l := by
  induction l with
  | nil => rfl
  | cons x l ih => rw [Bk.kI.cs_cons, ih]; rfl
theorem RowI.bk {B C : Nat} {w : World} {s : Sl} {l : List Int} (h : RowI B w s l) (hC : C ≤ B) : Bk.Row Bk.kI C w ⟨s.A, s.n, s.c⟩ l :=
  ⟨h.1, by
    have := Bk.own_base h.2 hC
    rw [← ics_kI] at this
    exact this⟩
theorem RowP.bk {B C : Nat} {w : World} {s : Sl} {l : List Pt} (h : RowP B w s l) (hC : C ≤ B) : Bk.Row Bk.kP C w ⟨s.A, s.n, s.c⟩ l := ⟨h.1, Bk.own_base h.2 hC⟩
theorem RowD.bk {B C : Nat} {w : World} {s : Sl} {l : List Dy} (h : RowD B w s l) (hC : C ≤ B) : Bk.Row Bk.kD C w ⟨s.A, s.n, s.c⟩ l := ⟨h.1, Bk.own_base h.2 hC⟩
theorem RowT.bk {B C : Nat} {w : World} {s : Sl} {l : List Tx} {ss : List Sl} (h : RowT B w s l ss) (hC : C ≤ B) : Bk.Row Bk.kT C w ⟨s.A, s.n, s.c⟩ (l.zip ss) :=
  ⟨by rw [List.length_zip, h.2.1, Nat.min_self]; exact h.1, Bk.own_base h.2.2.1 hC⟩
theorem RowT.pgs {B : Nat} {w : World} {s : Sl} {l : List Tx} {ss : List Sl} (h : RowT B w s l ss) (hl : ∀ t ∈ l, (∀ p ∈ t.pages, rng p) ∧ t.pages.length ≤ 1000000 ∧ rng t.id ∧ rng t.last) : Bk.PgsAt w (l.zip ss) := by
  intro x hx
  obtain ⟨j, hj, rfl⟩ := List.getElem_of_mem hx
  rw [List.length_zip] at hj
  have hjl : j < l.length := by omega
  have hjs : j < ss.length := by omega
  rw [List.getElem_zip]
  have hr := h.2.2.2 j hjl
  rw [getD_at hjl, getD_at hjs] at hr
  obtain ⟨q1, q2, q3, q4⟩ := hl _ (List.getElem_mem hjl)
  exact ⟨hr.bk (Nat.le_refl _), q1, by rw [show (ss[j]).n = _ from hr.1]; exact q2, q3, q4⟩
theorem zip_fst {l : List Tx} {ss : List Sl} (h : ss.length = l.length) : (l.zip ss).map Prod.fst = l := by
  rw [List.map_fst_zip]
  omega
theorem compact_mem {zs : List Int} {x : Int} (h : x ∈ Lib.compact zs) : x ∈ zs := by
  unfold Lib.compact Lib.compactUpTo at h
  obtain ⟨j, hj, rfl⟩ := List.mem_map.1 h
  have hj' : j < zs.length := List.mem_range.1 (List.mem_filter.1 hj).1
  have e : zs.toArray[j]! = zs[j] := by simp [hj']
  rw [e]
  exact List.getElem_mem hj'
theorem touch_mem {r : Rc} {x : Int} (h : x ∈ touchL r) : ∃ p ∈ r.pts, p.pg = x := by
  have h1 := compact_mem h
  have h2 := (List.mergeSort_perm (r.pts.map Pt.pg) _).mem_iff.1 h1
  obtain ⟨p, hp, e⟩ := List.mem_map.1 h2
  exact ⟨p, hp, e⟩
theorem touch_len (r : Rc) : (touchL r).length ≤ r.pts.length := by
  unfold touchL
  have h1 := Lib.compact_length_le (asc (r.pts.map Pt.pg))
  rw [asc_length, List.length_map] at h1
  exact h1
theorem pts_all {C : Nat} {w : World} {A : Option Addr} {n : Nat} {l : List Pt} (h : PtsM C w A n l) : ∀ p ∈ l, PtW p := by
  intro p hp
  obtain ⟨j, hj, rfl⟩ := List.getElem_of_mem hp
  obtain ⟨_, _, _, _, _, hw⟩ := h.2.2 j (by rw [← h.1]; exact hj)
  rw [getD_at hj] at hw
  exact hw
theorem touch_rng {C : Nat} {w : World} {r : Rc} {h : Hd} (hr : RcM C w r h) : ∀ x ∈ touchL r, rng x := by
  intro x hx
  obtain ⟨p, hp, rfl⟩ := touch_mem hx
  exact (pts_all hr.p p hp).1
theorem RcO.kt {B D : Nat} {T : TypeId → Prop} {w w' : World} {r : Rc} {h : Hd} (k : RcO B w r h) (q : Bk.KT D T w w') (h1 : T 3) (h2 : T 59) (h3 : T 61) (h4 : T 74) : RcO B w' r h := by
  obtain ⟨a, b, ⟨ss, c⟩, d⟩ := k
  exact ⟨⟨a.1, Bk.owns_kt a.2 q h1⟩, ⟨b.1, Bk.owns_kt b.2 q h2⟩, ⟨ss, c.1, c.2.1, Bk.owns_kt c.2.2.1 q h3, fun j hj => ⟨(c.2.2.2 j hj).1, Bk.owns_kt (c.2.2.2 j hj).2 q h1⟩⟩, ⟨d.1, Bk.owns_kt d.2 q h4⟩⟩
/-- What a right record's parts are. -/
theorem right_parts {r : Rc} (h : rightR r = true) : (r.pages.length ≤ 64 ∧ ∀ x ∈ r.pages, rng x) ∧ r.pts.length ≤ 40 ∧ (r.txs.length ≤ 8 ∧ ∀ t ∈ r.txs, (∀ p ∈ t.pages, rng p) ∧ t.pages.length ≤ 1000000 ∧ rng t.id ∧ rng t.last) ∧ r.dys.length ≤ 64 ∧ ∀ x ∈ r.dys, DyW x := by
  have R := rightR_iff.1 h
  obtain ⟨g1, g2⟩ := everyB_iff.1 R.pages
  obtain ⟨p1, p2⟩ := everyB_iff.1 R.pts
  obtain ⟨t1, t2⟩ := everyB_iff.1 R.txs
  obtain ⟨d1, d2⟩ := everyB_iff.1 R.dys
  have two_rng : ∀ x, two x = true → rng x := fun x hx => by have := two_iff.1 hx; unfold rng; omega
  have four_rng : ∀ x, four x = true → rng x := fun x hx => by have := four_iff.1 hx; unfold rng; omega
  refine ⟨⟨g1, fun x hx => two_rng x (g2 x hx)⟩, p1, ⟨t1, fun t ht => ?_⟩, d1, fun x hx => ?_⟩
  · obtain ⟨a1, a2, a3⟩ := rightT_iff.1 (t2 t ht)
    obtain ⟨b1, b2⟩ := everyB_iff.1 a3
    exact ⟨fun p hp => two_rng p (b2 p hp), by omega, two_rng _ a1, four_rng _ a2⟩
  · obtain ⟨a1, a2⟩ := rightD_iff.1 (d2 x hx)
    exact ⟨two_rng _ a1, four_rng _ a2⟩
def nRow : List Value := (nmL.drop 1).map fun l => .string (str l)
theorem wpList_bs {P : Program} {w : World} {ops : Array Oper} {rest : List Oper} {o : Oper} {a : Act} {Q : Exit → Act → World → Prop} (hgd : o.guard = none) (t : TypeId) (n : Nat) (xs : Array (Nat × Operand)) (ho : o.op = .buildSlice t n xs)
    (vs : Array (Nat × Value)) (hv : (xs.map fun (i, x) => (i, a.eval x)) = vs) {v : Value} {w' : World} (hr : (Instr.buildSlice t n vs).run P w = .ok v w') (h : wpList P ops Q rest (a.put o.dst v) w') : wpList P ops Q (o :: rest) a w :=
  wpList_plain hgd fun _ hK => by
    unfold Oper.wp execOp
    simp only [ho, hv, Sem.run_bind, Sem.run_pure, Result.andThen_ok, hr]
    exact hK _ _ h
theorem run_nbs (w : World) : (Instr.buildSlice 34 7 #[(0, .string ⟨#[117, 112, 100, 97, 116, 101]⟩), (1, .string ⟨#[117, 110, 100, 111, 110, 101]⟩), (2, .string ⟨#[115, 116, 114, 117, 99, 116]⟩), (3, .string ⟨#[99, 111, 109, 109, 105, 116]⟩), (4, .string ⟨#[101, 110, 100]⟩), (5, .string ⟨#[97, 98, 111, 114, 116]⟩), (6, .string ⟨#[99, 104, 101, 99, 107]⟩)]).run Tryz.prog w = .ok (.slice (some ⟨w.heap.size, 0, none⟩) 7 7) (w.alloc (.cells nRow.toArray 9)) := by
  kernel_rfl
theorem nrow_at (w : World) (k : Nat) (hk : k < 7) : (w.alloc (.cells nRow.toArray 9)).cell? ⟨w.heap.size, k, none⟩ = some (.string (str (nm ((k : Int) + 1)))) := by
  rw [cell_of_row _ _ _ _ _ _ (heap_alloc_new w _)]
  have : k = 0 ∨ k = 1 ∨ k = 2 ∨ k = 3 ∨ k = 4 ∨ k = 5 ∨ k = 6 := by omega
  rcases this with rfl | rfl | rfl | rfl | rfl | rfl | rfl <;> rfl
/-- The name's own way through the law. -/
def NmP (V : World) (N : ByteArray) (z : Value) (wx : World) : Prop := z = .string N ∧ Held V wx
end Go.Proofs.YtbmnagfjpenemaaGreatDoor
