/- Lists of numbers, patches, transactions, pages in memory; a record in memory. -/
import Derived.Test.YtbmnagfjpenemaaGreatDoorChecked
import Derived.Test.YtbmnagfjpenemaaGreatDoorRows
import Derived.Test.YtbmnagfjpenemaaGreatDoorRead
namespace Go.Proofs.YtbmnagfjpenemaaGreatDoor
open Go.ChangeShapes Go.WideShapes Go.ChangeAt Go.RowKit
set_option linter.unusedVariables false
set_option linter.unusedSimpArgs false
set_option maxRecDepth 100000
def rng (v : Int) : Prop := -9223372036854775808 ≤ v ∧ v ≤ 9223372036854775807
/-! A block, as it is. -/
def Bx (w : World) (B : Nat) (cs : Array Value) (t : TypeId) : Prop := w.heap[B]? = some (.cells cs t (0, 0))
theorem Bx.new (w : World) (cs : Array Value) (t : TypeId) : Bx (w.alloc (.cells cs t)) w.heap.size cs t := heap_alloc_new w _
theorem Bx.lt {w : World} {B : Nat} {cs : Array Value} {t : TypeId} (h : Bx w B cs t) : B < w.heap.size := block_of_heap h
theorem Bx.kept {w w' : World} {B C : Nat} {cs : Array Value} {t : TypeId} (h : Bx w B cs t) (hb : Below C w w') (hB : B < C) : Bx w' B cs t := (hb.block B hB).trans h
theorem Bx.held {w w' : World} {B : Nat} {cs : Array Value} {t : TypeId} (h : Bx w B cs t) (hb : Below w.heap.size w w') : Bx w' B cs t := h.kept hb h.lt
theorem Bx.only {w w' : World} {B C p : Nat} {cs : Array Value} {t : TypeId} (h : Bx w B cs t) (ho : Only C p w w') (hp : B ≠ p) (ht : t ≠ 5) : Bx w' B cs t := ho.typed B cs t _ hp ht h
theorem Bx.cell {w : World} {B : Nat} {cs : Array Value} {t : TypeId} (h : Bx w B cs t) (i : Nat) : w.cell? ⟨B, i, none⟩ = cs[i]? := cell_of_row _ _ _ _ _ _ h
theorem Bx.free {w : World} {B : Nat} {cs : Array Value} {t : TypeId} (h : Bx w B cs t) (i : Nat) : w.frozen? ⟨B, i, none⟩ = false := frozen_of_heap _ _ _ _ _ h
theorem Bx.alloc {w : World} {B : Nat} {cs : Array Value} {t : TypeId} (h : Bx w B cs t) (o : Obj) : Bx (w.alloc o) B cs t := (Below.heap_alloc w o B h.lt).trans h
/-! Lists that came in, or were made: all below C. -/
def IntsM (C : Nat) (w : World) (A : Option Addr) (n : Nat) (l : List Int) : Prop :=
  l.length = n ∧ n ≤ maxLen ∧ ∀ k, k < n → ∃ b off, A = some ⟨b, off, none⟩ ∧ b < C ∧ w.cell? ⟨b, off + k, none⟩ = some (.int .i64 (l.getD k 0)) ∧ rng (l.getD k 0)
def PtAt (w : World) (b off : Nat) (p : Pt) : Prop := w.cell? ⟨b, off, none⟩ = some (.int .i64 p.pg) ∧ w.cell? ⟨b, off + 1, none⟩ = some (.int .i64 p.ofs) ∧ w.cell? ⟨b, off + 2, none⟩ = some (.string p.bs)
def PtW (p : Pt) : Prop := rng p.pg ∧ rng p.ofs ∧ p.bs.size ≤ maxLen
def PtsM (C : Nat) (w : World) (A : Option Addr) (n : Nat) (l : List Pt) : Prop :=
  l.length = n ∧ n ≤ maxLen ∧ ∀ k, k < n → ∃ b off, A = some ⟨b, off, none⟩ ∧ b < C ∧ PtAt w b (off + k * 3) (l.getD k nilP) ∧ PtW (l.getD k nilP)
def DyAt (w : World) (b off : Nat) (d : Dy) : Prop := w.cell? ⟨b, off, none⟩ = some (.int .i64 d.page) ∧ w.cell? ⟨b, off + 1, none⟩ = some (.int .i64 d.lsn)
def DyW (d : Dy) : Prop := rng d.page ∧ rng d.lsn
def DysM (C : Nat) (w : World) (A : Option Addr) (n : Nat) (l : List Dy) : Prop :=
  l.length = n ∧ n ≤ maxLen ∧ ∀ k, k < n → ∃ b off, A = some ⟨b, off, none⟩ ∧ b < C ∧ DyAt w b (off + k * 2) (l.getD k nilD) ∧ DyW (l.getD k nilD)
def TxAt (C : Nat) (w : World) (b off : Nat) (t : Tx) : Prop := w.cell? ⟨b, off, none⟩ = some (.int .i64 t.id) ∧ w.cell? ⟨b, off + 1, none⟩ = some (.int .i64 t.last) ∧ w.cell? ⟨b, off + 2, none⟩ = some (.bool t.com) ∧ ∃ A n c, w.cell? ⟨b, off + 3, none⟩ = some (.slice A n c) ∧ IntsM C w A n t.pages
def TxW (t : Tx) : Prop := rng t.id ∧ rng t.last
def TxsM (C : Nat) (w : World) (A : Option Addr) (n : Nat) (l : List Tx) : Prop :=
  l.length = n ∧ n ≤ maxLen ∧ ∀ k, k < n → ∃ b off, A = some ⟨b, off, none⟩ ∧ b < C ∧ TxAt C w b (off + k * 4) (l.getD k nilT) ∧ TxW (l.getD k nilT)
theorem cell_kept {C : Nat} {w w' : World} (hb : Below C w w') {b off : Nat} (hC : b < C) {v : Value} (h : w.cell? ⟨b, off, none⟩ = some v) : w'.cell? ⟨b, off, none⟩ = some v := (hb.cell (p := ⟨b, off, none⟩) hC).trans h
theorem IntsM.kept {C : Nat} {w w' : World} {A : Option Addr} {n : Nat} {l : List Int} (h : IntsM C w A n l) (hb : Below C w w') : IntsM C w' A n l :=
  ⟨h.1, h.2.1, fun k hk => by
    obtain ⟨b, off, h1, h2, h3, h4⟩ := h.2.2 k hk
    exact ⟨b, off, h1, h2, cell_kept hb h2 h3, h4⟩⟩
theorem IntsM.more {C D : Nat} {w : World} {A : Option Addr} {n : Nat} {l : List Int} (h : IntsM C w A n l) (hD : C ≤ D) : IntsM D w A n l :=
  ⟨h.1, h.2.1, fun k hk => by
    obtain ⟨b, off, h1, h2, h3⟩ := h.2.2 k hk
    exact ⟨b, off, h1, Nat.lt_of_lt_of_le h2 hD, h3⟩⟩
theorem IntsM.nil (C : Nat) (w : World) (A : Option Addr) : IntsM C w A 0 [] := ⟨rfl, Nat.zero_le _, fun k hk => absurd hk (Nat.not_lt_zero _)⟩
theorem PtAt.kept {C : Nat} {w w' : World} {b off : Nat} {p : Pt} (h : PtAt w b off p) (hC : b < C) (hb : Below C w w') : PtAt w' b off p :=
  ⟨cell_kept hb hC h.1, cell_kept hb hC h.2.1, cell_kept hb hC h.2.2⟩
theorem PtsM.kept {C : Nat} {w w' : World} {A : Option Addr} {n : Nat} {l : List Pt} (h : PtsM C w A n l) (hb : Below C w w') : PtsM C w' A n l :=
  ⟨h.1, h.2.1, fun k hk => by
    obtain ⟨b, off, h1, h2, h3, h4⟩ := h.2.2 k hk
    exact ⟨b, off, h1, h2, h3.kept h2 hb, h4⟩⟩
theorem PtsM.more {C D : Nat} {w : World} {A : Option Addr} {n : Nat} {l : List Pt} (h : PtsM C w A n l) (hD : C ≤ D) : PtsM D w A n l :=
  ⟨h.1, h.2.1, fun k hk => by
    obtain ⟨b, off, h1, h2, h3⟩ := h.2.2 k hk
    exact ⟨b, off, h1, Nat.lt_of_lt_of_le h2 hD, h3⟩⟩
theorem PtsM.nil (C : Nat) (w : World) (A : Option Addr) : PtsM C w A 0 [] := ⟨rfl, Nat.zero_le _, fun k hk => absurd hk (Nat.not_lt_zero _)⟩
theorem DyAt.kept {C : Nat} {w w' : World} {b off : Nat} {p : Dy} (h : DyAt w b off p) (hC : b < C) (hb : Below C w w') : DyAt w' b off p :=
  ⟨cell_kept hb hC h.1, cell_kept hb hC h.2⟩
theorem DysM.kept {C : Nat} {w w' : World} {A : Option Addr} {n : Nat} {l : List Dy} (h : DysM C w A n l) (hb : Below C w w') : DysM C w' A n l :=
  ⟨h.1, h.2.1, fun k hk => by
    obtain ⟨b, off, h1, h2, h3, h4⟩ := h.2.2 k hk
    exact ⟨b, off, h1, h2, h3.kept h2 hb, h4⟩⟩
theorem DysM.more {C D : Nat} {w : World} {A : Option Addr} {n : Nat} {l : List Dy} (h : DysM C w A n l) (hD : C ≤ D) : DysM D w A n l :=
  ⟨h.1, h.2.1, fun k hk => by
    obtain ⟨b, off, h1, h2, h3⟩ := h.2.2 k hk
    exact ⟨b, off, h1, Nat.lt_of_lt_of_le h2 hD, h3⟩⟩
theorem DysM.nil (C : Nat) (w : World) (A : Option Addr) : DysM C w A 0 [] := ⟨rfl, Nat.zero_le _, fun k hk => absurd hk (Nat.not_lt_zero _)⟩
theorem TxAt.kept {C : Nat} {w w' : World} {b off : Nat} {p : Tx} (h : TxAt C w b off p) (hC : b < C) (hb : Below C w w') : TxAt C w' b off p := by
  obtain ⟨h1, h2, h3, A, n, c, h4, h5⟩ := h
  exact ⟨cell_kept hb hC h1, cell_kept hb hC h2, cell_kept hb hC h3, A, n, c, cell_kept hb hC h4, h5.kept hb⟩
theorem TxAt.more {C D : Nat} {w : World} {b off : Nat} {p : Tx} (h : TxAt C w b off p) (hD : C ≤ D) : TxAt D w b off p := by
  obtain ⟨h1, h2, h3, A, n, c, h4, h5⟩ := h
  exact ⟨h1, h2, h3, A, n, c, h4, h5.more hD⟩
theorem TxsM.kept {C : Nat} {w w' : World} {A : Option Addr} {n : Nat} {l : List Tx} (h : TxsM C w A n l) (hb : Below C w w') : TxsM C w' A n l :=
  ⟨h.1, h.2.1, fun k hk => by
    obtain ⟨b, off, h1, h2, h3, h4⟩ := h.2.2 k hk
    exact ⟨b, off, h1, h2, h3.kept h2 hb, h4⟩⟩
theorem TxsM.more {C D : Nat} {w : World} {A : Option Addr} {n : Nat} {l : List Tx} (h : TxsM C w A n l) (hD : C ≤ D) : TxsM D w A n l :=
  ⟨h.1, h.2.1, fun k hk => by
    obtain ⟨b, off, h1, h2, h3, h4⟩ := h.2.2 k hk
    exact ⟨b, off, h1, Nat.lt_of_lt_of_le h2 hD, h3.more hD, h4⟩⟩
theorem TxsM.nil (C : Nat) (w : World) (A : Option Addr) : TxsM C w A 0 [] := ⟨rfl, Nat.zero_le _, fun k hk => absurd hk (Nat.not_lt_zero _)⟩
/-! Values. -/
def ptv (p : Pt) : Value := .agg #[.int .i64 p.pg, .int .i64 p.ofs, .string p.bs]
def dyv (d : Dy) : Value := .agg #[.int .i64 d.page, .int .i64 d.lsn]
def txv (t : Tx) (A : Option Addr) (n c : Nat) : Value := .agg #[.int .i64 t.id, .int .i64 t.last, .bool t.com, .slice A n c]
def clv (c : Cl) : Value := .agg #[.string c.k, .string c.v, .int .i64 c.b, .int .i64 c.z]
/-- A slice's parts. -/
structure Sl where
  A : Option Addr
  n : Nat
  c : Nat
def sl0 : Sl := ⟨none, 0, 0⟩
/-- Where a record's lists are. -/
structure Hd where
  g : Sl
  p : Sl
  t : Sl
  d : Sl
def hd0 : Hd := ⟨sl0, sl0, sl0, sl0⟩
def rcv (r : Rc) (h : Hd) : Value := .agg #[.int .i64 r.kind, .int .i64 r.tx, .int .i64 r.prev, .int .i64 r.next, .string r.key, .bool r.had, .string r.old.k, .string r.old.v, .int .i64 r.old.b, .int .i64 r.old.z, .slice h.g.A h.g.n h.g.c, .slice h.p.A h.p.n h.p.c, .slice h.t.A h.t.n h.t.c, .slice h.d.A h.d.n h.d.c]
/-- A record's cells. -/
def rcs (r : Rc) (h : Hd) : Array Value := #[.int .i64 r.kind, .int .i64 r.tx, .int .i64 r.prev, .int .i64 r.next, .string r.key, .bool r.had, .string r.old.k, .string r.old.v, .int .i64 r.old.b, .int .i64 r.old.z, .slice h.g.A h.g.n h.g.c, .slice h.p.A h.p.n h.p.c, .slice h.t.A h.t.n h.t.c, .slice h.d.A h.d.n h.d.c]
def ClW (c : Cl) : Prop := rng c.b ∧ rng c.z ∧ c.k.size ≤ maxLen ∧ c.v.size ≤ maxLen
/-- A record reads as r. -/
structure RcM (C : Nat) (w : World) (r : Rc) (h : Hd) : Prop where
  kind : rng r.kind
  tx : rng r.tx
  prev : rng r.prev
  next : rng r.next
  key : r.key.size ≤ maxLen
  old : ClW r.old
  g : IntsM C w h.g.A h.g.n r.pages
  p : PtsM C w h.p.A h.p.n r.pts
  t : TxsM C w h.t.A h.t.n r.txs
  d : DysM C w h.d.A h.d.n r.dys
theorem RcM.kept {C : Nat} {w w' : World} {r : Rc} {h : Hd} (k : RcM C w r h) (hb : Below C w w') : RcM C w' r h :=
  ⟨k.kind, k.tx, k.prev, k.next, k.key, k.old, k.g.kept hb, k.p.kept hb, k.t.kept hb, k.d.kept hb⟩
theorem RcM.more {C D : Nat} {w : World} {r : Rc} {h : Hd} (k : RcM C w r h) (hD : C ≤ D) : RcM D w r h :=
  ⟨k.kind, k.tx, k.prev, k.next, k.key, k.old, k.g.more hD, k.p.more hD, k.t.more hD, k.d.more hD⟩
theorem zero_rng : rng 0 := by unfold rng; omega
theorem RcM.zero (C : Nat) (w : World) : RcM C w nilR hd0 :=
  ⟨zero_rng, zero_rng, zero_rng, zero_rng, Nat.zero_le _, ⟨zero_rng, zero_rng, Nat.zero_le _, Nat.zero_le _⟩, IntsM.nil _ _ _, PtsM.nil _ _ _, TxsM.nil _ _ _, DysM.nil _ _ _⟩
theorem getD_mem' {α : Type} {l : List α} {k : Nat} (d : α) (h : k < l.length) : l.getD k d ∈ l := by
  rw [List.getD_eq_getElem?_getD, List.getElem?_eq_getElem h]; exact List.getElem_mem h
theorem getD_at {α : Type} {l : List α} {k : Nat} {d : α} (h : k < l.length) : l.getD k d = l[k] := by simp [List.getD, h]
theorem take_snoc {α : Type} (l : List α) (k : Nat) (d : α) (h : k < l.length) : l.take (k + 1) = l.take k ++ [l.getD k d] := by
  rw [getD_at h, List.take_succ_eq_append_getElem h]
end Go.Proofs.YtbmnagfjpenemaaGreatDoor
