/- Lists of pages in memory: as handed in; as rows of a call's own. -/
import Derived.Test.YtoladghpoddlgaaPlain
import Derived.Test.YtoladghpoddlgaaChecked
import Derived.Test.YtoladghpoddlgaaRows
import Derived.WalkKit
import Derived.ProofKit
import Derived.IntWalk
import Derived.Below
import Derived.Carry
import Derived.OneCell
import Derived.LoopTactic
import Derived.BigQuiet
import Derived.RegionTactic
import Derived.Deep.QuietTactic
import Derived.Deep.OwnRows
import Derived.Deep.AppendLies
import Derived.Laws.BytesArg
import Derived.Laws.MakeOwn
import Derived.Laws.IdiomStrings
import Derived.SliceStrings
import Derived.Maps.AppendAt
import Derived.OwnWalk
import Derived.Laws.AppendOwn
import Derived.Deep.MidRow
namespace Go.Proofs.Ytoladghpoddlgaa
open Go.ChangeShapes Go.WideShapes Go.ChangeAt Go.RowKit
set_option linter.unusedVariables false
set_option linter.unusedSimpArgs false
set_option maxRecDepth 100000
/-! append of a whole slice onto a row of the call's own; the source may be nil or empty. -/
def Src (w : World) (size : Nat) (A : Option Addr) (m : Nat) (news : List Value) : Prop :=
  news.length = m * size ∧ (0 < m → ∃ ad, A = some ad ∧ ∀ j u, news[j]? = some u → w.cell? (ad.add j) = some u)
section
variable {P : Program} (w : World)
theorem run_append_src (t ty e : TypeId) (i : TypeInfo) (z : Value) (size bytes : Nat) (ht : P.underlying t = some (.slice e)) (hi : P.info? e = some i) (hz : i.zero = some z)
    (hsize : i.size = size) (hby : i.bytes = bytes) (hzs : z.cells.size = size) (hsz : 0 < size) (base : Nat)
    (v : Value) (n : Nat) (xs : List Value) (hown : w.ownsRow base e size v n xs)
    (A : Option Addr) (m c : Nat) (news : List Value) (hs : Src w size A m news) (h1 : ∀ u ∈ news, u.oneCell' = true)
    (h63 : n + m ≤ maxLen) (hbytes : (n + m) * bytes ≤ 140737488355328) (hbase : base ≤ w.heap.size) :
    ∃ v' w', (Builtin.append_ #[t, t] ty #[v, .slice A m c]).run P w = .ok v' w' ∧ w'.ownsRow base e size v' (n + m) (xs ++ news) ∧ w.grownBy w' v.ownBlock ∧ (v'.ownBlock = v.ownBlock ∨ v'.ownBlock = some w.heap.size) := by
  cases A with
  | some ad =>
    have hc : ∀ j u, news[j]? = some u → w.cell? (ad.add j) = some u := by
      intro j u hu
      by_cases h0 : m = 0
      · subst h0
        have : news = [] := List.eq_nil_of_length_eq_zero (by simpa using hs.1)
        subst this
        simp at hu
      · obtain ⟨ad', h, hc⟩ := hs.2 (by omega)
        simp only [Option.some.injEq] at h
        subst h
        exact hc j u hu
    obtain ⟨v', w', r1, r2, r3, _, r5⟩ := run_append_own_at (P := P) w base t ty e i z size bytes ht hi hz hsize hby hzs hsz v n xs hown ad m c news hs.1 hc h1 h63 hbytes hbase
    exact ⟨v', w', r1, r2, r3, r5⟩
  | none =>
    have h0 : m = 0 := by
      by_cases h : 0 < m
      · obtain ⟨_, h, _⟩ := hs.2 h
        cases h
      · omega
    subst h0
    have hn : news = [] := List.eq_nil_of_length_eq_zero (by simpa using hs.1)
    subst hn
    refine ⟨v, w, ?_, by simpa using hown, ⟨rfl, rfl, rfl, Nat.le_refl _, fun _ _ _ => rfl⟩, .inl rfl⟩
    rcases hown.2 with ⟨rfl, rfl⟩ | ⟨g, cap, cur, rfl, _, _, hle, _⟩
    · simp [Builtin.append_, run_underlying ht, sizeOf, typeInfo, hi, Builtin.lenOf, Builtin.firstCells]
    · simp [Builtin.append_, run_underlying ht, sizeOf, typeInfo, hi, Builtin.lenOf, Builtin.firstCells, hle, storeCells]
theorem wp_append_src {o : Oper} {a : Act} {K : Act → World → Prop} {Q : Exit → Act → World → Prop} (s x : Operand) (t : TypeId) (ho : o.op = .call { callee := .builtin .append, args := #[s, x], argTypes := #[t, t] })
    (e : TypeId) (i : TypeInfo) (z : Value) (size bytes : Nat) (ht : P.underlying t = some (.slice e)) (hi : P.info? e = some i) (hz : i.zero = some z)
    (hsize : i.size = size) (hby : i.bytes = bytes) (hzs : z.cells.size = size) (hsz : 0 < size) (base : Nat)
    (v : Value) (n : Nat) (xs : List Value) (hv : a.eval s = v) (hown : w.ownsRow base e size v n xs)
    (A : Option Addr) (m c : Nat) (news : List Value) (hx : a.eval x = .slice A m c) (hs : Src w size A m news) (h1 : ∀ u ∈ news, u.oneCell' = true)
    (h63 : n + m ≤ maxLen) (hbytes : (n + m) * bytes ≤ 140737488355328) (hbase : base ≤ w.heap.size)
    (h : ∀ v' w', w'.ownsRow base e size v' (n + m) (xs ++ news) → w.grownBy w' v.ownBlock → (v'.ownBlock = v.ownBlock ∨ v'.ownBlock = some w.heap.size) → K (a.put o.dst v') w') : o.wp P a w K Q := by
  obtain ⟨v', w', r1, r2, r3, r4⟩ := run_append_src (P := P) w t o.type e i z size bytes ht hi hz hsize hby hzs hsz base v n xs hown A m c news hs h1 h63 hbytes hbase
  unfold Oper.wp execOp
  simp only [ho, resolve, invoke, builtin, Sem.run_bind, Sem.run_pure, Result.andThen_ok, List.map_toArray, List.map_cons, List.map_nil, hv, hx, r1]
  exact h v' w' r2 r3 r4
theorem wpList_append_src {ops : Array Oper} {rest : List Oper} {o : Oper} {a : Act} {Q : Exit → Act → World → Prop} (hg : o.guard = none) (s x : Operand) (t : TypeId) (ho : o.op = .call { callee := .builtin .append, args := #[s, x], argTypes := #[t, t] })
    (e : TypeId) (i : TypeInfo) (z : Value) (size bytes : Nat) (ht : P.underlying t = some (.slice e)) (hi : P.info? e = some i) (hz : i.zero = some z)
    (hsize : i.size = size) (hby : i.bytes = bytes) (hzs : z.cells.size = size) (hsz : 0 < size) (base : Nat)
    (v : Value) (n : Nat) (xs : List Value) (hv : a.eval s = v) (hown : w.ownsRow base e size v n xs)
    (A : Option Addr) (m c : Nat) (news : List Value) (hx : a.eval x = .slice A m c) (hs : Src w size A m news) (h1 : ∀ u ∈ news, u.oneCell' = true)
    (h63 : n + m ≤ maxLen) (hbytes : (n + m) * bytes ≤ 140737488355328) (hbase : base ≤ w.heap.size)
    (h : ∀ v' w', w'.ownsRow base e size v' (n + m) (xs ++ news) → w.grownBy w' v.ownBlock → (v'.ownBlock = v.ownBlock ∨ v'.ownBlock = some w.heap.size) → wpList P ops Q rest (a.put o.dst v') w') : wpList P ops Q (o :: rest) a w :=
  wpList_plain hg fun _ hK => wp_append_src w s x t ho e i z size bytes ht hi hz hsize hby hzs hsz base v n xs hv hown A m c news hx hs h1 h63 hbytes hbase fun v' w' a b c => hK _ _ (h v' w' a b c)
end

theorem own_shape {w : World} {B e s n : Nat} {v : Value} {xs : List Value} (h : w.ownsRow B e s v n xs) : ∃ A c, v = .slice A n c := by
  rcases h.2 with ⟨rfl, rfl⟩ | ⟨g, cap, cur, rfl, _⟩
  · exact ⟨_, _, rfl⟩
  · exact ⟨_, _, rfl⟩
theorem own_base {w : World} {B D e s n : Nat} {v : Value} {xs : List Value} (h : w.ownsRow B e s v n xs) (hD : D ≤ B) : w.ownsRow D e s v n xs := by
  refine ⟨h.1, ?_⟩
  rcases h.2 with h | ⟨g, cap, cur, h1, h2, h3⟩
  · exact .inl h
  · exact .inr ⟨g, cap, cur, h1, Nat.le_trans hD h2, h3⟩
theorem owns_kept2 {w w' : World} {B e s n : Nat} {v : Value} {xs : List Value} (h : w.ownsRow B e s v n xs) (hk : ∀ g, v.ownBlock = some g → w'.heap[g]? = w.heap[g]?) : w'.ownsRow B e s v n xs := by
  refine ⟨h.1, ?_⟩
  rcases h.2 with h1 | ⟨g', cap, cur, rfl, h1, h2, h3⟩
  · exact .inl h1
  · exact .inr ⟨g', cap, cur, rfl, h1, (hk g' rfl).trans h2, h3⟩
theorem lent_cap {w : World} {B e s n g c m : Nat} {xs : List Value} (h : w.ownsRow B e s (.slice (some ⟨g, 0, none⟩) n c) m xs) : (m : Int) ≤ (c : Int) ∧ B ≤ g := by
  rcases h.2 with ⟨h2, _⟩ | ⟨g', cap, cur, h2, h3, h4, h5, _⟩
  · simp at h2
  · simp at h2
    obtain ⟨rfl, _, rfl⟩ := h2
    exact ⟨by omega, h3⟩

theorem add_plain (b o j : Nat) : (⟨b, o, none⟩ : Addr).add j = ⟨b, o + j, none⟩ := Addr.add_mid b o j
/-- A page, at this address. -/
def PgAt (w : World) (b off : Nat) (c : Pg) : Prop := w.cell? ⟨b, off, none⟩ = some (.int .i64 c.k) ∧ w.cell? ⟨b, off + 1, none⟩ = some (.int .i64 c.d) ∧ w.cell? ⟨b, off + 2, none⟩ = some (.int .i64 c.x) ∧ w.cell? ⟨b, off + 3, none⟩ = some (.string c.b)
theorem PgAt.kept {C : Nat} {w w' : World} {b off : Nat} {c : Pg} (h : PgAt w b off c) (hC : b < C) (hb : Below C w w') : PgAt w' b off c :=
  ⟨(hb.cell (p := ⟨b, off, none⟩) hC).trans h.1, (hb.cell (p := ⟨b, off + 1, none⟩) hC).trans h.2.1, (hb.cell (p := ⟨b, off + 2, none⟩) hC).trans h.2.2.1, (hb.cell (p := ⟨b, off + 3, none⟩) hC).trans h.2.2.2⟩
/-- A slice of cells reads as l; it lies below C. -/
def Pgs (C : Nat) (w : World) (A : Option Addr) (l : List Pg) : Prop := (∀ k, k < l.length → ∃ b off, A = some ⟨b, off, none⟩ ∧ b < C ∧ PgAt w b (off + k * 4) (l.getD k nilP)) ∧ (∀ c ∈ l, c.b.size ≤ maxLen) ∧ l.length ≤ maxLen
theorem Pgs.kept {C : Nat} {w w' : World} {A : Option Addr} {l : List Pg} (h : Pgs C w A l) (hb : Below C w w') : Pgs C w' A l :=
  ⟨fun k hk => by
    obtain ⟨b, off, h1, h2, h3⟩ := h.1 k hk
    exact ⟨b, off, h1, h2, h3.kept h2 hb⟩, h.2⟩
theorem Pgs.more {C D : Nat} {w : World} {A : Option Addr} {l : List Pg} (h : Pgs C w A l) (hD : C ≤ D) : Pgs D w A l :=
  ⟨fun k hk => by
    obtain ⟨b, off, h1, h2, h3⟩ := h.1 k hk
    exact ⟨b, off, h1, Nat.lt_of_lt_of_le h2 hD, h3⟩, h.2⟩
theorem Pgs.nil (C : Nat) (w : World) (A : Option Addr) : Pgs C w A [] := ⟨fun k hk => by simp at hk, fun p hp => by simp at hp, Nat.zero_le _⟩
/-- A cell's parts. -/
def pcell (c : Pg) : List Value := [.int .i64 c.k, .int .i64 c.d, .int .i64 c.x, .string c.b]
def pcs (l : List Pg) : List Value := l.flatMap pcell
theorem pcell_length (c : Pg) : (pcell c).length = 4 := rfl
theorem pcs_length (l : List Pg) : (pcs l).length = l.length * 4 := by
  induction l with
  | nil => rfl
  | cons p l ih => simp only [pcs, pcell, List.flatMap_cons, List.length_append, List.length_cons, List.length_nil] at ih ⊢; omega
theorem pcs_append (l m : List Pg) : pcs (l ++ m) = pcs l ++ pcs m := by simp [pcs]
theorem pcs_single (c : Pg) : pcs [c] = pcell c := by simp [pcs]
theorem pcell_one (c : Pg) : ∀ u ∈ pcell c, u.oneCell' = true := by
  intro u hp
  simp only [pcell, List.mem_cons, List.not_mem_nil, or_false] at hp
  rcases hp with rfl | rfl | rfl | rfl <;> rfl
theorem pcs_one (l : List Pg) : ∀ u ∈ pcs l, u.oneCell' = true := by
  intro u hu
  simp only [pcs, List.mem_flatMap] at hu
  obtain ⟨p, _, hp⟩ := hu
  exact pcell_one p u hp
theorem pcs_get : ∀ (l : List Pg) (k : Nat), k < l.length → (pcs l)[k * 4]? = some (.int .i64 (l.getD k nilP).k) ∧ (pcs l)[k * 4 + 1]? = some (.int .i64 (l.getD k nilP).d) ∧ (pcs l)[k * 4 + 2]? = some (.int .i64 (l.getD k nilP).x) ∧ (pcs l)[k * 4 + 3]? = some (.string (l.getD k nilP).b)
  | [], k, h => by simp at h
  | p :: l, 0, _ => ⟨rfl, rfl, rfl, rfl⟩
  | p :: l, k + 1, h => by
    have := pcs_get l k (by simpa using h)
    have e : (k + 1) * 4 = k * 4 + 1 + 1 + 1 + 1 := by omega
    rw [e]
    exact this
theorem pcs_at (l : List Pg) (k r : Nat) (hk : k < l.length) (hr : r < 4) : (pcs l)[k * 4 + r]? = (pcell (l.getD k nilP))[r]? := by
  obtain ⟨g0, g1, g2, g3⟩ := pcs_get l k hk
  rcases r with _ | _ | _ | _ | r
  · exact g0
  · exact g1
  · exact g2
  · exact g3
  · omega
theorem pcs_getp (l : List Pg) (j : Nat) (u : Value) (h : (pcs l)[j]? = some u) : ∃ k r, k < l.length ∧ r < 4 ∧ j = k * 4 + r ∧ (pcell (l.getD k nilP))[r]? = some u := by
  have hl := pcs_length l
  have hj : j < (pcs l).length := (List.getElem?_eq_some_iff.1 h).1
  have hk : j / 4 < l.length := by omega
  refine ⟨j / 4, j % 4, hk, by omega, by omega, ?_⟩
  rw [← pcs_at l (j / 4) (j % 4) hk (by omega), show j / 4 * 4 + j % 4 = j by omega, h]
theorem PgAt.part {w : World} {b off : Nat} {c : Pg} (h : PgAt w b off c) {r : Nat} {u : Value} (hu : (pcell c)[r]? = some u) : w.cell? ⟨b, off + r, none⟩ = some u := by
  rcases r with _ | _ | _ | _ | r
  · exact h.1.trans hu
  · exact h.2.1.trans hu
  · exact h.2.2.1.trans hu
  · exact h.2.2.2.trans hu
  · simp [pcell] at hu
/-- A row of cells of a call's own. -/
def Own (B : Nat) (w : World) (v : Value) (l : List Pg) : Prop := w.ownsRow B 26 4 v l.length (pcs l)
theorem Own.nil (B : Nat) (w : World) : Own B w (.slice none 0 0) [] := World.ownsRow_nil _ _ _ _
theorem Own.kept {B D : Nat} {w w' : World} {v : Value} {l : List Pg} (h : Own B w v l) (hb : Below w.heap.size w w') : Own B w' v l := owns_kept2 h fun g hg => hb.block g (h.lt g hg).2
theorem Own.pgs {B : Nat} {w : World} {A : Option Addr} {n c : Nat} {l : List Pg} (h : w.ownsRow B 26 4 (.slice A n c) n (pcs l)) (hn : l.length = n) (hs : ∀ p ∈ l, p.b.size ≤ maxLen) (hm : n ≤ maxLen) : Pgs w.heap.size w A l := by
  refine ⟨fun k hk => ?_, hs, by omega⟩
  rcases h.2 with ⟨h1, h2⟩ | ⟨g, cap, cur, h1, h2, h3, h4⟩
  · omega
  · simp only [Value.slice.injEq] at h1
    obtain ⟨rfl, _, rfl⟩ := h1
    have hc := h.cells (g := g) rfl
    obtain ⟨g0, g1, g2, g3⟩ := pcs_get l k hk
    have e0 := hc _ _ g0
    have e1 := hc _ _ g1
    have e2 := hc _ _ g2
    have e3 := hc _ _ g3
    rw [add_plain] at e0 e1 e2 e3
    exact ⟨g, 0, rfl, (Array.getElem?_eq_some_iff.1 h3).1, e0, by rw [Nat.add_assoc]; exact e1, by rw [Nat.add_assoc]; exact e2, by rw [Nat.add_assoc]; exact e3⟩
theorem info_p : (Try.prog.info? 26).map (fun i => (i.zero, i.size, i.bytes)) = some (some (.agg #[.int .i64 0, .int .i64 0, .int .i64 0, .string ⟨#[]⟩]), 4, 40) := by kernel_rfl
theorem news_four (w : World) (a b c d : Value) (t : TypeId) : ∀ j u, [a, b, c, d][j]? = some u → (w.alloc (.cells #[a, b, c, d] t)).cell? ((⟨w.heap.size, 0, none⟩ : Addr).add j) = some u := by
  intro j u hu
  rw [add_plain, cell_of_row _ _ _ _ _ _ (heap_alloc_new w _), Nat.zero_add]
  simpa using hu
/-- A list as a source. -/
theorem Pgs.src {C : Nat} {w : World} {A : Option Addr} {l : List Pg} (h : Pgs C w A l) : Src w 4 A l.length (pcs l) := by
  refine ⟨pcs_length l, fun h0 => ?_⟩
  obtain ⟨b, off, rfl, _, _⟩ := h.1 0 h0
  refine ⟨_, rfl, fun j u hu => ?_⟩
  obtain ⟨k, r, hk, hr, rfl, hc⟩ := pcs_getp l j u hu
  obtain ⟨b', off', e1, _, p0⟩ := h.1 k hk
  simp only [Option.some.injEq, Addr.mk.injEq, and_true] at e1
  obtain ⟨rfl, rfl⟩ := e1
  rw [add_plain, ← Nat.add_assoc]
  exact p0.part hc
/-! Growth. -/
theorem grownBy_trans {a b c : World} {row : Option Nat} (h : a.grownBy b row) (k : b.grownBy c row) : a.grownBy c row :=
  ⟨k.os.trans h.os, k.tape.trans h.tape, k.output.trans h.output, Nat.le_trans h.size k.size, fun i hi hne => (k.block i (Nat.lt_of_lt_of_le hi h.size) hne).trans (h.block i hi hne)⟩
theorem grownBy_below {a b : World} {row : Option Nat} (h : Below a.heap.size a b) : a.grownBy b row := ⟨h.os, h.tape, h.output, h.size, fun i hi _ => h.block i hi⟩
theorem below_grownBy {a b : World} {p : Nat} (h : a.grownBy b (some p)) {C : Nat} (hC : C ≤ a.heap.size) (hp : C ≤ p) : Below C a b :=
  ⟨h.os, h.tape, h.output, h.size, fun i hi => h.block i (by omega) (fun e => by simp only [Option.some.injEq] at e; omega)⟩
/-! A page by value, in a box of its own. -/
def pv (k d x : Int) (b : ByteArray) : Value := .agg #[.int .i64 k, .int .i64 d, .int .i64 x, .string b]
def PBox (w : World) (B : Nat) (k d x : Int) (b : ByteArray) : Prop := w.heap[B]? = some (.cells #[.int .i64 k, .int .i64 d, .int .i64 x, .string b] 26 (0, 0))
theorem PBox.cells {w : World} {B : Nat} {k d x : Int} {b : ByteArray} (h : PBox w B k d x b) : w.cell? ⟨B, 0, none⟩ = some (.int .i64 k) ∧ w.cell? ⟨B, 1, none⟩ = some (.int .i64 d) ∧ w.cell? ⟨B, 2, none⟩ = some (.int .i64 x) ∧ w.cell? ⟨B, 3, none⟩ = some (.string b) :=
  ⟨(cell_of_row _ _ _ _ _ _ h).trans rfl, (cell_of_row _ _ _ _ _ _ h).trans rfl, (cell_of_row _ _ _ _ _ _ h).trans rfl, (cell_of_row _ _ _ _ _ _ h).trans rfl⟩
theorem PBox.free {w : World} {B : Nat} {k d x : Int} {b : ByteArray} (h : PBox w B k d x b) : w.frozen? ⟨B, 0, none⟩ = false ∧ w.frozen? ⟨B, 1, none⟩ = false ∧ w.frozen? ⟨B, 2, none⟩ = false ∧ w.frozen? ⟨B, 3, none⟩ = false :=
  ⟨frozen_of_row _ _ _ _ _ h, frozen_of_row _ _ _ _ _ h, frozen_of_row _ _ _ _ _ h, frozen_of_row _ _ _ _ _ h⟩
theorem PBox.new (w : World) (k d x : Int) (b : ByteArray) : PBox (w.alloc (.cells #[.int .i64 k, .int .i64 d, .int .i64 x, .string b] 26)) w.heap.size k d x b := heap_alloc_new w _
theorem PBox.lt {w : World} {B : Nat} {k d x : Int} {b : ByteArray} (h : PBox w B k d x b) : B < w.heap.size := (Array.getElem?_eq_some_iff.1 h).1
theorem PBox.kept {w w' : World} {B : Nat} {k d x : Int} {b : ByteArray} (h : PBox w B k d x b) (hb : Below w.heap.size w w') : PBox w' B k d x b := (hb.block _ h.lt).trans h
theorem PBox.ofLt {w w' : World} {B : Nat} {k d x : Int} {b : ByteArray} (h : PBox w B k d x b) {C : Nat} (hb : Below C w w') (hC : B < C) : PBox w' B k d x b := (hb.block _ hC).trans h
theorem below_set1 {w w0 : World} {C B i : Nat} {u : Value} (h : Below C w0 w) (hC : C ≤ B) : Below C w0 (w.setCell ⟨B, i, none⟩ u) :=
  ⟨h.os, h.tape, h.output, by rw [World.size_setCell]; exact h.size, fun k hk => by
    rw [Below.heap_setCell _ _ _ _ (show k ≠ B by omega)]
    exact h.block k hk⟩
/-- What a world above X keeps. -/
def Held (X w : World) : Prop := Below X.heap.size X w
theorem Held.refl (X : World) : Held X X := Below.refl _ _
theorem Held.start (X : World) : Held X X.drew := (Below.refl _ _).drew
theorem Held.step {X w w' : World} (h : Held X w) (hb : Below w.heap.size w w') : Held X w' := Below.trans h (hb.mono (Below.size h))
theorem Held.cell {X w : World} {a : Addr} {v : Value} (h : Held X w) (hc : X.cell? a = some v) : w.cell? a = some v := (Below.cell h (World.block_lt_of_cell? X a hc)).trans hc
theorem Held.trans {a b c : World} (h : Held a b) (k : Held b c) : Held a c := Below.trans h (Below.mono k (Below.size h))
theorem max_small {n : Nat} (h : n ≤ 1000000) : n ≤ maxLen := by unfold maxLen; omega
abbrev ptr (p : Nat) : Value := .pointer (some ⟨p, 0, none⟩)
end Go.Proofs.Ytoladghpoddlgaa
