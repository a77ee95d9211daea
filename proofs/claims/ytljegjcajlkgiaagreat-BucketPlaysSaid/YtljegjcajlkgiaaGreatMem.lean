/- Lists of cells in memory: as handed in; as rows of a call's own. -/
import Derived.Test.YtljegjcajlkgiaaGreatBits
import Derived.Maps.AppendAt
import Derived.OwnWalk
import Derived.Laws.AppendOwn
import Derived.Deep.MidRow
namespace Go.Proofs.YtljegjcajlkgiaaGreat
open Go.ChangeShapes Go.WideShapes Go.ChangeAt Go.RowKit
set_option linter.unusedVariables false
set_option linter.unusedSimpArgs false
set_option maxRecDepth 100000
/-! append of a whole slice onto a row of the call's own; the source may be nil or empty. -/
def Src (w : World) (size : Nat) (A : Option Addr) (m : Nat) (news : List Value) : Prop :=
  news.length = m * size ∧ (0 < m → ∃ ad, A = some ad ∧ ∀ j u, news[j]? = some u → w.cell? (ad.add j) = some u)
section
variable {P : Program} (w : World)
theorem run_append_src (t ty e : TypeId) (i : TypeInfo) (z : Value) (size bytes : Nat) (ht : P.underlying t = some (.slice e)) (hi : P.info? e = some i) (hz : i.zero = some z)
    (hsize : i.size = size) (hby : i.bytes = bytes) (hzs : z.cells.size = size) (hsz : 0 < size) (base : Nat)
    (v : Value) (n : Nat) (xs : List Value) (hown : w.ownsRow base e size v n xs)
    (A : Option Addr) (m c : Nat) (news : List Value) (hs : Src w size A m news) (h1 : ∀ u ∈ news, u.oneCell' = true)
    (h63 : n + m ≤ maxLen) (hbytes : (n + m) * bytes ≤ 140737488355328) (hbase : base ≤ w.heap.size) :
    ∃ v' w', (Builtin.append_ #[t, t] ty #[v, .slice A m c]).run P w = .ok v' w' ∧ w'.ownsRow base e size v' (n + m) (xs ++ news) ∧ w.grownBy w' v.ownBlock ∧ (v'.ownBlock = v.ownBlock ∨ v'.ownBlock = some w.heap.size) := by
  cases A with
  | some ad =>
    have hc : ∀ j u, news[j]? = some u → w.cell? (ad.add j) = some u := by
      intro j u hu
      by_cases h0 : m = 0
      · subst h0
        have : news = [] := List.eq_nil_of_length_eq_zero (by simpa using hs.1)
        subst this
        simp at hu
      · obtain ⟨ad', h, hc⟩ := hs.2 (by omega)
        simp only [Option.some.injEq] at h
        subst h
        exact hc j u hu
    obtain ⟨v', w', r1, r2, r3, _, r5⟩ := run_append_own_at (P := P) w base t ty e i z size bytes ht hi hz hsize hby hzs hsz v n xs hown ad m c news hs.1 hc h1 h63 hbytes hbase
    exact ⟨v', w', r1, r2, r3, r5⟩
  | none =>
    have h0 : m = 0 := by
      by_cases h : 0 < m
      · obtain ⟨_, h, _⟩ := hs.2 h
        cases h
      · omega
    subst h0
    have hn : news = [] := List.eq_nil_of_length_eq_zero (by simpa using hs.1)
    subst hn
    refine ⟨v, w, ?_, by simpa using hown, ⟨rfl, rfl, rfl, Nat.le_refl _, fun _ _ _ => rfl⟩, .inl rfl⟩
    rcases hown.2 with ⟨rfl, rfl⟩ | ⟨g, cap, cur, rfl, _, _, hle, _⟩
    · simp [Builtin.append_, run_underlying ht, sizeOf, typeInfo, hi, Builtin.lenOf, Builtin.firstCells]
    · simp [Builtin.append_, run_underlying ht, sizeOf, typeInfo, hi, Builtin.lenOf, Builtin.firstCells, hle, storeCells]
theorem wp_append_src {o : Oper} {a : Act} {K : Act → World → Prop} {Q : Exit → Act → World → Prop} (s x : Operand) (t : TypeId) (ho : o.op = .call { callee := .builtin .append, args := #[s, x], argTypes := #[t, t] })
    (e : TypeId) (i : TypeInfo) (z : Value) (size bytes : Nat) (ht : P.underlying t = some (.slice e)) (hi : P.info? e = some i) (hz : i.zero = some z)
    (hsize : i.size = size) (hby : i.bytes = bytes) (hzs : z.cells.size = size) (hsz : 0 < size) (base : Nat)
    (v : Value) (n : Nat) (xs : List Value) (hv : a.eval s = v) (hown : w.ownsRow base e size v n xs)
    (A : Option Addr) (m c : Nat) (news : List Value) (hx : a.eval x = .slice A m c) (hs : Src w size A m news) (h1 : ∀ u ∈ news, u.oneCell' = true)
    (h63 : n + m ≤ maxLen) (hbytes : (n + m) * bytes ≤ 140737488355328) (hbase : base ≤ w.heap.size)
    (h : ∀ v' w', w'.ownsRow base e size v' (n + m) (xs ++ news) → w.grownBy w' v.ownBlock → (v'.ownBlock = v.ownBlock ∨ v'.ownBlock = some w.heap.size) → K (a.put o.dst v') w') : o.wp P a w K Q := by
  obtain ⟨v', w', r1, r2, r3, r4⟩ := run_append_src (P := P) w t o.type e i z size bytes ht hi hz hsize hby hzs hsz base v n xs hown A m c news hs h1 h63 hbytes hbase
  unfold Oper.wp execOp
  simp only [ho, resolve, invoke, builtin, Sem.run_bind, Sem.run_pure, Result.andThen_ok, List.map_toArray, List.map_cons, List.map_nil, hv, hx, r1]
  exact h v' w' r2 r3 r4
theorem wpList_append_src {ops : Array Oper} {rest : List Oper} {o : Oper} {a : Act} {Q : Exit → Act → World → Prop} (hg : o.guard = none) (s x : Operand) (t : TypeId) (ho : o.op = .call { callee := .builtin .append, args := #[s, x], argTypes := #[t, t] })
    (e : TypeId) (i : TypeInfo) (z : Value) (size bytes : Nat) (ht : P.underlying t = some (.slice e)) (hi : P.info? e = some i) (hz : i.zero = some z)
    (hsize : i.size = size) (hby : i.bytes = bytes) (hzs : z.cells.size = size) (hsz : 0 < size) (base : Nat)
    (v : Value) (n : Nat) (xs : List Value) (hv : a.eval s = v) (hown : w.ownsRow base e size v n xs)
    (A : Option Addr) (m c : Nat) (news : List Value) (hx : a.eval x = .slice A m c) (hs : Src w size A m news) (h1 : ∀ u ∈ news, u.oneCell' = true)
    (h63 : n + m ≤ maxLen) (hbytes : (n + m) * bytes ≤ 140737488355328) (hbase : base ≤ w.heap.size)
    (h : ∀ v' w', w'.ownsRow base e size v' (n + m) (xs ++ news) → w.grownBy w' v.ownBlock → (v'.ownBlock = v.ownBlock ∨ v'.ownBlock = some w.heap.size) → wpList P ops Q rest (a.put o.dst v') w') : wpList P ops Q (o :: rest) a w :=
  wpList_plain hg fun _ hK => wp_append_src w s x t ho e i z size bytes ht hi hz hsize hby hzs hsz base v n xs hv hown A m c news hx hs h1 h63 hbytes hbase fun v' w' a b c => hK _ _ (h v' w' a b c)
end

theorem own_shape {w : World} {B e s n : Nat} {v : Value} {xs : List Value} (h : w.ownsRow B e s v n xs) : ∃ A c, v = .slice A n c := by
  rcases h.2 with ⟨rfl, rfl⟩ | ⟨g, cap, cur, rfl, _⟩
  · exact ⟨_, _, rfl⟩
  · exact ⟨_, _, rfl⟩
theorem own_base {w : World} {B D e s n : Nat} {v : Value} {xs : List Value} (h : w.ownsRow B e s v n xs) (hD : D ≤ B) : w.ownsRow D e s v n xs := by
  refine ⟨h.1, ?_⟩
  rcases h.2 with h | ⟨g, cap, cur, h1, h2, h3⟩
  · exact .inl h
  · exact .inr ⟨g, cap, cur, h1, Nat.le_trans hD h2, h3⟩
theorem owns_kept2 {w w' : World} {B e s n : Nat} {v : Value} {xs : List Value} (h : w.ownsRow B e s v n xs) (hk : ∀ g, v.ownBlock = some g → w'.heap[g]? = w.heap[g]?) : w'.ownsRow B e s v n xs := by
  refine ⟨h.1, ?_⟩
  rcases h.2 with h1 | ⟨g', cap, cur, rfl, h1, h2, h3⟩
  · exact .inl h1
  · exact .inr ⟨g', cap, cur, rfl, h1, (hk g' rfl).trans h2, h3⟩
theorem lent_cap {w : World} {B e s n g c m : Nat} {xs : List Value} (h : w.ownsRow B e s (.slice (some ⟨g, 0, none⟩) n c) m xs) : (m : Int) ≤ (c : Int) ∧ B ≤ g := by
  rcases h.2 with ⟨h2, _⟩ | ⟨g', cap, cur, h2, h3, h4, h5, _⟩
  · simp at h2
  · simp at h2
    obtain ⟨rfl, _, rfl⟩ := h2
    exact ⟨by omega, h3⟩

theorem add_plain (b o j : Nat) : (⟨b, o, none⟩ : Addr).add j = ⟨b, o + j, none⟩ := Addr.add_mid b o j
/-- A cell, at this address. -/
def CeAt (w : World) (b off : Nat) (c : Ce) : Prop := w.cell? ⟨b, off, none⟩ = some (.string c.key) ∧ w.cell? ⟨b, off + 1, none⟩ = some (.string c.val) ∧ w.cell? ⟨b, off + 2, none⟩ = some (.int .i64 c.blob) ∧ w.cell? ⟨b, off + 3, none⟩ = some (.int .i64 c.size)
theorem CeAt.kept {C : Nat} {w w' : World} {b off : Nat} {c : Ce} (h : CeAt w b off c) (hC : b < C) (hb : Below C w w') : CeAt w' b off c :=
  ⟨(hb.cell (p := ⟨b, off, none⟩) hC).trans h.1, (hb.cell (p := ⟨b, off + 1, none⟩) hC).trans h.2.1, (hb.cell (p := ⟨b, off + 2, none⟩) hC).trans h.2.2.1, (hb.cell (p := ⟨b, off + 3, none⟩) hC).trans h.2.2.2⟩
/-- A slice of cells reads as l; it lies below C. -/
def Ces (C : Nat) (w : World) (A : Option Addr) (l : List Ce) : Prop := (∀ k, k < l.length → ∃ b off, A = some ⟨b, off, none⟩ ∧ b < C ∧ CeAt w b (off + k * 4) (l.getD k nilC)) ∧ (∀ c ∈ l, c.key.size ≤ maxLen ∧ c.val.size ≤ maxLen) ∧ l.length ≤ maxLen
theorem Ces.kept {C : Nat} {w w' : World} {A : Option Addr} {l : List Ce} (h : Ces C w A l) (hb : Below C w w') : Ces C w' A l :=
  ⟨fun k hk => by
    obtain ⟨b, off, h1, h2, h3⟩ := h.1 k hk
    exact ⟨b, off, h1, h2, h3.kept h2 hb⟩, h.2⟩
theorem Ces.more {C D : Nat} {w : World} {A : Option Addr} {l : List Ce} (h : Ces C w A l) (hD : C ≤ D) : Ces D w A l :=
  ⟨fun k hk => by
    obtain ⟨b, off, h1, h2, h3⟩ := h.1 k hk
    exact ⟨b, off, h1, Nat.lt_of_lt_of_le h2 hD, h3⟩, h.2⟩
theorem Ces.nil (C : Nat) (w : World) (A : Option Addr) : Ces C w A [] := ⟨fun k hk => by simp at hk, fun p hp => by simp at hp, Nat.zero_le _⟩
/-- A cell's parts. -/
def ccell (c : Ce) : List Value := [.string c.key, .string c.val, .int .i64 c.blob, .int .i64 c.size]
def ccs (l : List Ce) : List Value := l.flatMap ccell
theorem ccell_length (c : Ce) : (ccell c).length = 4 := rfl
theorem ccs_length (l : List Ce) : (ccs l).length = l.length * 4 := by
  induction l with
  | nil => rfl
  | cons p l ih => simp only [ccs, ccell, List.flatMap_cons, List.length_append, List.length_cons, List.length_nil] at ih ⊢; omega
theorem ccs_append (l m : List Ce) : ccs (l ++ m) = ccs l ++ ccs m := by simp [ccs]
theorem ccs_single (c : Ce) : ccs [c] = ccell c := by simp [ccs]
theorem ccell_one (c : Ce) : ∀ u ∈ ccell c, u.oneCell' = true := by
  intro u hp
  simp only [ccell, List.mem_cons, List.not_mem_nil, or_false] at hp
  rcases hp with rfl | rfl | rfl | rfl <;> rfl
theorem ccs_one (l : List Ce) : ∀ u ∈ ccs l, u.oneCell' = true := by
  intro u hu
  simp only [ccs, List.mem_flatMap] at hu
  obtain ⟨p, _, hp⟩ := hu
  exact ccell_one p u hp
theorem ccs_get : ∀ (l : List Ce) (k : Nat), k < l.length → (ccs l)[k * 4]? = some (.string (l.getD k nilC).key) ∧ (ccs l)[k * 4 + 1]? = some (.string (l.getD k nilC).val) ∧ (ccs l)[k * 4 + 2]? = some (.int .i64 (l.getD k nilC).blob) ∧ (ccs l)[k * 4 + 3]? = some (.int .i64 (l.getD k nilC).size)
  | [], k, h => by simp at h
  | p :: l, 0, _ => ⟨rfl, rfl, rfl, rfl⟩
  | p :: l, k + 1, h => by
    have := ccs_get l k (by simpa using h)
    have e : (k + 1) * 4 = k * 4 + 1 + 1 + 1 + 1 := by omega
    rw [e]
    exact this
theorem ccs_at (l : List Ce) (k r : Nat) (hk : k < l.length) (hr : r < 4) : (ccs l)[k * 4 + r]? = (ccell (l.getD k nilC))[r]? := by
  obtain ⟨g0, g1, g2, g3⟩ := ccs_get l k hk
  rcases r with _ | _ | _ | _ | r
  · exact g0
  · exact g1
  · exact g2
  · exact g3
  · omega
theorem ccs_getp (l : List Ce) (j : Nat) (u : Value) (h : (ccs l)[j]? = some u) : ∃ k r, k < l.length ∧ r < 4 ∧ j = k * 4 + r ∧ (ccell (l.getD k nilC))[r]? = some u := by
  have hl := ccs_length l
  have hj : j < (ccs l).length := (List.getElem?_eq_some_iff.1 h).1
  have hk : j / 4 < l.length := by omega
  refine ⟨j / 4, j % 4, hk, by omega, by omega, ?_⟩
  rw [← ccs_at l (j / 4) (j % 4) hk (by omega), show j / 4 * 4 + j % 4 = j by omega, h]
theorem CeAt.part {w : World} {b off : Nat} {c : Ce} (h : CeAt w b off c) {r : Nat} {u : Value} (hu : (ccell c)[r]? = some u) : w.cell? ⟨b, off + r, none⟩ = some u := by
  rcases r with _ | _ | _ | _ | r
  · exact h.1.trans hu
  · exact h.2.1.trans hu
  · exact h.2.2.1.trans hu
  · exact h.2.2.2.trans hu
  · simp [ccell] at hu
/-- A row of cells of a call's own. -/
def Own (B : Nat) (w : World) (v : Value) (l : List Ce) : Prop := w.ownsRow B 42 4 v l.length (ccs l)
theorem Own.nil (B : Nat) (w : World) : Own B w (.slice none 0 0) [] := World.ownsRow_nil _ _ _ _
theorem Own.kept {B D : Nat} {w w' : World} {v : Value} {l : List Ce} (h : Own B w v l) (hb : Below w.heap.size w w') : Own B w' v l := owns_kept2 h fun g hg => hb.block g (h.lt g hg).2
theorem Own.ces {B : Nat} {w : World} {A : Option Addr} {n c : Nat} {l : List Ce} (h : w.ownsRow B 42 4 (.slice A n c) n (ccs l)) (hn : l.length = n) (hs : ∀ p ∈ l, p.key.size ≤ maxLen ∧ p.val.size ≤ maxLen) (hm : n ≤ maxLen) : Ces w.heap.size w A l := by
  refine ⟨fun k hk => ?_, hs, by omega⟩
  rcases h.2 with ⟨h1, h2⟩ | ⟨g, cap, cur, h1, h2, h3, h4⟩
  · omega
  · simp only [Value.slice.injEq] at h1
    obtain ⟨rfl, _, rfl⟩ := h1
    have hc := h.cells (g := g) rfl
    obtain ⟨g0, g1, g2, g3⟩ := ccs_get l k hk
    have e0 := hc _ _ g0
    have e1 := hc _ _ g1
    have e2 := hc _ _ g2
    have e3 := hc _ _ g3
    rw [add_plain] at e0 e1 e2 e3
    exact ⟨g, 0, rfl, (Array.getElem?_eq_some_iff.1 h3).1, e0, by rw [Nat.add_assoc]; exact e1, by rw [Nat.add_assoc]; exact e2, by rw [Nat.add_assoc]; exact e3⟩
theorem info_c : (Tryz.prog.info? 42).map (fun i => (i.zero, i.size, i.bytes)) = some (some (.agg #[.string ⟨#[]⟩, .string ⟨#[]⟩, .int .i64 0, .int .i64 0]), 4, 48) := by kernel_rfl
theorem news_four (w : World) (a b c d : Value) (t : TypeId) : ∀ j u, [a, b, c, d][j]? = some u → (w.alloc (.cells #[a, b, c, d] t)).cell? ((⟨w.heap.size, 0, none⟩ : Addr).add j) = some u := by
  intro j u hu
  rw [add_plain, cell_of_row _ _ _ _ _ _ (heap_alloc_new w _), Nat.zero_add]
  simpa using hu
/-- A list as a source. -/
theorem Ces.src {C : Nat} {w : World} {A : Option Addr} {l : List Ce} (h : Ces C w A l) : Src w 4 A l.length (ccs l) := by
  refine ⟨ccs_length l, fun h0 => ?_⟩
  obtain ⟨b, off, rfl, _, _⟩ := h.1 0 h0
  refine ⟨_, rfl, fun j u hu => ?_⟩
  obtain ⟨k, r, hk, hr, rfl, hc⟩ := ccs_getp l j u hu
  obtain ⟨b', off', e1, _, p0⟩ := h.1 k hk
  simp only [Option.some.injEq, Addr.mk.injEq, and_true] at e1
  obtain ⟨rfl, rfl⟩ := e1
  rw [add_plain, ← Nat.add_assoc]
  exact p0.part hc
/-! Growth. -/
theorem grownBy_trans {a b c : World} {row : Option Nat} (h : a.grownBy b row) (k : b.grownBy c row) : a.grownBy c row :=
  ⟨k.os.trans h.os, k.tape.trans h.tape, k.output.trans h.output, Nat.le_trans h.size k.size, fun i hi hne => (k.block i (Nat.lt_of_lt_of_le hi h.size) hne).trans (h.block i hi hne)⟩
theorem grownBy_below {a b : World} {row : Option Nat} (h : Below a.heap.size a b) : a.grownBy b row := ⟨h.os, h.tape, h.output, h.size, fun i hi _ => h.block i hi⟩
theorem below_grownBy {a b : World} {p : Nat} (h : a.grownBy b (some p)) {C : Nat} (hC : C ≤ a.heap.size) (hp : C ≤ p) : Below C a b :=
  ⟨h.os, h.tape, h.output, h.size, fun i hi => h.block i (by omega) (fun e => by simp only [Option.some.injEq] at e; omega)⟩
/-! Bytes as a row. -/
def bcs (l : BA) : List Value := l.map fun b => Value.int .u8 (b.toNat : Int)
theorem bcs_append (l m : BA) : bcs (l ++ m) = bcs l ++ bcs m := by simp [bcs]
theorem bcs_length (l : BA) : (bcs l).length = l.length := by simp [bcs]
theorem bcs_one' (l : BA) : ∀ u ∈ bcs l, u.oneCell' = true := by
  intro u hu
  simp only [bcs, List.mem_map] at hu
  obtain ⟨b, _, rfl⟩ := hu
  rfl
theorem info_u : (Tryz.prog.info? 5).map (fun i => (i.zero, i.size, i.bytes)) = some (some (.int .u8 0), 1, 1) := by kernel_rfl
end Go.Proofs.YtljegjcajlkgiaaGreat
