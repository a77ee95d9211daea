/- Rows of patches of a call's own; lists with room behind them, in which a mark stands. -/
import Derived.Test.YtkopgohmocjbbaaBase
import Derived.Maps.AppendAt
import Derived.OwnWalk
import Derived.Laws.AppendOwn
import Derived.RangeFuncBox
namespace Go.Proofs.Ytkopgohmocjbbaa
open Go.ChangeShapes Go.WideShapes Go.ChangeAt Go.RowKit
set_option linter.unusedVariables false
set_option linter.unusedSimpArgs false
set_option maxRecDepth 100000

/-! append of a whole slice onto a row of the call's own; the source may be nil or empty. -/
def Src (w : World) (size : Nat) (A : Option Addr) (m : Nat) (news : List Value) : Prop :=
  news.length = m * size ∧ (0 < m → ∃ ad, A = some ad ∧ ∀ j u, news[j]? = some u → w.cell? (ad.add j) = some u)
section
variable {P : Program} (w : World)
theorem run_append_src (t ty e : TypeId) (i : TypeInfo) (z : Value) (size bytes : Nat) (ht : P.underlying t = some (.slice e)) (hi : P.info? e = some i) (hz : i.zero = some z)
    (hsize : i.size = size) (hby : i.bytes = bytes) (hzs : z.cells.size = size) (hsz : 0 < size) (base : Nat)
    (v : Value) (n : Nat) (xs : List Value) (hown : w.ownsRow base e size v n xs)
    (A : Option Addr) (m c : Nat) (news : List Value) (hs : Src w size A m news) (h1 : ∀ u ∈ news, u.oneCell' = true)
    (h63 : n + m ≤ maxLen) (hbytes : (n + m) * bytes ≤ 140737488355328) (hbase : base ≤ w.heap.size) :
    ∃ v' w', (Builtin.append_ #[t, t] ty #[v, .slice A m c]).run P w = .ok v' w' ∧ w'.ownsRow base e size v' (n + m) (xs ++ news) ∧ w.grownBy w' v.ownBlock ∧ (v'.ownBlock = v.ownBlock ∨ v'.ownBlock = some w.heap.size) := by
  cases A with
  | some ad =>
    have hc : ∀ j u, news[j]? = some u → w.cell? (ad.add j) = some u := by
      intro j u hu
      by_cases h0 : m = 0
      · subst h0
        have : news = [] := List.eq_nil_of_length_eq_zero (by simpa using hs.1)
        subst this
        simp at hu
      · obtain ⟨ad', h, hc⟩ := hs.2 (by omega)
        simp only [Option.some.injEq] at h
        subst h
        exact hc j u hu
    obtain ⟨v', w', r1, r2, r3, _, r5⟩ := run_append_own_at (P := P) w base t ty e i z size bytes ht hi hz hsize hby hzs hsz v n xs hown ad m c news hs.1 hc h1 h63 hbytes hbase
    exact ⟨v', w', r1, r2, r3, r5⟩
  | none =>
    have h0 : m = 0 := by
      by_cases h : 0 < m
      · obtain ⟨_, h, _⟩ := hs.2 h
        cases h
      · omega
    subst h0
    have hn : news = [] := List.eq_nil_of_length_eq_zero (by simpa using hs.1)
    subst hn
    refine ⟨v, w, ?_, by simpa using hown, ⟨rfl, rfl, rfl, Nat.le_refl _, fun _ _ _ => rfl⟩, .inl rfl⟩
    rcases hown.2 with ⟨rfl, rfl⟩ | ⟨g, cap, cur, rfl, _, _, hle, _⟩
    · simp [Builtin.append_, run_underlying ht, sizeOf, typeInfo, hi, Builtin.lenOf, Builtin.firstCells]
    · simp [Builtin.append_, run_underlying ht, sizeOf, typeInfo, hi, Builtin.lenOf, Builtin.firstCells, hle, storeCells]
theorem wp_append_src {o : Oper} {a : Act} {K : Act → World → Prop} {Q : Exit → Act → World → Prop} (s x : Operand) (t : TypeId) (ho : o.op = .call { callee := .builtin .append, args := #[s, x], argTypes := #[t, t] })
    (e : TypeId) (i : TypeInfo) (z : Value) (size bytes : Nat) (ht : P.underlying t = some (.slice e)) (hi : P.info? e = some i) (hz : i.zero = some z)
    (hsize : i.size = size) (hby : i.bytes = bytes) (hzs : z.cells.size = size) (hsz : 0 < size) (base : Nat)
    (v : Value) (n : Nat) (xs : List Value) (hv : a.eval s = v) (hown : w.ownsRow base e size v n xs)
    (A : Option Addr) (m c : Nat) (news : List Value) (hx : a.eval x = .slice A m c) (hs : Src w size A m news) (h1 : ∀ u ∈ news, u.oneCell' = true)
    (h63 : n + m ≤ maxLen) (hbytes : (n + m) * bytes ≤ 140737488355328) (hbase : base ≤ w.heap.size)
    (h : ∀ v' w', w'.ownsRow base e size v' (n + m) (xs ++ news) → w.grownBy w' v.ownBlock → (v'.ownBlock = v.ownBlock ∨ v'.ownBlock = some w.heap.size) → K (a.put o.dst v') w') : o.wp P a w K Q := by
  obtain ⟨v', w', r1, r2, r3, r4⟩ := run_append_src (P := P) w t o.type e i z size bytes ht hi hz hsize hby hzs hsz base v n xs hown A m c news hs h1 h63 hbytes hbase
  unfold Oper.wp execOp
  simp only [ho, resolve, invoke, builtin, Sem.run_bind, Sem.run_pure, Result.andThen_ok, List.map_toArray, List.map_cons, List.map_nil, hv, hx, r1]
  exact h v' w' r2 r3 r4
theorem wpList_append_src {ops : Array Oper} {rest : List Oper} {o : Oper} {a : Act} {Q : Exit → Act → World → Prop} (hg : o.guard = none) (s x : Operand) (t : TypeId) (ho : o.op = .call { callee := .builtin .append, args := #[s, x], argTypes := #[t, t] })
    (e : TypeId) (i : TypeInfo) (z : Value) (size bytes : Nat) (ht : P.underlying t = some (.slice e)) (hi : P.info? e = some i) (hz : i.zero = some z)
    (hsize : i.size = size) (hby : i.bytes = bytes) (hzs : z.cells.size = size) (hsz : 0 < size) (base : Nat)
    (v : Value) (n : Nat) (xs : List Value) (hv : a.eval s = v) (hown : w.ownsRow base e size v n xs)
    (A : Option Addr) (m c : Nat) (news : List Value) (hx : a.eval x = .slice A m c) (hs : Src w size A m news) (h1 : ∀ u ∈ news, u.oneCell' = true)
    (h63 : n + m ≤ maxLen) (hbytes : (n + m) * bytes ≤ 140737488355328) (hbase : base ≤ w.heap.size)
    (h : ∀ v' w', w'.ownsRow base e size v' (n + m) (xs ++ news) → w.grownBy w' v.ownBlock → (v'.ownBlock = v.ownBlock ∨ v'.ownBlock = some w.heap.size) → wpList P ops Q rest (a.put o.dst v') w') : wpList P ops Q (o :: rest) a w :=
  wpList_plain hg fun _ hK => wp_append_src w s x t ho e i z size bytes ht hi hz hsize hby hzs hsz base v n xs hv hown A m c news hx hs h1 h63 hbytes hbase fun v' w' a b c => hK _ _ (h v' w' a b c)
end

theorem own_shape {w : World} {B e s n : Nat} {v : Value} {xs : List Value} (h : w.ownsRow B e s v n xs) : ∃ A c, v = .slice A n c := by
  rcases h.2 with ⟨rfl, rfl⟩ | ⟨g, cap, cur, rfl, _⟩
  · exact ⟨_, _, rfl⟩
  · exact ⟨_, _, rfl⟩
theorem own_base {w : World} {B D e s n : Nat} {v : Value} {xs : List Value} (h : w.ownsRow B e s v n xs) (hD : D ≤ B) : w.ownsRow D e s v n xs := by
  refine ⟨h.1, ?_⟩
  rcases h.2 with h | ⟨g, cap, cur, h1, h2, h3⟩
  · exact .inl h
  · exact .inr ⟨g, cap, cur, h1, Nat.le_trans hD h2, h3⟩
theorem owns_kept2 {w w' : World} {B e s n : Nat} {v : Value} {xs : List Value} (h : w.ownsRow B e s v n xs) (hk : ∀ g, v.ownBlock = some g → w'.heap[g]? = w.heap[g]?) : w'.ownsRow B e s v n xs := by
  refine ⟨h.1, ?_⟩
  rcases h.2 with h1 | ⟨g', cap, cur, rfl, h1, h2, h3⟩
  · exact .inl h1
  · exact .inr ⟨g', cap, cur, rfl, h1, (hk g' rfl).trans h2, h3⟩
theorem lent_cap {w : World} {B e s n g c m : Nat} {xs : List Value} (h : w.ownsRow B e s (.slice (some ⟨g, 0, none⟩) n c) m xs) : (m : Int) ≤ (c : Int) ∧ B ≤ g := by
  rcases h.2 with ⟨h2, _⟩ | ⟨g', cap, cur, h2, h3, h4, h5, _⟩
  · simp at h2
  · simp at h2
    obtain ⟨rfl, _, rfl⟩ := h2
    exact ⟨by omega, h3⟩

/-- A patch's cells. -/
def pcs (l : List Pt) : List Value := l.flatMap fun p => [.int .i64 p.pg, .int .i64 p.ofs, .string p.bs]
theorem pcs_length (l : List Pt) : (pcs l).length = l.length * 3 := by
  induction l with
  | nil => rfl
  | cons p l ih => simp only [pcs, List.flatMap_cons, List.length_append, List.length_cons, List.length_nil] at ih ⊢; omega
theorem pcs_append (l m : List Pt) : pcs (l ++ m) = pcs l ++ pcs m := by simp [pcs]
theorem pcs_one (l : List Pt) : ∀ u ∈ pcs l, u.oneCell' = true := by
  intro u hu
  simp only [pcs, List.mem_flatMap] at hu
  obtain ⟨p, _, hp⟩ := hu
  simp only [List.mem_cons, List.not_mem_nil, or_false] at hp
  rcases hp with rfl | rfl | rfl <;> rfl
theorem pcs_get : ∀ (l : List Pt) (k : Nat), k < l.length → (pcs l)[k * 3]? = some (.int .i64 (l.getD k nilP).pg) ∧ (pcs l)[k * 3 + 1]? = some (.int .i64 (l.getD k nilP).ofs) ∧ (pcs l)[k * 3 + 2]? = some (.string (l.getD k nilP).bs)
  | [], k, h => by simp at h
  | p :: l, 0, _ => ⟨rfl, rfl, rfl⟩
  | p :: l, k + 1, h => by
    have := pcs_get l k (by simpa using h)
    have e : (k + 1) * 3 = k * 3 + 1 + 1 + 1 := by omega
    rw [e]
    exact this
theorem pcs_getp : ∀ (l : List Pt) (j : Nat) (u : Value), (pcs l)[j]? = some u → ∃ k r, k < l.length ∧ j = k * 3 + r ∧ ((r = 0 ∧ u = .int .i64 (l.getD k nilP).pg) ∨ (r = 1 ∧ u = .int .i64 (l.getD k nilP).ofs) ∨ (r = 2 ∧ u = .string (l.getD k nilP).bs)) := by
  intro l j u h
  have hl := pcs_length l
  have hj : j < (pcs l).length := (List.getElem?_eq_some_iff.1 h).1
  have hk : j / 3 < l.length := by omega
  obtain ⟨g0, g1, g2⟩ := pcs_get l (j / 3) hk
  have hr : j % 3 = 0 ∨ j % 3 = 1 ∨ j % 3 = 2 := by omega
  rcases hr with hr | hr | hr
  · rw [show j / 3 * 3 = j by omega, h] at g0
    exact ⟨j / 3, 0, hk, by omega, .inl ⟨rfl, Option.some.inj g0⟩⟩
  · rw [show j / 3 * 3 + 1 = j by omega, h] at g1
    exact ⟨j / 3, 1, hk, by omega, .inr (.inl ⟨rfl, Option.some.inj g1⟩)⟩
  · rw [show j / 3 * 3 + 2 = j by omega, h] at g2
    exact ⟨j / 3, 2, hk, by omega, .inr (.inr ⟨rfl, Option.some.inj g2⟩)⟩
/-- A row of patches of a call's own. -/
def Own (B : Nat) (w : World) (v : Value) (l : List Pt) : Prop := w.ownsRow B 26 3 v l.length (pcs l)
theorem Own.nil (B : Nat) (w : World) : Own B w (.slice none 0 0) [] := World.ownsRow_nil _ _ _ _
theorem Own.kept {B D : Nat} {w w' : World} {v : Value} {l : List Pt} (h : Own B w v l) (hb : Below w.heap.size w w') : Own B w' v l := owns_kept2 h fun g hg => hb.block g (h.lt g hg).2
theorem Own.pts {B : Nat} {w : World} {A : Option Addr} {n c : Nat} {l : List Pt} (h : w.ownsRow B 26 3 (.slice A n c) n (pcs l)) (hn : l.length = n) (hs : ∀ p ∈ l, p.bs.size ≤ maxLen) (hm : n ≤ maxLen) : Pts w.heap.size w A l := by
  refine ⟨fun k hk => ?_, hs, by omega⟩
  rcases h.2 with ⟨h1, h2⟩ | ⟨g, cap, cur, h1, h2, h3, h4⟩
  · omega
  · simp only [Value.slice.injEq] at h1
    obtain ⟨rfl, _, rfl⟩ := h1
    have hc := h.cells (g := g) rfl
    obtain ⟨g0, g1, g2⟩ := pcs_get l k hk
    have e0 := hc _ _ g0
    have e1 := hc _ _ g1
    have e2 := hc _ _ g2
    rw [add_plain] at e0 e1 e2
    exact ⟨g, 0, rfl, (Array.getElem?_eq_some_iff.1 h3).1, e0, by rw [Nat.add_assoc]; exact e1, by rw [Nat.add_assoc]; exact e2⟩
theorem info_p : (Try.prog.info? 26).map (fun i => (i.zero, i.size, i.bytes)) = some (some (.agg #[.int .i64 0, .int .i64 0, .string ⟨#[]⟩]), 3, 32) := by kernel_rfl
theorem news_three (w : World) (a b c : Value) (t : TypeId) : ∀ j u, [a, b, c][j]? = some u → (w.alloc (.cells #[a, b, c] t)).cell? ((⟨w.heap.size, 0, none⟩ : Addr).add j) = some u := by
  intro j u hu
  rw [add_plain, cell_of_row _ _ _ _ _ _ (heap_alloc_new w _), Nat.zero_add]
  simpa using hu
/-- A list as a source. -/
theorem Pts.src {C : Nat} {w : World} {A : Option Addr} {l : List Pt} (h : Pts C w A l) : Src w 3 A l.length (pcs l) := by
  refine ⟨pcs_length l, fun h0 => ?_⟩
  obtain ⟨b, off, rfl, _, _⟩ := h.1 0 h0
  refine ⟨_, rfl, fun j u hu => ?_⟩
  obtain ⟨k, r, hk, rfl, hc⟩ := pcs_getp l j u hu
  obtain ⟨b', off', e1, _, p0, p1, p2⟩ := h.1 k hk
  simp only [Option.some.injEq, Addr.mk.injEq, and_true] at e1
  obtain ⟨rfl, rfl⟩ := e1
  rw [add_plain]
  rcases hc with ⟨rfl, rfl⟩ | ⟨rfl, rfl⟩ | ⟨rfl, rfl⟩
  · exact p0
  · rw [← Nat.add_assoc]; exact p1
  · rw [← Nat.add_assoc]; exact p2
/-- The patches of a page. -/
def mineOf (page : Int) (l : List Pt) : List Pt := l.filter fun p => decide (p.pg = page)
theorem mine_take (page : Int) (l : List Pt) (k : Nat) (hk : k < l.length) : mineOf page (l.take (k + 1)) = mineOf page (l.take k) ++ (if (l.getD k nilP).pg = page then [l.getD k nilP] else []) := by
  rw [take_snoc l k hk]
  unfold mineOf
  rw [List.filter_append]
  generalize l.getD k nilP = p
  by_cases h : p.pg = page
  · rw [if_pos h]; simp [h]
  · rw [if_neg h]; simp [h]
theorem folds_mine (page : Int) (l : List Pt) : ∀ b, folds page b (mineOf page l) = folds page b l := by
  induction l with
  | nil => intro b; rfl
  | cons p l ih =>
    intro b
    unfold mineOf at ih ⊢
    rw [List.filter_cons]
    by_cases h : p.pg = page
    · rw [if_pos (by simpa using h)]
      exact ih _
    · rw [if_neg (by simpa using h)]
      rw [show folds page b (p :: l) = folds page (stepP page b p) l from rfl, show stepP page b p = b by unfold stepP; rw [if_neg h]]
      exact ih b
theorem mine_mem {page : Int} {l : List Pt} {p : Pt} (h : p ∈ mineOf page l) : p ∈ l := (List.mem_filter.1 h).1
theorem mine_le (page : Int) (l : List Pt) : (mineOf page l).length ≤ l.length := List.length_filter_le _ _
end Go.Proofs.Ytkopgohmocjbbaa
