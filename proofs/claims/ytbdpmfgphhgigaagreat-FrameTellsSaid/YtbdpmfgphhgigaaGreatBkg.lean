/- Lists that are kept, marked, grown, of several kinds at once: the mathematics of the book. A kind: the type of its elements, of its lists, an element's cells, its marks. -/
import Derived.Test.YtbdpmfgphhgigaaGreatChecked
import Derived.Test.YtbdpmfgphhgigaaGreatRows
import Derived.Below
import Derived.ChangeOld
import Derived.Carry
import Derived.WalkKit
import Derived.ProofKit
import Derived.OpenShut
import Derived.LoopTactic
import Derived.Deep.QuietTactic
import Derived.BigQuiet
import Derived.RegionTactic
import Derived.Lib.Hide
import Derived.OwnWalk
import Derived.OneCell
import Derived.RangeFuncBox
import Derived.Maps.AppendAt
import Derived.Laws.AppendOwn
import Derived.Laws.IdiomCopy
import Derived.Deep.RegionLaw
import Derived.Deep.RegionWith
import Derived.Lib.Builder
import Derived.Lib.SliceRun
namespace Go.Proofs.YtbdpmfgphhgigaaGreat.Bk
open Go.ChangeShapes Go.WideShapes Go.ChangeAt Go.RowKit
set_option linter.unusedVariables false
set_option linter.unusedSimpArgs false
set_option maxRecDepth 100000
/-! append of a whole slice onto a row of the call's own; the source may be nil or empty. -/
def Src (w : World) (size : Nat) (A : Option Addr) (m : Nat) (news : List Value) : Prop :=
  news.length = m * size ∧ (0 < m → ∃ ad, A = some ad ∧ ∀ j u, news[j]? = some u → w.cell? (ad.add j) = some u)
section
variable {P : Program} (w : World)
theorem run_append_src (t ty e : TypeId) (i : TypeInfo) (z : Value) (size bytes : Nat) (ht : P.underlying t = some (.slice e)) (hi : P.info? e = some i) (hz : i.zero = some z)
    (hsize : i.size = size) (hby : i.bytes = bytes) (hzs : z.cells.size = size) (hsz : 0 < size) (base : Nat)
    (v : Value) (n : Nat) (xs : List Value) (hown : w.ownsRow base e size v n xs)
    (A : Option Addr) (m c : Nat) (news : List Value) (hs : Src w size A m news) (h1 : ∀ u ∈ news, u.oneCell' = true)
    (h63 : n + m ≤ maxLen) (hbytes : (n + m) * bytes ≤ 140737488355328) (hbase : base ≤ w.heap.size) :
    ∃ v' w', (Builtin.append_ #[t, t] ty #[v, .slice A m c]).run P w = .ok v' w' ∧ w'.ownsRow base e size v' (n + m) (xs ++ news) ∧ w.grownBy w' v.ownBlock ∧ (v'.ownBlock = v.ownBlock ∨ v'.ownBlock = some w.heap.size) := by
  cases A with
  | some ad =>
    have hc : ∀ j u, news[j]? = some u → w.cell? (ad.add j) = some u := by
      intro j u hu
      by_cases h0 : m = 0
      · subst h0
        have : news = [] := List.eq_nil_of_length_eq_zero (by simpa using hs.1)
        subst this
        simp at hu
      · obtain ⟨ad', h, hc⟩ := hs.2 (by omega)
        simp only [Option.some.injEq] at h
        subst h
        exact hc j u hu
    obtain ⟨v', w', r1, r2, r3, _, r5⟩ := run_append_own_at (P := P) w base t ty e i z size bytes ht hi hz hsize hby hzs hsz v n xs hown ad m c news hs.1 hc h1 h63 hbytes hbase
    exact ⟨v', w', r1, r2, r3, r5⟩
  | none =>
    have h0 : m = 0 := by
      by_cases h : 0 < m
      · obtain ⟨_, h, _⟩ := hs.2 h
        cases h
      · omega
    subst h0
    have hn : news = [] := List.eq_nil_of_length_eq_zero (by simpa using hs.1)
    subst hn
    refine ⟨v, w, ?_, by simpa using hown, ⟨rfl, rfl, rfl, Nat.le_refl _, fun _ _ _ => rfl⟩, .inl rfl⟩
    rcases hown.2 with ⟨rfl, rfl⟩ | ⟨g, cap, cur, rfl, _, _, hle, _⟩
    · simp [Builtin.append_, run_underlying ht, sizeOf, typeInfo, hi, Builtin.lenOf, Builtin.firstCells]
    · simp [Builtin.append_, run_underlying ht, sizeOf, typeInfo, hi, Builtin.lenOf, Builtin.firstCells, hle, storeCells]
theorem wp_append_src {o : Oper} {a : Act} {K : Act → World → Prop} {Q : Exit → Act → World → Prop} (s x : Operand) (t : TypeId) (ho : o.op = .call { callee := .builtin .append, args := #[s, x], argTypes := #[t, t] })
    (e : TypeId) (i : TypeInfo) (z : Value) (size bytes : Nat) (ht : P.underlying t = some (.slice e)) (hi : P.info? e = some i) (hz : i.zero = some z)
    (hsize : i.size = size) (hby : i.bytes = bytes) (hzs : z.cells.size = size) (hsz : 0 < size) (base : Nat)
    (v : Value) (n : Nat) (xs : List Value) (hv : a.eval s = v) (hown : w.ownsRow base e size v n xs)
    (A : Option Addr) (m c : Nat) (news : List Value) (hx : a.eval x = .slice A m c) (hs : Src w size A m news) (h1 : ∀ u ∈ news, u.oneCell' = true)
    (h63 : n + m ≤ maxLen) (hbytes : (n + m) * bytes ≤ 140737488355328) (hbase : base ≤ w.heap.size)
    (h : ∀ v' w', w'.ownsRow base e size v' (n + m) (xs ++ news) → w.grownBy w' v.ownBlock → (v'.ownBlock = v.ownBlock ∨ v'.ownBlock = some w.heap.size) → K (a.put o.dst v') w') : o.wp P a w K Q := by
  obtain ⟨v', w', r1, r2, r3, r4⟩ := run_append_src (P := P) w t o.type e i z size bytes ht hi hz hsize hby hzs hsz base v n xs hown A m c news hs h1 h63 hbytes hbase
  unfold Oper.wp execOp
  simp only [ho, resolve, invoke, builtin, Sem.run_bind, Sem.run_pure, Result.andThen_ok, List.map_toArray, List.map_cons, List.map_nil, hv, hx, r1]
  exact h v' w' r2 r3 r4
theorem wpList_append_src {ops : Array Oper} {rest : List Oper} {o : Oper} {a : Act} {Q : Exit → Act → World → Prop} (hg : o.guard = none) (s x : Operand) (t : TypeId) (ho : o.op = .call { callee := .builtin .append, args := #[s, x], argTypes := #[t, t] })
    (e : TypeId) (i : TypeInfo) (z : Value) (size bytes : Nat) (ht : P.underlying t = some (.slice e)) (hi : P.info? e = some i) (hz : i.zero = some z)
    (hsize : i.size = size) (hby : i.bytes = bytes) (hzs : z.cells.size = size) (hsz : 0 < size) (base : Nat)
    (v : Value) (n : Nat) (xs : List Value) (hv : a.eval s = v) (hown : w.ownsRow base e size v n xs)
    (A : Option Addr) (m c : Nat) (news : List Value) (hx : a.eval x = .slice A m c) (hs : Src w size A m news) (h1 : ∀ u ∈ news, u.oneCell' = true)
    (h63 : n + m ≤ maxLen) (hbytes : (n + m) * bytes ≤ 140737488355328) (hbase : base ≤ w.heap.size)
    (h : ∀ v' w', w'.ownsRow base e size v' (n + m) (xs ++ news) → w.grownBy w' v.ownBlock → (v'.ownBlock = v.ownBlock ∨ v'.ownBlock = some w.heap.size) → wpList P ops Q rest (a.put o.dst v') w') : wpList P ops Q (o :: rest) a w :=
  wpList_plain hg fun _ hK => wp_append_src w s x t ho e i z size bytes ht hi hz hsize hby hzs hsz base v n xs hv hown A m c news hx hs h1 h63 hbytes hbase fun v' w' a b c => hK _ _ (h v' w' a b c)
theorem step_append_src {ops : Array Oper} {o : Oper} {a : Act} {K : Act → World → Prop} {Q : Exit → Act → World → Prop} {E : Prop} (hg : o.guard = none) (s x : Operand) (t : TypeId) (ho : o.op = .call { callee := .builtin .append, args := #[s, x], argTypes := #[t, t] })
    (e : TypeId) (i : TypeInfo) (z : Value) (size bytes : Nat) (ht : P.underlying t = some (.slice e)) (hi : P.info? e = some i) (hz : i.zero = some z)
    (hsize : i.size = size) (hby : i.bytes = bytes) (hzs : z.cells.size = size) (hsz : 0 < size) (base : Nat)
    (v : Value) (n : Nat) (xs : List Value) (hv : a.eval s = v) (hown : w.ownsRow base e size v n xs)
    (A : Option Addr) (m c : Nat) (news : List Value) (hx : a.eval x = .slice A m c) (hs : Src w size A m news) (h1 : ∀ u ∈ news, u.oneCell' = true)
    (h63 : n + m ≤ maxLen) (hbytes : (n + m) * bytes ≤ 140737488355328) (hbase : base ≤ w.heap.size)
    (h : ∀ v' w', w'.ownsRow base e size v' (n + m) (xs ++ news) → w.grownBy w' v.ownBlock → (v'.ownBlock = v.ownBlock ∨ v'.ownBlock = some w.heap.size) → K (a.put o.dst v') w') :
    if Region.wanted o (yielded ops a.tmps) = true then Oper.wp P o a w K Q else E := by
  have hw : Region.wanted o (yielded ops a.tmps) = true := by simp [Region.wanted, hg]
  rw [if_pos hw]
  exact wp_append_src w s x t ho e i z size bytes ht hi hz hsize hby hzs hsz base v n xs hv hown A m c news hx hs h1 h63 hbytes hbase h
end
/-! append: in its own place, or in a new one, and then nothing old has turned. -/
section
variable {P : Program} (w : World)
theorem run_append_parts (t ty e : TypeId) (i : TypeInfo) (z : Value) (size bytes : Nat) (ht : P.underlying t = some (.slice e)) (hi : P.info? e = some i) (hz : i.zero = some z)
    (hsize : i.size = size) (hby : i.bytes = bytes) (hzs : z.cells.size = size) (hsz : 0 < size) (base : Nat)
    (v : Value) (n : Nat) (xs : List Value) (hown : w.ownsRow base e size v n xs)
    (ad : Addr) (m c : Nat) (news : List Value) (hl : news.length = m * size) (hnews : ∀ j u, news[j]? = some u → w.cell? (ad.add j) = some u) (h1 : ∀ u ∈ news, u.oneCell' = true)
    (hm : 0 < m) (h63 : n + m ≤ maxLen) (hbytes : (n + m) * bytes ≤ 140737488355328) (hbase : base ≤ w.heap.size) :
    ∃ v' w', (Builtin.append_ #[t, t] ty #[v, .slice (some ad) m c]).run P w = .ok v' w' ∧ w'.ownsRow base e size v' (n + m) (xs ++ news) ∧
      ((v'.ownBlock = v.ownBlock ∧ w.grownBy w' v.ownBlock) ∨ (v'.ownBlock = some w.heap.size ∧ w.grownBy w' none)) := by
  obtain ⟨v', w', r1, r2, r3, _, r5⟩ := run_append_own_at (P := P) w base t ty e i z size bytes ht hi hz hsize hby hzs hsz v n xs hown ad m c news hl hnews h1 h63 hbytes hbase
  refine ⟨v', w', r1, r2, ?_⟩
  rcases r5 with r5 | r5
  · exact .inl ⟨r5, r3⟩
  · have grown : ∀ o, w.grownBy (w.drew.alloc o) none := fun o => ⟨rfl, rfl, rfl, by rw [World.size_alloc]; exact Nat.le_succ _, fun k hk _ => Below.heap_alloc w.drew o k hk⟩
    have h63' : n + m ≤ 9223372036854775807 := by simp only [maxLen] at h63; omega
    subst hsize hby
    rcases hown.2 with ⟨rfl, rfl⟩ | ⟨g, cap, cur, rfl, hbg, hg, hnc, hcm, hcs, htake⟩
    · have hr := run_append_nil (P := P) w t ty e i z ht hi hz ad m c news hl hnews hm (by omega) (by have := hbytes; simp only [Nat.zero_add] at this; omega)
      rw [r1] at hr
      simp only [Result.ok.injEq] at hr
      exact .inr ⟨r5, by rw [hr.2]; exact grown _⟩
    · by_cases hroom : n + m ≤ cap
      · have hfit : n * i.size + news.length ≤ cur.size := by rw [hl, hcs, ← Nat.add_mul]; exact Nat.mul_le_mul_right _ hroom
        have hr := run_append_room (P := P) w t ty e i ht hi g n cap cur hg ad m c news hl hnews h1 hroom hfit
        rw [r1] at hr
        simp only [Result.ok.injEq] at hr
        exact .inl ⟨by rw [hr.1]; rfl, r3⟩
      · have holds : ∀ j u, xs[j]? = some u → w.cell? ((⟨g, 0, none⟩ : Addr).add j) = some u := hown.cells (g := g) rfl
        have hr := run_append_grow (P := P) w t ty e i z ht hi hz ⟨g, 0, none⟩ n cap xs hown.1 holds ad m c news hl hnews (by omega) (by omega) (growslice_fits (by omega) hbytes)
        rw [r1] at hr
        simp only [Result.ok.injEq] at hr
        exact .inr ⟨r5, by rw [hr.2]; exact grown _⟩
theorem wpList_append_parts {ops : Array Oper} {rest : List Oper} {o : Oper} {a : Act} {Q : Exit → Act → World → Prop} (hgd : o.guard = none) (s x : Operand) (t : TypeId) (ho : o.op = .call { callee := .builtin .append, args := #[s, x], argTypes := #[t, t] })
    (e : TypeId) (i : TypeInfo) (z : Value) (size bytes : Nat) (ht : P.underlying t = some (.slice e)) (hi : P.info? e = some i) (hz : i.zero = some z)
    (hsize : i.size = size) (hby : i.bytes = bytes) (hzs : z.cells.size = size) (hsz : 0 < size) (base : Nat)
    (v : Value) (n : Nat) (xs : List Value) (hv : a.eval s = v) (hown : w.ownsRow base e size v n xs)
    (ad : Addr) (m c : Nat) (news : List Value) (hx : a.eval x = .slice (some ad) m c) (hl : news.length = m * size) (hnews : ∀ j u, news[j]? = some u → w.cell? (ad.add j) = some u) (h1 : ∀ u ∈ news, u.oneCell' = true)
    (hm : 0 < m) (h63 : n + m ≤ maxLen) (hbytes : (n + m) * bytes ≤ 140737488355328) (hbase : base ≤ w.heap.size)
    (h : ∀ v' w', w'.ownsRow base e size v' (n + m) (xs ++ news) → ((v'.ownBlock = v.ownBlock ∧ w.grownBy w' v.ownBlock) ∨ (v'.ownBlock = some w.heap.size ∧ w.grownBy w' none)) → wpList P ops Q rest (a.put o.dst v') w') : wpList P ops Q (o :: rest) a w :=
  wpList_plain hgd fun _ hK => by
    obtain ⟨v', w', r1, r2, r3⟩ := run_append_parts (P := P) w t o.type e i z size bytes ht hi hz hsize hby hzs hsz base v n xs hown ad m c news hl hnews h1 hm h63 hbytes hbase
    unfold Oper.wp execOp
    simp only [ho, resolve, invoke, builtin, Sem.run_bind, Sem.run_pure, Result.andThen_ok, List.map_toArray, List.map_cons, List.map_nil, hv, hx, r1]
    exact hK _ _ (h v' w' r2 r3)
end

theorem add_plain (b off i : Nat) : (⟨b, off, none⟩ : Addr).add i = ⟨b, off + i, none⟩ := by unfold Addr.add; split <;> simp_all
theorem own_shape {w : World} {B e s n : Nat} {v : Value} {xs : List Value} (h : w.ownsRow B e s v n xs) : ∃ A c, v = .slice A n c := by
  rcases h.2 with ⟨rfl, rfl⟩ | ⟨g, cap, cur, rfl, _⟩
  · exact ⟨_, _, rfl⟩
  · exact ⟨_, _, rfl⟩
theorem own_base {w : World} {B D e s n : Nat} {v : Value} {xs : List Value} (h : w.ownsRow B e s v n xs) (hD : D ≤ B) : w.ownsRow D e s v n xs := by
  refine ⟨h.1, ?_⟩
  rcases h.2 with h1 | ⟨g, cap, cur, h1, h2, h3⟩
  · exact .inl h1
  · exact .inr ⟨g, cap, cur, h1, Nat.le_trans hD h2, h3⟩
theorem owns_block {w : World} {B e s n : Nat} {v : Value} {xs : List Value} (h : w.ownsRow B e s v n xs) {g : Nat} (hg : v.ownBlock = some g) : ∃ cur, w.heap[g]? = some (.cells cur e (0, 0)) := by
  rcases h.2 with ⟨rfl, _⟩ | ⟨g', cap, cur, rfl, _, h2, _⟩
  · simp [Value.ownBlock] at hg
  · simp only [Value.ownBlock, Option.some.injEq] at hg
    subst hg
    exact ⟨cur, h2⟩
theorem owns_kept {w w' : World} {B e s n : Nat} {v : Value} {xs : List Value} (h : w.ownsRow B e s v n xs) (hk : ∀ g, v.ownBlock = some g → w'.heap[g]? = w.heap[g]?) : w'.ownsRow B e s v n xs := by
  refine ⟨h.1, ?_⟩
  rcases h.2 with h1 | ⟨g', cap, cur, rfl, h1, h2, h3⟩
  · exact .inl h1
  · exact .inr ⟨g', cap, cur, rfl, h1, (hk g' rfl).trans h2, h3⟩
theorem own_set {w : World} {B e s n : Nat} {v : Value} {xs : List Value} {g k : Nat} (h : w.ownsRow B e s v n xs) (hg : v.ownBlock = some g) (u : Value) : (w.setCell ⟨g, k, none⟩ u).ownsRow B e s v n (xs.set k u) := by
  refine ⟨by rw [List.length_set]; exact h.1, ?_⟩
  rcases h.2 with ⟨rfl, _⟩ | ⟨g', cap, cur, rfl, h1, h2, h3, h4, h5, h6⟩
  · simp [Value.ownBlock] at hg
  · simp only [Value.ownBlock, Option.some.injEq] at hg
    subst hg
    refine .inr ⟨g', cap, cur.setIfInBounds k u, rfl, h1, ?_, h3, h4, by simp [h5], ?_⟩
    · rw [setCell_eq_setRow w g' k cur e (0, 0) u h2, setRow_heap w g' _ _ _ _ h2]
    · rw [Array.toList_setIfInBounds, List.take_set, h6]
theorem own_setCells {e s n B g : Nat} {v : Value} : ∀ (vs : List Value) (o : Nat) (w : World) (xs : List Value), w.ownsRow B e s v n xs → v.ownBlock = some g → o + vs.length ≤ xs.length → (w.setCells g o vs).ownsRow B e s v n (xs.take o ++ vs ++ xs.drop (o + vs.length))
  | [], o, w, xs, h, hg, hl => by
    have : xs.take o ++ [] ++ xs.drop (o + ([] : List Value).length) = xs := by simp
    rw [this]
    exact h
  | u :: vs, o, w, xs, h, hg, hl => by
    have hl' : o < xs.length := by simp at hl; omega
    have h2 := own_setCells vs (o + 1) _ _ (own_set (k := o) h hg u) hg (by rw [List.length_set]; simp at hl; omega)
    have e1 : (xs.set o u).take (o + 1) = xs.take o ++ [u] := by
      rw [List.take_succ_eq_append_getElem (by rw [List.length_set]; exact hl')]
      simp [List.take_set_of_le]
    have e2 : (xs.set o u).drop (o + 1 + vs.length) = xs.drop (o + (u :: vs).length) := by
      rw [List.drop_set_of_lt (by omega)]
      congr 1
      simp
      omega
    rw [e1, e2] at h2
    have e3 : xs.take o ++ [u] ++ vs ++ xs.drop (o + (u :: vs).length) = xs.take o ++ (u :: vs) ++ xs.drop (o + (u :: vs).length) := by simp
    rw [e3] at h2
    exact h2
theorem setCells_heap {g k : Nat} (hk : k ≠ g) : ∀ (vs : List Value) (o : Nat) (w : World), (w.setCells g o vs).heap[k]? = w.heap[k]?
  | [], _, _ => rfl
  | u :: vs, o, w => (setCells_heap hk vs (o + 1) _).trans (Below.heap_setCell w ⟨g, o, none⟩ u k hk)
theorem setCells_size {g : Nat} : ∀ (vs : List Value) (o : Nat) (w : World), (w.setCells g o vs).heap.size = w.heap.size
  | [], _, _ => rfl
  | u :: vs, o, w => (setCells_size vs (o + 1) _).trans (World.size_setCell _ _ _)
theorem setCells_os {g : Nat} : ∀ (vs : List Value) (o : Nat) (w : World), (w.setCells g o vs).os = w.os ∧ (w.setCells g o vs).tape = w.tape ∧ (w.setCells g o vs).output = w.output
  | [], _, _ => ⟨rfl, rfl, rfl⟩
  | u :: vs, o, w => by
    have := setCells_os (g := g) vs (o + 1) (w.setCell ⟨g, o, none⟩ u)
    exact ⟨this.1.trans rfl, this.2.1.trans rfl, this.2.2.trans rfl⟩
theorem getD_at {α : Type} {l : List α} {k : Nat} {d : α} (h : k < l.length) : l.getD k d = l[k] := by simp [List.getD, h]

/-! A kind of lists. -/
structure Kd (α : Type) where
  tE : TypeId
  tL : TypeId
  sz : Nat
  enc : α → List Value
  nil : α
  mark : Nat → Nat → α
  len : ∀ a, (enc a).length = sz
  pos : 0 < sz
  one : ∀ a, ∀ u ∈ enc a, u.oneCell' = true
  ne : tE ≠ tL
section
variable {α : Type} (K : Kd α)
def Kd.cs (l : List α) : List Value := l.flatMap K.enc
theorem Kd.cs_nil : K.cs [] = [] := rfl
theorem Kd.cs_append (l m : List α) : K.cs (l ++ m) = K.cs l ++ K.cs m := by simp [Kd.cs]
theorem Kd.cs_single (x : α) : K.cs [x] = K.enc x := by simp [Kd.cs]
theorem Kd.cs_cons (x : α) (l : List α) : K.cs (x :: l) = K.enc x ++ K.cs l := by simp [Kd.cs]
theorem Kd.cs_length : ∀ l : List α, (K.cs l).length = l.length * K.sz
  | [] => by simp [Kd.cs]
  | x :: l => by rw [K.cs_cons, List.length_append, K.len, Kd.cs_length l, List.length_cons, Nat.add_mul, Nat.one_mul, Nat.add_comm]
theorem Kd.cs_one (l : List α) : ∀ u ∈ K.cs l, u.oneCell' = true := by
  intro u hu
  obtain ⟨x, _, hx⟩ := List.mem_flatMap.1 hu
  exact K.one x u hx
theorem Kd.cs_get : ∀ (l : List α) (k : Nat), k < l.length → ∀ (j : Nat) (u : Value), (K.enc (l.getD k K.nil))[j]? = some u → (K.cs l)[k * K.sz + j]? = some u
  | [], k, h, _, _, _ => by simp at h
  | x :: l, 0, _, j, u, hu => by
    have hu' : (K.enc x)[j]? = some u := hu
    rw [K.cs_cons, Nat.zero_mul, Nat.zero_add, List.getElem?_append_left (List.getElem?_eq_some_iff.1 hu').1]
    exact hu'
  | x :: l, k + 1, h, j, u, hu => by
    rw [K.cs_cons, List.getElem?_append_right (by rw [K.len, Nat.add_mul]; omega), K.len, show (k + 1) * K.sz + j - K.sz = k * K.sz + j by rw [Nat.add_mul]; omega]
    exact Kd.cs_get l k (by simpa using h) j u (by simpa using hu)
theorem Kd.cs_take : ∀ (l : List α) (t : Nat), t ≤ l.length → (K.cs l).take (t * K.sz) = K.cs (l.take t)
  | _, 0, _ => by simp [Kd.cs]
  | [], t + 1, h => by simp at h
  | x :: l, t + 1, h => by
    rw [K.cs_cons, List.take_succ_cons, K.cs_cons, ← Kd.cs_take l t (by simpa using h), show (t + 1) * K.sz = (K.enc x).length + t * K.sz by rw [K.len, Nat.add_mul]; omega, List.take_length_add_append]
theorem Kd.cs_drop : ∀ (l : List α) (t : Nat), t ≤ l.length → (K.cs l).drop (t * K.sz) = K.cs (l.drop t)
  | _, 0, _ => by simp
  | [], t + 1, h => by simp at h
  | x :: l, t + 1, h => by
    rw [K.cs_cons, List.drop_succ_cons, ← Kd.cs_drop l t (by simpa using h), show (t + 1) * K.sz = (K.enc x).length + t * K.sz by rw [K.len, Nat.add_mul]; omega, List.drop_length_add_append]
theorem Kd.cs_set (x : α) (l : List α) (t : Nat) (h : t < l.length) : (K.cs l).take (t * K.sz) ++ K.enc x ++ (K.cs l).drop (t * K.sz + (K.enc x).length) = K.cs (l.set t x) := by
  rw [K.len, show t * K.sz + K.sz = (t + 1) * K.sz by rw [Nat.add_mul]; omega, K.cs_take _ _ (by omega), K.cs_drop _ _ (by omega), ← K.cs_single, ← K.cs_append, ← K.cs_append, List.set_eq_take_append_cons_drop, if_pos h, List.append_assoc]
  rfl

/-! The lists. -/
structure E where
  A : Option Addr
  n : Nat
  c : Nat
def E.val (e : E) : Value := .slice e.A e.n e.c
def e0 : E := ⟨none, 0, 0⟩
def E.own (e : E) : Option Nat := e.val.ownBlock
/-- e holds l, in a row of the call's own, above C. -/
def Row (C : Nat) (w : World) (e : E) (l : List α) : Prop := e.n = l.length ∧ w.ownsRow C K.tE K.sz e.val e.n (K.cs l)
def Conts (C : Nat) (w : World) (es : List E) (F : Nat → List α) : Prop := ∀ i, i < es.length → Row K C w (es.getD i e0) (F i)
/-- All blocks of the types T are as they were. -/
def KT (C : Nat) (T : TypeId → Prop) (w w' : World) : Prop := Below C w w' ∧ ∀ (k : Nat) (cur : Array Value) (t : TypeId), T t → w.heap[k]? = some (.cells cur t (0, 0)) → w'.heap[k]? = some (.cells cur t (0, 0))
end
theorem KT.refl (C : Nat) (T : TypeId → Prop) (w : World) : KT C T w w := ⟨Below.refl _ _, fun _ _ _ _ h => h⟩
theorem KT.trans {C : Nat} {T : TypeId → Prop} {x y z : World} (h : KT C T x y) (k : KT C T y z) : KT C T x z := ⟨h.1.trans k.1, fun i c t ht hi => k.2 i c t ht (h.2 i c t ht hi)⟩
theorem KT.mono {C : Nat} {T T' : TypeId → Prop} {w w' : World} (h : KT C T w w') (hT : ∀ t, T' t → T t) : KT C T' w w' := ⟨h.1, fun k c t ht hk => h.2 k c t (hT t ht) hk⟩
theorem KT.of_below {C : Nat} {T : TypeId → Prop} {x y : World} (h : Below x.heap.size x y) (hC : C ≤ x.heap.size) : KT C T x y := ⟨h.mono hC, fun k c t _ hk => (h.block k (Array.getElem?_eq_some_iff.1 hk).1).trans hk⟩
theorem KT.block {C : Nat} {T : TypeId → Prop} {w w' : World} (h : KT C T w w') {k : Nat} {cur : Array Value} {t : TypeId} (hk : w.heap[k]? = some (.cells cur t (0, 0))) (ht : T t) : w'.heap[k]? = some (.cells cur t (0, 0)) := h.2 k cur t ht hk
theorem owns_kt {C : Nat} {T : TypeId → Prop} {w w' : World} {B e s n : Nat} {v : Value} {xs : List Value} (h : w.ownsRow B e s v n xs) (k : KT C T w w') (he : T e) : w'.ownsRow B e s v n xs :=
  owns_kept h fun g hg => by
    obtain ⟨cur, hc⟩ := owns_block h hg
    rw [k.2 g cur e he hc, hc]
theorem owns_below {w w' : World} {B e s n : Nat} {v : Value} {xs : List Value} (h : w.ownsRow B e s v n xs) (hb : Below w.heap.size w w') : w'.ownsRow B e s v n xs := owns_kept h fun g hg => hb.block g (h.lt g hg).2
section
variable {α : Type} {K : Kd α}
theorem Row.kt {C D : Nat} {T : TypeId → Prop} {w w' : World} {e : E} {l : List α} (h : Row K C w e l) (k : KT D T w w') (ht : T K.tE) : Row K C w' e l := ⟨h.1, owns_kt h.2 k ht⟩
theorem Row.below {C : Nat} {w w' : World} {e : E} {l : List α} (h : Row K C w e l) (hb : Below w.heap.size w w') : Row K C w' e l := ⟨h.1, owns_below h.2 hb⟩
theorem Row.keep {C : Nat} {w w' : World} {e : E} {l : List α} (h : Row K C w e l) (hk : ∀ g, e.own = some g → w'.heap[g]? = w.heap[g]?) : Row K C w' e l := ⟨h.1, owns_kept h.2 hk⟩
theorem Row.base {C D : Nat} {w : World} {e : E} {l : List α} (h : Row K C w e l) (hD : D ≤ C) : Row K D w e l := ⟨h.1, own_base h.2 hD⟩
theorem Row.block {C : Nat} {w : World} {e : E} {l : List α} (h : Row K C w e l) {g : Nat} (hg : e.own = some g) : ∃ cur, w.heap[g]? = some (.cells cur K.tE (0, 0)) := owns_block h.2 hg
theorem Row.lt {C : Nat} {w : World} {e : E} {l : List α} (h : Row K C w e l) {g : Nat} (hg : e.own = some g) : C ≤ g ∧ g < w.heap.size := h.2.lt g hg
theorem Row.at {C : Nat} {w : World} {e : E} {l : List α} (h : Row K C w e l) {i : Nat} (hi : i < e.n) : ∃ g, e.A = some ⟨g, 0, none⟩ ∧ g < w.heap.size ∧ ∀ j u, (K.enc (l.getD i K.nil))[j]? = some u → w.cell? ⟨g, i * K.sz + j, none⟩ = some u := by
  obtain ⟨hn, h⟩ := h
  rcases h.2 with ⟨_, h2⟩ | ⟨g, cap, cur, h1, _, h3, _⟩
  · omega
  · simp only [E.val, Value.slice.injEq] at h1
    refine ⟨g, h1.1, (Array.getElem?_eq_some_iff.1 h3).1, fun j u hu => ?_⟩
    have := h.cells (g := g) (by unfold E.val; rw [h1.1]; rfl) (i * K.sz + j) u (K.cs_get l i (by omega) j u hu)
    rw [add_plain, Nat.zero_add] at this
    exact this
theorem Row.src {C : Nat} {w : World} {e : E} {l : List α} (h : Row K C w e l) : Src w K.sz e.A e.n (K.cs l) := by
  obtain ⟨hn, h⟩ := h
  refine ⟨by rw [K.cs_length, hn], fun h0 => ?_⟩
  rcases h.2 with ⟨_, h2⟩ | ⟨g, cap, cur, h1, _⟩
  · omega
  · simp only [E.val, Value.slice.injEq] at h1
    exact ⟨_, h1.1, h.cells (g := g) (by unfold E.val; rw [h1.1]; rfl)⟩
theorem new_cells (w : World) (xs : List Value) (t : TypeId) : ∀ j u, xs[j]? = some u → (w.alloc (.cells xs.toArray t)).cell? ((⟨w.heap.size, 0, none⟩ : Addr).add j) = some u := fun j u hj => by
  rw [add_plain, Nat.zero_add, cell_of_row _ _ _ _ _ _ (heap_alloc_new w (.cells xs.toArray t))]
  simpa using hj
/-- No two share a block. -/
def FarR (a b : E) : Prop := ∀ g, a.own = some g → b.own ≠ some g
def Far (es : List E) : Prop := es.Pairwise FarR
theorem FarR.symm {a b : E} (h : FarR a b) : FarR b a := fun g hb ha => h g ha hb
theorem Far.perm {es fs : List E} (h : Far es) (p : es.Perm fs) : Far fs := (List.Perm.pairwise_iff (fun h => FarR.symm h) p).1 h
theorem Far.at {es : List E} (h : Far es) {i j : Nat} (hi : i < es.length) (hj : j < es.length) (hij : i ≠ j) : FarR (es.getD i e0) (es.getD j e0) := by
  have h1 := List.pairwise_iff_getElem.1 h
  rw [getD_at hi, getD_at hj]
  by_cases hlt : i < j
  · exact h1 i j hi hj hlt
  · exact (h1 j i hj hi (by omega)).symm
theorem Far.left {es fs : List E} (h : Far (es ++ fs)) : Far es := (List.pairwise_append.1 h).1
theorem far_snoc {es : List E} {e : E} (h : Far es) (he : ∀ x ∈ es, FarR x e) : Far (es ++ [e]) :=
  List.pairwise_append.2 ⟨h, List.pairwise_singleton _ _, fun x hx y hy => by simp at hy; subst hy; exact he x hx⟩
theorem far_two {es fs : List E} {e f : E} (h : Far (es ++ fs)) (he : ∀ x ∈ es ++ fs, FarR x e) (hf : ∀ x ∈ es ++ fs ++ [e], FarR x f) : Far ((es ++ [e]) ++ (fs ++ [f])) := by
  refine (far_snoc (far_snoc h he) hf).perm ?_
  rw [List.append_assoc es fs, List.append_assoc es, List.append_assoc fs, List.append_assoc es [e]]
  refine List.Perm.append_left es ?_
  exact List.perm_append_comm_assoc _ _ _
theorem getE_mem {es : List E} {i : Nat} (hi : i < es.length) : es.getD i e0 ∈ es := by
  rw [getD_at hi]; exact List.getElem_mem hi
theorem mem_getE {es : List E} {e : E} (h : e ∈ es) : ∃ i, i < es.length ∧ es.getD i e0 = e := by
  obtain ⟨i, hi, rfl⟩ := List.getElem_of_mem h
  exact ⟨i, hi, getD_at hi⟩
theorem getD_last {α : Type} (es : List α) (e d : α) : (es ++ [e]).getD es.length d = e := by simp [List.getD]
theorem getD_lt {α : Type} (es fs : List α) (d : α) (i : Nat) (h : i < es.length) : (es ++ fs).getD i d = es.getD i d := by simp [List.getD, List.getElem?_append_left h]
theorem Conts.kt {C D : Nat} {T : TypeId → Prop} {w w' : World} {es : List E} {F : Nat → List α} (h : Conts K C w es F) (k : KT D T w w') (ht : T K.tE) : Conts K C w' es F := fun i hi => (h i hi).kt k ht
theorem Conts.below {C : Nat} {w w' : World} {es : List E} {F : Nat → List α} (h : Conts K C w es F) (hb : Below w.heap.size w w') : Conts K C w' es F := fun i hi => (h i hi).below hb
theorem Conts.lt {C : Nat} {w : World} {es : List E} {F : Nat → List α} (h : Conts K C w es F) : ∀ e ∈ es, ∀ g, e.own = some g → C ≤ g ∧ g < w.heap.size := fun e he g hg => by
  obtain ⟨i, hi, rfl⟩ := mem_getE he
  exact (h i hi).lt hg
theorem Conts.type {C : Nat} {w : World} {es : List E} {F : Nat → List α} (h : Conts K C w es F) {g : Nat} {cs : Array Value} {t : TypeId} (hg : w.heap[g]? = some (.cells cs t (0, 0))) (ht : t ≠ K.tE) : ∀ e ∈ es, e.own ≠ some g := by
  intro e he ho
  obtain ⟨i, hi, rfl⟩ := mem_getE he
  obtain ⟨cur, hc⟩ := (h i hi).block ho
  rw [hg] at hc
  simp at hc
  exact ht hc.2
theorem Conts.snoc {C : Nat} {w : World} {es : List E} {ls : List (List α)} {e : E} {l : List α} (h : Conts K C w es (fun i => ls.getD i [])) (hn : ls.length = es.length) (hr : Row K C w e l) : Conts K C w (es ++ [e]) (fun i => (ls ++ [l]).getD i []) := by
  intro i hi
  by_cases hlt : i < es.length
  · rw [getD_lt _ _ _ _ hlt]
    show Row K C w _ ((ls ++ [l]).getD i [])
    rw [getD_lt _ _ _ _ (by rw [hn]; exact hlt)]
    exact h i hlt
  · have hii : i = es.length := by simp at hi; omega
    subst hii
    show Row K C w _ ((ls ++ [l]).getD es.length [])
    rw [getD_last, ← hn, getD_last]
    exact hr
/-- One kind's part of the book: v its lists es, u their copies fs. -/
structure Part (K : Kd α) (C : Nat) (w : World) (v u : Value) (es fs : List E) (ls ms : List (List α)) : Prop where
  vr : w.ownsRow C K.tL 1 v es.length (es.map E.val)
  ur : w.ownsRow C K.tL 1 u fs.length (fs.map E.val)
  vu : ∀ g, v.ownBlock = some g → u.ownBlock ≠ some g
  nl : ls.length = es.length
  nm : ms.length = fs.length
  el : Conts K C w es (fun i => ls.getD i [])
  fl : Conts K C w fs (fun i => ms.getD i [])
  far : Far (es ++ fs)
theorem Part.kt {C D : Nat} {T : TypeId → Prop} {w w' : World} {v u : Value} {es fs : List E} {ls ms : List (List α)} (h : Part K C w v u es fs ls ms) (k : KT D T w w') (h1 : T K.tE) (h2 : T K.tL) : Part K C w' v u es fs ls ms :=
  ⟨owns_kt h.vr k h2, owns_kt h.ur k h2, h.vu, h.nl, h.nm, h.el.kt k h1, h.fl.kt k h1, h.far⟩
theorem Part.below {C : Nat} {w w' : World} {v u : Value} {es fs : List E} {ls ms : List (List α)} (h : Part K C w v u es fs ls ms) (hb : Below w.heap.size w w') : Part K C w' v u es fs ls ms :=
  ⟨owns_below h.vr hb, owns_below h.ur hb, h.vu, h.nl, h.nm, h.el.below hb, h.fl.below hb, h.far⟩
def nil_ : Value := .slice none 0 0
theorem Part.none (C : Nat) (w : World) : Part K C w nil_ nil_ [] [] [] [] :=
  ⟨World.ownsRow_nil _ _ _ _, World.ownsRow_nil _ _ _ _, fun g hg => by simp [nil_, Value.ownBlock] at hg, rfl, rfl, fun i hi => by simp at hi, fun i hi => by simp at hi, List.Pairwise.nil⟩
theorem Part.far_new {C D : Nat} {w : World} {v u : Value} {es fs : List E} {ls ms : List (List α)} (h : Part K C w v u es fs ls ms) {e : E} (hD : w.heap.size ≤ D) (he : ∀ g, e.own = some g → D ≤ g) : ∀ x ∈ es ++ fs, FarR x e := fun x hx g hg hg2 => by
  have h1 : g < w.heap.size := by
    rcases List.mem_append.1 hx with hx | hx
    · exact (h.el.lt x hx g hg).2
    · exact (h.fl.lt x hx g hg).2
  have := he g hg2
  omega
/-- The value of the list at place i, as memory has it. -/
theorem owns_entry {C t : Nat} {w : World} {A : Option Addr} {c k : Nat} {es : List E} (h : w.ownsRow C t 1 (.slice A k c) k (es.map E.val)) {i : Nat} (hi : i < k) : ∃ g, A = some ⟨g, 0, none⟩ ∧ g < w.heap.size ∧ w.cell? ⟨g, i, none⟩ = some (.slice (es.getD i e0).A (es.getD i e0).n (es.getD i e0).c) ∧ ∃ cur, w.heap[g]? = some (.cells cur t (0, 0)) := by
  have hk : k = es.length := by have := h.1; simp at this; omega
  rcases h.2 with ⟨_, h0⟩ | ⟨g, cap, cur, h1, _, h2, _⟩
  · omega
  · simp only [Value.slice.injEq] at h1
    obtain ⟨rfl, _, rfl⟩ := h1
    refine ⟨g, rfl, (Array.getElem?_eq_some_iff.1 h2).1, ?_, cur, h2⟩
    have := h.cells (g := g) rfl i (es.getD i e0).val (by simp [List.getD, show i < es.length by omega])
    rw [add_plain, Nat.zero_add] at this
    exact this
theorem quiet_more {P : Program} {f : FuncId} {args : Array Value} {w : World} {a n : Nat} {v : Value} (h : Calls P f args (w.drewN (a + n)) fun e w' => e = .returned v ∧ ∃ q, w' = (w.drewN (a + n)).drewN q) :
    Calls P f args (w.drewN (a + n)) fun e w' => e = .returned v ∧ ∃ q, w' = w.drewN (a + q) := h.mono fun _ _ ⟨he, q, hw⟩ => ⟨he, n + q, by rw [hw, World.drewN_drewN, Nat.add_assoc]⟩

/-! One list more. -/
/-- The slice at one of the book's places has grown by one list, and has been stored. -/
theorem grown_entry {C b o : Nat} {tB tL : TypeId} {w w1 : World} {cs : Array Value} {v v' x : Value} {k : Nat} {xs : List Value} (hne : tB ≠ tL) (hb : w.heap[b]? = some (.cells cs tB (0, 0))) (hCb : C ≤ b) (hC : C ≤ w.heap.size)
    (hv : w.ownsRow C tL 1 v k xs) (hown : w1.ownsRow C tL 1 v' (k + 1) (xs ++ [x])) (ob : Obj) (hg : (w.alloc ob).grownBy w1 v.ownBlock) (hat : v'.ownBlock = v.ownBlock ∨ v'.ownBlock = some (w.heap.size + 1)) :
    (w1.setCell ⟨b, o, none⟩ v').heap[b]? = some (.cells (cs.setIfInBounds o v') tB (0, 0)) ∧ (w1.setCell ⟨b, o, none⟩ v').ownsRow C tL 1 v' (k + 1) (xs ++ [x]) ∧ KT C (fun t => t ≠ tL ∧ t ≠ tB) w (w1.setCell ⟨b, o, none⟩ v') ∧
      w1.heap[b]? = some (.cells cs tB (0, 0)) ∧ ∀ g cur, w.heap[g]? = some (.cells cur tL (0, 0)) → v.ownBlock ≠ some g → (w1.setCell ⟨b, o, none⟩ v').heap[g]? = w.heap[g]? := by
  have hbl := (Array.getElem?_eq_some_iff.1 hb).1
  have hvb : v.ownBlock ≠ some b := fun e => by
    obtain ⟨cur, hc⟩ := owns_block hv e
    rw [hb] at hc; simp at hc; exact hne hc.2
  have hb1 : w1.heap[b]? = some (.cells cs tB (0, 0)) :=
    ((hg.block b (by rw [World.size_alloc]; omega) (fun e => hvb e.symm)).trans (Below.heap_alloc w ob b hbl)).trans hb
  have hv'b : v'.ownBlock ≠ some b := fun e => by
    obtain ⟨cur, hc⟩ := owns_block hown e
    rw [hb1] at hc; simp at hc; exact hne hc.2
  have hsz : w.heap.size ≤ w1.heap.size := by have := hg.size; rw [World.size_alloc] at this; omega
  refine ⟨?_, ownsRow_setCell_other hown hv'b _, ⟨⟨hg.os, hg.tape, hg.output, by rw [World.size_setCell]; exact hsz, fun i hi => ?_⟩, fun i cur t ht h1 => ?_⟩, hb1, fun g cur h1 h2 => ?_⟩
  · rw [setCell_eq_setRow w1 b o _ _ _ _ hb1, setRow_heap w1 b _ _ _ _ hb1]
  · rw [Below.heap_setCell _ _ _ _ (show i ≠ b by omega)]
    exact (hg.block i (by rw [World.size_alloc]; omega) (fun e => by have := (hv.lt i e.symm).1; omega)).trans (Below.heap_alloc w ob i (by omega))
  · have hlt := (Array.getElem?_eq_some_iff.1 h1).1
    have hib : i ≠ b := fun e => by rw [e, hb] at h1; simp at h1; exact ht.2 h1.2.symm
    rw [Below.heap_setCell _ _ _ _ hib]
    refine ((hg.block i (by rw [World.size_alloc]; omega) (fun e => ?_)).trans (Below.heap_alloc w ob i hlt)).trans h1
    obtain ⟨cur, hc⟩ := owns_block hv e.symm
    rw [h1] at hc
    simp at hc
    exact ht.1 hc.2
  · have hlt := (Array.getElem?_eq_some_iff.1 h1).1
    rw [Below.heap_setCell _ _ _ _ (fun e => by rw [e, hb] at h1; simp at h1; exact hne h1.2)]
    exact (hg.block g (by rw [World.size_alloc]; omega) (fun e => h2 e.symm)).trans (Below.heap_alloc w ob g hlt)
/-- What a list more leaves. -/
def Added (K : Kd α) (tB : TypeId) (o C b : Nat) (cs : Array Value) (es fs : List E) (ls ms : List (List α)) (e : E) (l : List α) (M : World → List α → Prop) (w w' : World) : Prop :=
  ∃ f v u m, w'.heap[b]? = some (.cells ((cs.setIfInBounds o v).setIfInBounds (o + 1) u) tB (0, 0)) ∧ Part K C w' v u (es ++ [e]) (fs ++ [f]) (ls ++ [l]) (ms ++ [m]) ∧ M w' m ∧ KT C (fun t => t ≠ K.tL ∧ t ≠ tB) w w' ∧ ∀ g, f.own = some g → w.heap.size ≤ g
theorem added_end {tB : TypeId} {o C b k kf n c c' cu n2 c2 c3 : Nat} {es fs : List E} {ls ms : List (List α)} {A A' Au A2 A3 : Option Addr} {l m : List α} {M : World → List α → Prop} {v0 : Value} {w W w2 w3 : World} {cs0 : Array Value}
    (hne : tB ≠ K.tL) (hneE : tB ≠ K.tE) (hCb : C ≤ b) (hC : C ≤ w.heap.size) (hk : es.length = k) (hkf : fs.length = kf) (P : Part K C w v0 (.slice Au kf cu) es fs ls ms) (HR : Row K C w ⟨A, n, c⟩ l) (HF : ∀ x ∈ es ++ fs, FarR x ⟨A, n, c⟩)
    (K2 : W.ownsRow C K.tL 1 (.slice A' (k + 1) c') (k + 1) (es.map E.val ++ [.slice A n c])) (K3 : KT C (fun t => t ≠ K.tL ∧ t ≠ tB) w W)
    (HUV : ∀ g, (Value.slice A' (k + 1) c').ownBlock = some g → (Value.slice Au kf cu).ownBlock ≠ some g) (HU : W.ownsRow C K.tL 1 (.slice Au kf cu) kf (fs.map E.val))
    (hb2 : Below W.heap.size W w2) (hr2 : Row K W.heap.size w2 ⟨A2, n2, c2⟩ m) (hM : ∀ w', KT C (fun t => t ≠ K.tL ∧ t ≠ tB) w2 w' → M w' m)
    (h1 : (w3.setCell ⟨b, o + 1, none⟩ (.slice A3 (kf + 1) c3)).heap[b]? = some (.cells ((cs0.setIfInBounds o (.slice A' (k + 1) c')).setIfInBounds (o + 1) (.slice A3 (kf + 1) c3)) tB (0, 0)))
    (h2 : (w3.setCell ⟨b, o + 1, none⟩ (.slice A3 (kf + 1) c3)).ownsRow C K.tL 1 (.slice A3 (kf + 1) c3) (kf + 1) (fs.map E.val ++ [.slice A2 n2 c2])) (h3 : KT C (fun t => t ≠ K.tL ∧ t ≠ tB) w2 (w3.setCell ⟨b, o + 1, none⟩ (.slice A3 (kf + 1) c3)))
    (h6 : ∀ g cur, w2.heap[g]? = some (.cells cur K.tL (0, 0)) → (Value.slice Au kf cu).ownBlock ≠ some g → (w3.setCell ⟨b, o + 1, none⟩ (.slice A3 (kf + 1) c3)).heap[g]? = w2.heap[g]?)
    (hat : (Value.slice A3 (kf + 1) c3).ownBlock = (Value.slice Au kf cu).ownBlock ∨ (Value.slice A3 (kf + 1) c3).ownBlock = some (w2.heap.size + 1)) :
    Added K tB o C b cs0 es fs ls ms ⟨A, n, c⟩ l M w (w3.setCell ⟨b, o + 1, none⟩ (.slice A3 (kf + 1) c3)) := by
  have hws : w.heap.size ≤ W.heap.size := K3.1.size
  have hCW : C ≤ W.heap.size := Nat.le_trans hC hws
  have kw2 : KT C (fun t => t ≠ K.tL ∧ t ≠ tB) w w2 := K3.trans (KT.of_below hb2 hCW)
  have kall := kw2.trans h3
  have hE : K.tE ≠ K.tL ∧ K.tE ≠ tB := ⟨K.ne, fun e => hneE e.symm⟩
  have hv2 : w2.ownsRow C K.tL 1 (.slice A' (k + 1) c') (k + 1) (es.map E.val ++ [.slice A n c]) := owns_below K2 hb2
  have hv4 : (w3.setCell ⟨b, o + 1, none⟩ (.slice A3 (kf + 1) c3)).ownsRow C K.tL 1 (.slice A' (k + 1) c') (k + 1) (es.map E.val ++ [.slice A n c]) := owns_kept hv2 fun g hg => by
    obtain ⟨cur, hc⟩ := owns_block hv2 hg
    exact h6 g cur hc (HUV g hg)
  refine ⟨⟨A2, n2, c2⟩, _, _, m, h1, ⟨?_, ?_, fun g hg hu => ?_, by simp [P.nl], by simp [P.nm], (P.el.kt kall hE).snoc P.nl (HR.kt kall hE), (P.fl.kt kall hE).snoc P.nm ((hr2.base hCW).kt h3 hE), far_two P.far HF fun x hx g hg hf => ?_⟩, hM _ h3, kall, fun g hf => Nat.le_trans hws (hr2.lt hf).1⟩
  · rw [List.length_append, hk, List.map_append]; exact hv4
  · rw [List.length_append, hkf, List.map_append]; exact h2
  · rcases hat with e | e
    · exact HUV g hg (e ▸ hu)
    · rw [e] at hu
      have e1 : w2.heap.size + 1 = g := by simpa using hu
      have := (hv2.lt g hg).2
      omega
  · have a1 : W.heap.size ≤ g := (hr2.lt hf).1
    have a2 : g < w.heap.size := by
      rcases List.mem_append.1 hx with hx | hx
      · rcases List.mem_append.1 hx with hx | hx
        · exact (P.el.lt x hx g hg).2
        · exact (P.fl.lt x hx g hg).2
      · simp at hx
        subst hx
        exact (HR.lt hg).2
    omega

/-! Marks. -/
def marks (K : Kd α) (i a n : Nat) : List α := (List.range n).map fun k => K.mark i (a + k)
theorem marks_length (i a n : Nat) : (marks K i a n).length = n := by simp [marks]
theorem marks_succ (i a n : Nat) : marks K i a (n + 1) = marks K i a n ++ [K.mark i (a + n)] := by simp [marks, List.range_succ]
theorem marks_add (i a n m : Nat) : marks K i a (n + m) = marks K i a n ++ marks K i (a + n) m := by
  induction m with
  | zero => simp [marks]
  | succ m ih => rw [← Nat.add_assoc, marks_succ, ih, marks_succ, List.append_assoc, Nat.add_assoc]
theorem marks_getD (i a n k : Nat) (h : k < n) : (marks K i a n).getD k K.nil = K.mark i (a + k) := by simp [marks, List.getD, h]
/-- All but the lists' own rows is as it was. -/
def KeptE (es : List E) (w w' : World) : Prop := w'.os = w.os ∧ w'.tape = w.tape ∧ w'.output = w.output ∧ w.heap.size ≤ w'.heap.size ∧ ∀ k, k < w.heap.size → (∀ e ∈ es, e.own ≠ some k) → w'.heap[k]? = w.heap[k]?
theorem KeptE.refl (es : List E) (w : World) : KeptE es w w := ⟨rfl, rfl, rfl, Nat.le_refl _, fun _ _ _ => rfl⟩
theorem KeptE.trans {es : List E} {x y z : World} (h : KeptE es x y) (k : KeptE es y z) : KeptE es x z := ⟨k.1.trans h.1, k.2.1.trans h.2.1, k.2.2.1.trans h.2.2.1, Nat.le_trans h.2.2.2.1 k.2.2.2.1, fun i h1 h2 => (k.2.2.2.2 i (Nat.lt_of_lt_of_le h1 h.2.2.2.1) h2).trans (h.2.2.2.2 i h1 h2)⟩
theorem KeptE.of_below {es : List E} {x y : World} (h : Below x.heap.size x y) : KeptE es x y := ⟨h.os, h.tape, h.output, h.size, fun k hk _ => h.block k hk⟩
theorem KeptE.kt {C : Nat} {es : List E} {x y : World} {F : Nat → List α} (h : KeptE es x y) (hc : Conts K C x es F) (hC : C ≤ x.heap.size) : KT C (fun t => t ≠ K.tE) x y :=
  ⟨⟨h.1, h.2.1, h.2.2.1, h.2.2.2.1, fun k hk => h.2.2.2.2 k (by omega) fun e he hg => by have := (hc.lt e he k hg).1; omega⟩,
    fun k cur t ht hk => (h.2.2.2.2 k (Array.getElem?_eq_some_iff.1 hk).1 (hc.type hk ht)).trans hk⟩
theorem KeptE.cell {es : List E} {w w' : World} (h : KeptE es w w') {a : Addr} {v : Value} (hc : w.cell? a = some v) (hn : ∀ e ∈ es, e.own ≠ some a.block) : w'.cell? a = some v :=
  (World.cell?_of_block (w := w) (h.2.2.2.2 a.block (World.block_lt_of_cell? w a hc) hn)).trans hc
/-- One element set in one list. -/
theorem set_row {C g t : Nat} {w : World} {e : E} {l : List α} {x : α} (h : Row K C w e l) (hA : e.own = some g) (ht : t < l.length) : Row K C (w.setCells g (t * K.sz) (K.enc x)) e (l.set t x) := by
  refine ⟨by rw [List.length_set]; exact h.1, ?_⟩
  rw [← K.cs_set x l t ht]
  exact own_setCells _ _ _ _ h.2 hA (by rw [K.len, K.cs_length]; have := Nat.mul_le_mul_right K.sz (show t + 1 ≤ l.length by omega); rw [Nat.add_mul] at this; omega)
theorem set_other {C g o : Nat} {w : World} {e : E} {l : List α} {vs : List Value} (h : Row K C w e l) (hA : e.own ≠ some g) : Row K C (w.setCells g o vs) e l :=
  h.keep fun q hq => setCells_heap (k := q) (g := g) (fun hh => hA (by rw [← hh]; exact hq)) _ _ _
theorem set_keptE {es : List E} {w : World} {g o : Nat} {vs : List Value} {e : E} (he : e ∈ es) (hg : e.own = some g) : KeptE es w (w.setCells g o vs) :=
  ⟨(setCells_os _ _ _).1, (setCells_os _ _ _).2.1, (setCells_os _ _ _).2.2, by rw [setCells_size]; exact Nat.le_refl _, fun k hk h => setCells_heap (fun e' => h e he (by rw [hg, e'])) _ _ _⟩
def upF (F : Nat → List α) (i : Nat) (l : List α) : Nat → List α := fun j => if j = i then l else F j
theorem upF_same (F : Nat → List α) (i : Nat) (l : List α) : upF F i l i = l := by simp [upF]
theorem upF_other (F : Nat → List α) (i j : Nat) (l : List α) (h : j ≠ i) : upF F i l j = F j := by simp [upF, h]
theorem set_conts {C : Nat} {w : World} {es : List E} {F : Nat → List α} {i g t : Nat} {x : α} (h : Conts K C w es F) (hf : Far es) (hi : i < es.length) (hA : (es.getD i e0).own = some g) (ht : t < (F i).length) :
    Conts K C (w.setCells g (t * K.sz) (K.enc x)) es (upF F i ((F i).set t x)) := by
  intro j hj
  by_cases e : j = i
  · subst e
    rw [upF_same]
    exact set_row (h j hj) hA ht
  · rw [upF_other _ _ _ _ e]
    exact set_other (h j hj) fun hh => hf.at hi hj (Ne.symm e) g hA hh
/-- So far marked. -/
def mix (K : Kd α) (i t : Nat) (l : List α) : List α := marks K i 0 t ++ l.drop t
theorem mix_zero (i : Nat) (l : List α) : mix K i 0 l = l := by simp [mix, marks]
theorem mix_all (i : Nat) (l : List α) (t : Nat) (h : t = l.length) : mix K i t l = marks K i 0 t := by subst h; simp [mix]
theorem mix_length (i t : Nat) (l : List α) (h : t ≤ l.length) : (mix K i t l).length = l.length := by unfold mix; rw [List.length_append, marks_length, List.length_drop]; omega
theorem mix_set (i t : Nat) (l : List α) (h : t < l.length) : (mix K i t l).set t (K.mark i t) = mix K i (t + 1) l := by
  unfold mix
  rw [List.set_append_right _ _ (by rw [marks_length]; omega), marks_length, Nat.sub_self, List.drop_eq_getElem_cons h, List.set_cons_zero, marks_succ, Nat.zero_add, List.append_assoc]
  rfl
/-- The lists' contents while they are marked. -/
def half (K : Kd α) (F : Nat → List α) (i t : Nat) : Nat → List α := fun j => if j < i then marks K j 0 (F j).length else if j = i then mix K i t (F i) else F j
theorem half_zero (F : Nat → List α) : half K F 0 0 = F := by
  funext j
  unfold half
  by_cases h : j = 0
  · subst h; simp [mix_zero]
  · simp [h]
theorem half_next (F : Nat → List α) (i : Nat) : half K F i (F i).length = half K F (i + 1) 0 := by
  funext j
  unfold half
  by_cases h1 : j < i
  · simp [h1, show j < i + 1 by omega]
  · by_cases h2 : j = i
    · subst h2
      simp [mix_all]
    · by_cases h3 : j = i + 1
      · subst h3; simp [h1, mix_zero]
      · simp [h1, h2, h3, show ¬ j < i + 1 by omega]
theorem half_set (F : Nat → List α) (i t : Nat) (h : t < (F i).length) : upF (half K F i t) i ((half K F i t i).set t (K.mark i t)) = half K F i (t + 1) := by
  funext j
  have e : half K F i t i = mix K i t (F i) := by simp [half]
  rw [e, mix_set i t _ h]
  unfold upF half
  by_cases h1 : j = i
  · subst h1; simp
  · simp [h1]
def Marking (K : Kd α) (C : Nat) (es : List E) (F : Nat → List α) (w : World) (i t : Nat) (wr : World) : Prop := Conts K C wr es (half K F i t) ∧ KeptE es w wr
theorem Marking.below {C : Nat} {es : List E} {F : Nat → List α} {w : World} {i t : Nat} {wr w' : World} (h : Marking K C es F w i t wr) (hb : Below wr.heap.size wr w') : Marking K C es F w i t w' := ⟨h.1.below hb, h.2.trans (KeptE.of_below hb)⟩
theorem Marking.drewN {C : Nat} {es : List E} {F : Nat → List α} {w : World} {i t : Nat} {wr : World} (h : Marking K C es F w i t wr) (n : Nat) : Marking K C es F w i t (wr.drewN n) := h.below ⟨rfl, rfl, rfl, Nat.le_refl _, fun _ _ => rfl⟩
theorem Marking.set {C : Nat} {es : List E} {F : Nat → List α} {w : World} {i t g : Nat} {wr : World} (h : Marking K C es F w i t wr) (hf : Far es) (hi : i < es.length) (ht : t < (F i).length) (hA : (es.getD i e0).own = some g) :
    Marking K C es F w i (t + 1) (wr.setCells g (t * K.sz) (K.enc (K.mark i t))) := by
  obtain ⟨h2, h4⟩ := h
  refine ⟨?_, h4.trans (set_keptE (getE_mem hi) hA)⟩
  rw [← half_set F i t ht]
  exact set_conts h2 hf hi hA (by
    have e : half K F i t i = mix K i t (F i) := by simp [half]
    rw [e, mix_length _ _ _ (by omega)]; exact ht)
theorem half_all {C : Nat} (F : Nat → List α) (es : List E) (w : World) (h : Conts K C w es F) (j : Nat) (hj : j < es.length) : half K F es.length 0 j = marks K j 0 (es.getD j e0).n := by
  unfold half
  rw [if_pos hj, ← (h j hj).1]
/-- Marked all. -/
theorem Marking.all {C : Nat} {es : List E} {F : Nat → List α} {w w' : World} (h : Marking K C es F w es.length 0 w') (h2 : Conts K C w es F) : Conts K C w' es (fun j => marks K j 0 (es.getD j e0).n) := fun j hj => by
  have := h.1 j hj
  rw [half_all F es w h2 j hj] at this
  exact this

/-! Growing. -/
/-- A list, read. -/
def Rd (K : Kd α) (w : World) (e : E) (l : List α) : Prop := e.n = l.length ∧ ∀ s, s < e.n → ∃ g, e.A = some ⟨g, 0, none⟩ ∧ (∃ cur, w.heap[g]? = some (.cells cur K.tE (0, 0))) ∧ ∀ j u, (K.enc (l.getD s K.nil))[j]? = some u → w.cell? ⟨g, s * K.sz + j, none⟩ = some u
theorem Row.rd {C : Nat} {w : World} {e : E} {l : List α} (h : Row K C w e l) : Rd K w e l := ⟨h.1, fun s hs => by
  obtain ⟨g, h1, _, h2⟩ := h.at hs
  exact ⟨g, h1, h.block (by unfold E.own E.val; rw [h1]; rfl), h2⟩⟩
theorem Rd.kept {w w' : World} {e : E} {l : List α} (h : Rd K w e l) (hk : ∀ g, e.own = some g → g < w.heap.size → w'.heap[g]? = w.heap[g]?) : Rd K w' e l := ⟨h.1, fun s hs => by
  obtain ⟨g, h1, ⟨cur, h2⟩, h3⟩ := h.2 s hs
  have e1 := hk g (by unfold E.own E.val; rw [h1]; rfl) (Array.getElem?_eq_some_iff.1 h2).1
  exact ⟨g, h1, ⟨cur, e1.trans h2⟩, fun j u hu => (World.cell?_of_block (w := w) (a := ⟨g, s * K.sz + j, none⟩) e1).trans (h3 j u hu)⟩⟩
theorem Rd.kt {D : Nat} {T : TypeId → Prop} {w w' : World} {e : E} {l : List α} (h : Rd K w e l) (k : KT D T w w') (ht : T K.tE) : Rd K w' e l := ⟨h.1, fun s hs => by
  obtain ⟨g, h1, ⟨cur, h2⟩, h3⟩ := h.2 s hs
  have e1 := k.2 g cur _ ht h2
  exact ⟨g, h1, ⟨cur, e1⟩, fun j u hu => (World.cell?_of_block (w := w) (a := ⟨g, s * K.sz + j, none⟩) (e1.trans h2.symm)).trans (h3 j u hu)⟩⟩
theorem Rd.below {w w' : World} {e : E} {l : List α} (h : Rd K w e l) (hb : Below w.heap.size w w') : Rd K w' e l := h.kept fun g _ hl => hb.block g hl
/-- One list while it grows: v holds n + t marks; the list itself still reads as it did; all else from the round's start w0 on is as it was. -/
structure Growth (K : Kd α) (C : Nat) (w0 : World) (e : E) (i t : Nat) (v : Value) (w : World) : Prop where
  own : w.ownsRow C K.tE K.sz v (e.n + t) (K.cs (marks K i 0 (e.n + t)))
  near : v.ownBlock = e.own ∨ ∃ g, w0.heap.size ≤ g ∧ v.ownBlock = some g
  rd : Rd K w e (marks K i 0 e.n)
  frame : w0.grownBy w e.own
theorem grown_trans2 {a b c : World} {o : Option Nat} (h : a.grownBy b o) (k : b.grownBy c o) : a.grownBy c o :=
  ⟨k.os.trans h.os, k.tape.trans h.tape, k.output.trans h.output, Nat.le_trans h.size k.size, fun i h1 h2 => (k.block i (Nat.lt_of_lt_of_le h1 h.size) h2).trans (h.block i h1 h2)⟩
theorem Growth.start {C : Nat} {w0 : World} {e : E} {i : Nat} (h : Row K C w0 e (marks K i 0 e.n)) : Growth K C w0 e i 0 e.val w0 := ⟨h.2, .inl rfl, h.rd, ⟨rfl, rfl, rfl, Nat.le_refl _, fun _ _ _ => rfl⟩⟩
theorem Growth.below {C : Nat} {w0 : World} {e : E} {i t : Nat} {v : Value} {w w' : World} (h : Growth K C w0 e i t v w) (hb : Below w.heap.size w w') : Growth K C w0 e i t v w' :=
  ⟨owns_below h.own hb, h.near, h.rd.below hb, grown_trans2 h.frame ⟨hb.os, hb.tape, hb.output, hb.size, fun k hk _ => hb.block k hk⟩⟩
theorem Growth.step {C : Nat} {w0 : World} {e : E} {i t m : Nat} {v v' : Value} {w w' : World} (h : Growth K C w0 e i t v w) (he : ∀ g, e.own = some g → g < w0.heap.size)
    (hown : w'.ownsRow C K.tE K.sz v' (e.n + t + m) (K.cs (marks K i 0 (e.n + t)) ++ K.cs (marks K i (e.n + t) m)))
    (hp : (v'.ownBlock = v.ownBlock ∧ w.grownBy w' v.ownBlock) ∨ (v'.ownBlock = some w.heap.size ∧ w.grownBy w' none)) : Growth K C w0 e i (t + m) v' w' := by
  have hown' : w'.ownsRow C K.tE K.sz v' (e.n + (t + m)) (K.cs (marks K i 0 (e.n + (t + m)))) := by
    rw [← Nat.add_assoc, marks_add, Nat.zero_add, K.cs_append]
    exact hown
  have hsz0 : w0.heap.size ≤ w.heap.size := h.frame.size
  rcases hp with ⟨hv, hg⟩ | ⟨hv, hg⟩
  · rcases h.near with hn | ⟨g, g1, g2⟩
    · refine ⟨hown', .inl (hv.trans hn), ⟨h.rd.1, fun s hs => ?_⟩, grown_trans2 h.frame (by rw [← hn]; exact hg)⟩
      obtain ⟨g, a1, _, _⟩ := h.rd.2 s hs
      have ho : v'.ownBlock = some g := by rw [hv, hn]; unfold E.own E.val; rw [a1]; rfl
      refine ⟨g, a1, owns_block hown' ho, fun j u hu => ?_⟩
      rw [marks_getD _ _ _ _ hs] at hu
      have := hown'.cells ho (s * K.sz + j) u (K.cs_get _ s (by rw [marks_length]; omega) j u (by rw [marks_getD _ _ _ _ (by omega)]; exact hu))
      rw [add_plain, Nat.zero_add] at this
      exact this
    · have hne : e.own ≠ v.ownBlock := fun hh => by
        have := he g (hh.trans g2)
        omega
      refine ⟨hown', .inr ⟨g, g1, hv.trans g2⟩, h.rd.kept fun q hq hl => hg.block q hl (fun hh => hne (hq.trans hh)), ⟨hg.os.trans h.frame.os, hg.tape.trans h.frame.tape, hg.output.trans h.frame.output, Nat.le_trans h.frame.size hg.size, fun q h1 h2 => (hg.block q (Nat.lt_of_lt_of_le h1 hsz0) (fun hh => ?_)).trans (h.frame.block q h1 h2)⟩⟩
      rw [g2] at hh
      simp only [Option.some.injEq] at hh
      omega
  · refine ⟨hown', .inr ⟨_, hsz0, hv⟩, h.rd.kept fun q hq hl => hg.block q hl (by simp), ⟨hg.os.trans h.frame.os, hg.tape.trans h.frame.tape, hg.output.trans h.frame.output, Nat.le_trans h.frame.size hg.size, fun q h1 h2 => (hg.block q (Nat.lt_of_lt_of_le h1 hsz0) (by simp)).trans (h.frame.block q h1 h2)⟩⟩
/-- The lists while they grow: the first i have grown into gs. -/
structure Grown (K : Kd α) (C : Nat) (es : List E) (w0 : World) (i : Nat) (out : Value) (gs : List E) (w : World) : Prop where
  len : gs.length = i
  out : w.ownsRow w0.heap.size K.tL 1 out i (gs.map E.val)
  new : ∀ j, j < i → (gs.getD j e0).n = (es.getD j e0).n + 72 ∧ Row K C w (gs.getD j e0) (marks K j 0 ((es.getD j e0).n + 72)) ∧ ((gs.getD j e0).own = (es.getD j e0).own ∨ ∃ g, w0.heap.size ≤ g ∧ (gs.getD j e0).own = some g)
  old : ∀ j, j < i → Rd K w (es.getD j e0) (marks K j 0 (es.getD j e0).n)
  rest : ∀ j, i ≤ j → j < es.length → Row K C w (es.getD j e0) (marks K j 0 (es.getD j e0).n)
  kept : KeptE es w0 w
theorem Grown.below {C : Nat} {es : List E} {w0 : World} {i : Nat} {out : Value} {gs : List E} {w w' : World} (h : Grown K C es w0 i out gs w) (hb : Below w.heap.size w w') : Grown K C es w0 i out gs w' :=
  ⟨h.len, owns_below h.out hb, fun j hj => ⟨(h.new j hj).1, (h.new j hj).2.1.below hb, (h.new j hj).2.2⟩, fun j hj => (h.old j hj).below hb, fun j h1 h2 => (h.rest j h1 h2).below hb, h.kept.trans (KeptE.of_below hb)⟩
theorem grown_next {C : Nat} {es : List E} {w0 : World} {i : Nat} {out out' : Value} {gs : List E} {wr w w' : World} {A : Option Addr} {c : Nat} {ob : Obj} (h : Grown K C es w0 i out gs wr) (hf : Far es) (hi : i < es.length) (hes : ∀ e ∈ es, ∀ g, e.own = some g → g < w0.heap.size)
    (hg : Growth K C wr (es.getD i e0) i 72 (.slice A ((es.getD i e0).n + 72) c) w) (hw : w'.ownsRow w0.heap.size K.tL 1 out' (i + 1) (gs.map E.val ++ [.slice A ((es.getD i e0).n + 72) c])) (hk : (w.alloc ob).grownBy w' out.ownBlock) :
    Grown K C es w0 (i + 1) out' (gs ++ [⟨A, (es.getD i e0).n + 72, c⟩]) w' := by
  have hsz : w0.heap.size ≤ wr.heap.size := h.kept.2.2.2.1
  have hsz1 : wr.heap.size ≤ w.heap.size := hg.frame.size
  have hsz2 : w.heap.size ≤ w'.heap.size := by have := hk.size; rw [World.size_alloc] at this; omega
  have far1 : ∀ g, g < wr.heap.size → (es.getD i e0).own ≠ some g → w.heap[g]? = wr.heap[g]? := fun g h1 h2 => hg.frame.block g h1 (fun e => h2 e.symm)
  have far2 : ∀ g, g < w.heap.size → out.ownBlock ≠ some g → w'.heap[g]? = w.heap[g]? := fun g h1 h2 => (hk.block g (by rw [World.size_alloc]; omega) (fun e => h2 e.symm)).trans (Below.heap_alloc w ob g h1)
  have outw : w.ownsRow w0.heap.size K.tL 1 out i (gs.map E.val) := owns_kept h.out fun g hgo => far1 g (h.out.lt g hgo).2 fun he => by
    obtain ⟨cur, hc⟩ := owns_block h.out hgo
    obtain ⟨cur', hc'⟩ := (h.rest i (Nat.le_refl _) hi).block he
    rw [hc] at hc'
    simp at hc'
    exact K.ne hc'.2.symm
  have low : ∀ g, g < w0.heap.size → out.ownBlock ≠ some g := fun g hg' e => by have := (h.out.lt g e).1; omega
  have rowst : ∀ {e : E} {l : List α}, Row K C w e l → Row K C w' e l := fun hr => hr.keep fun g hgo => far2 g (hr.lt hgo).2 fun he => by
    obtain ⟨cur, hc⟩ := owns_block outw he
    obtain ⟨cur', hc'⟩ := hr.block hgo
    rw [hc] at hc'
    simp at hc'
    exact K.ne hc'.2.symm
  refine ⟨by simp [h.len], by rw [List.map_append]; exact hw, fun j hj => ?_, fun j hj => ?_, fun j h1 h2 => ?_, ?_⟩
  · by_cases hji : j < i
    · rw [getD_lt _ _ _ _ (by rw [h.len]; exact hji)]
      obtain ⟨n1, n2, n3⟩ := h.new j hji
      refine ⟨n1, rowst (n2.keep fun g hgo => far1 g (n2.lt hgo).2 fun he => ?_), n3⟩
      rcases n3 with n3 | ⟨q, q1, q2⟩
      · exact (hf.at (show j < es.length by omega) hi (by omega)) g (n3.symm.trans hgo) he
      · have e1 : q = g := by have := q2.symm.trans hgo; simpa using this
        have := hes _ (getE_mem hi) g he
        omega
    · have : j = i := by omega
      subst this
      have e1 := getD_last gs (⟨A, (es.getD j e0).n + 72, c⟩ : E) e0
      rw [h.len] at e1
      rw [e1]
      refine ⟨rfl, rowst ⟨(marks_length _ _ _).symm, hg.own⟩, ?_⟩
      rcases hg.near with hn | ⟨q, q1, q2⟩
      · exact .inl hn
      · exact .inr ⟨q, by omega, q2⟩
  · by_cases hji : j < i
    · refine ((h.old j hji).kept fun g hgo hl => far1 g hl ?_).kept fun g hgo hl => far2 g hl (low g (hes _ (getE_mem (by omega)) g hgo))
      exact (hf.at (show j < es.length by omega) hi (by omega)) g hgo
    · have : j = i := by omega
      subst this
      exact hg.rd.kept fun g hgo hl => far2 g hl (low g (hes _ (getE_mem hi) g hgo))
  · have hr := h.rest j (by omega) h2
    exact rowst (hr.keep fun g hgo => far1 g (hr.lt hgo).2 ((hf.at h2 hi (by omega)) g hgo))
  · obtain ⟨k1, k2, k3, k4, k5⟩ := h.kept
    refine ⟨(hk.os.trans hg.frame.os).trans k1, (hk.tape.trans hg.frame.tape).trans k2, (hk.output.trans hg.frame.output).trans k3, by omega, fun g h1 h2 => ?_⟩
    exact ((far2 g (by omega) (low g h1)).trans (far1 g (by omega) (h2 _ (getE_mem hi)))).trans (k5 g h1 h2)
theorem row_src {w : World} {B : Nat} {A : Option Addr} {m c i a : Nat} (h : w.ownsRow B K.tE K.sz (.slice A m c) m (K.cs (marks K i a m))) (hm : 0 < m) : ∃ g, A = some ⟨g, 0, none⟩ ∧ ∀ j u, (K.cs (marks K i a m))[j]? = some u → w.cell? ((⟨g, 0, none⟩ : Addr).add j) = some u := by
  rcases h.2 with ⟨_, h0⟩ | ⟨g, cap, cur, h1, _⟩
  · omega
  · simp only [Value.slice.injEq] at h1
    obtain ⟨rfl, _, rfl⟩ := h1
    exact ⟨g, rfl, h.cells (g := g) rfl⟩
/-- What grow leaves. -/
def GrownAll (K : Kd α) (C : Nat) (es : List E) (w : World) (e : Ending) (w' : World) : Prop := ∃ A c gs, e = .returned (.slice A es.length c) ∧ Grown K C es w es.length (.slice A es.length c) gs w'
/-- A kind's lists, as they stand: v the slice of them. -/
structure St (K : Kd α) (C : Nat) (w : World) (v : Value) (es : List E) (F : Nat → List α) : Prop where
  vr : w.ownsRow C K.tL 1 v es.length (es.map E.val)
  ct : Conts K C w es F
  far : Far es
  few : es.length ≤ 200
  short : ∀ i, i < es.length → (es.getD i e0).n ≤ 90000
def markF (K : Kd α) (es : List E) : Nat → List α := fun j => marks K j 0 (es.getD j e0).n
theorem St.kt {C D : Nat} {T : TypeId → Prop} {w w' : World} {v : Value} {es : List E} {F : Nat → List α} (h : St K C w v es F) (k : KT D T w w') (h1 : T K.tE) (h2 : T K.tL) : St K C w' v es F := ⟨owns_kt h.vr k h2, h.ct.kt k h1, h.far, h.few, h.short⟩
theorem St.below {C : Nat} {w w' : World} {v : Value} {es : List E} {F : Nat → List α} (h : St K C w v es F) (hb : Below w.heap.size w w') : St K C w' v es F := ⟨owns_below h.vr hb, h.ct.below hb, h.far, h.few, h.short⟩
theorem Part.st {C : Nat} {w : World} {v u : Value} {es fs : List E} {ls ms : List (List α)} (h : Part K C w v u es fs ls ms) (h1 : es.length ≤ 200) (h2 : ∀ i, i < es.length → (es.getD i e0).n ≤ 90000) : St K C w v es (fun i => ls.getD i []) := ⟨h.vr, h.el, h.far.left, h1, h2⟩
theorem St.put {C : Nat} {w w' : World} {v : Value} {es : List E} {F : Nat → List α} (h : St K C w v es F) (hm : Marking K C es F w es.length 0 w') (hC : C ≤ w.heap.size) : KT C (fun t => t ≠ K.tE) w w' ∧ St K C w' v es (markF K es) := by
  have k := hm.2.kt h.ct hC
  exact ⟨k, owns_kt h.vr k (fun e => K.ne e.symm), hm.all h.ct, h.far, h.few, h.short⟩
/-- Behind the growing. -/
structure Done (K : Kd α) (C : Nat) (w : World) (v : Value) (es : List E) (A : Option Addr) (c : Nat) (gs : List E) : Prop where
  vr : w.ownsRow C K.tL 1 v es.length (es.map E.val)
  out : w.ownsRow C K.tL 1 (.slice A es.length c) es.length (gs.map E.val)
  len : gs.length = es.length
  few : es.length ≤ 200
  new : ∀ j, j < es.length → Rd K w (gs.getD j e0) (marks K j 0 (gs.getD j e0).n)
  news : ∀ j, j < es.length → (gs.getD j e0).n ≤ 1000000
  old : ∀ j, j < es.length → Rd K w (es.getD j e0) (marks K j 0 (es.getD j e0).n)
  olds : ∀ j, j < es.length → (es.getD j e0).n ≤ 1000000
theorem Done.kt {C D : Nat} {T : TypeId → Prop} {w w' : World} {v : Value} {es gs : List E} {A : Option Addr} {c : Nat} (h : Done K C w v es A c gs) (k : KT D T w w') (h1 : T K.tE) (h2 : T K.tL) : Done K C w' v es A c gs :=
  ⟨owns_kt h.vr k h2, owns_kt h.out k h2, h.len, h.few, fun j hj => (h.new j hj).kt k h1, h.news, fun j hj => (h.old j hj).kt k h1, h.olds⟩
theorem Done.below {C : Nat} {w w' : World} {v : Value} {es gs : List E} {A : Option Addr} {c : Nat} (h : Done K C w v es A c gs) (hb : Below w.heap.size w w') : Done K C w' v es A c gs :=
  ⟨owns_below h.vr hb, owns_below h.out hb, h.len, h.few, fun j hj => (h.new j hj).below hb, h.news, fun j hj => (h.old j hj).below hb, h.olds⟩
theorem St.grow {C : Nat} {w w' : World} {v : Value} {es : List E} {e : Ending} (h : St K C w v es (markF K es)) (hg : GrownAll K C es w e w') (hC : C ≤ w.heap.size) : ∃ A c gs, e = .returned (.slice A es.length c) ∧ KT C (fun t => t ≠ K.tE) w w' ∧ Done K C w' v es A c gs := by
  obtain ⟨A, c, gs, he, g⟩ := hg
  have k := g.kept.kt h.ct hC
  refine ⟨A, c, gs, he, k, owns_kt h.vr k (fun e => K.ne e.symm), own_base g.out hC, g.len, h.few, fun j hj => ?_, fun j hj => ?_, fun j hj => g.old j hj, fun j hj => by have := h.short j hj; omega⟩
  · rw [(g.new j hj).1]; exact (g.new j hj).2.1.rd
  · rw [(g.new j hj).1]; have := h.short j hj; omega
/-- A new row of the call's own. -/
def MadeL (K : Kd α) (l : List α) (w : World) (e : Ending) (w' : World) : Prop := ∃ A c, e = .returned (.slice A l.length c) ∧ w'.ownsRow w.heap.size K.tE K.sz (.slice A l.length c) l.length (K.cs l) ∧ Below w.heap.size w w'
end
end Go.Proofs.YtbdpmfgphhgigaaGreat.Bk
