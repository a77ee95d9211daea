/- Blocks; lists of texts in memory: as handed in, as rows of a call's own; rows of bytes. -/
import Derived.Test.YtnjggoeahaglbaaGreatFp
import Derived.Test.YtnjggoeahaglbaaGreatChecked
import Derived.Test.YtnjggoeahaglbaaGreatRows
import Derived.WalkKit
import Derived.ProofKit
import Derived.IntWalk
import Derived.Below
import Derived.Carry
import Derived.OneCell
import Derived.LoopTactic
import Derived.BigQuiet
import Derived.RegionTactic
import Derived.Deep.QuietTactic
import Derived.Deep.OwnRows
import Derived.Deep.AppendLies
import Derived.Laws.BytesArg
import Derived.Laws.MakeOwn
import Derived.Laws.IdiomStrings
import Derived.SliceStrings
import Derived.Maps.AppendAt
import Derived.OwnWalk
import Derived.Laws.AppendOwn
import Derived.Deep.MidRow
import Derived.RangeFuncBox
import Derived.Lib.Hide
import Derived.Lib.AppendStr
import Derived.Lib.Strings
import Derived.StillTailTactics
import Derived.Laws.BitsAllLaws
import Derived.Laws.Entries
import Derived.Shelf.LaysM
import Derived.Shelf.Strconv.Clone
import Derived.Shelf.Strings.Repeat
import Derived.Deep.RegionHeld3
import Derived.Deep.RegionLaw
import Derived.Deep.DeepCutAuto
import Derived.Deep.CutBlock
import Derived.Laws.EntriesVeiled
import Derived.RangeFuncNested
import Derived.RangeFuncBound
import Derived.RangeFuncCalls
import Derived.RangeFuncLeaves
import Derived.Shelf.Abstract
import Derived.Shelf.RegionOpen
import Derived.OwnWalkIn
import Derived.TacticsInMore
import Derived.LoopNIn
import Derived.LoopIn
import Derived.RangeFuncWrites
namespace Go.Proofs.YtnjggoeahaglbaaGreat.Fr
open Go.ChangeShapes Go.WideShapes Go.ChangeAt Go.RowKit
set_option linter.unusedVariables false
set_option linter.unusedSimpArgs false
set_option maxRecDepth 100000
abbrev ptr (p : Nat) : Value := .pointer (some ⟨p, 0, none⟩)
def rng (v : Int) : Prop := -9223372036854775808 ≤ v ∧ v ≤ 9223372036854775807
theorem block_of_heap {w : World} {p : Nat} {o : Obj} (h : w.heap[p]? = some o) : p < w.heap.size := (Array.getElem?_eq_some_iff.1 h).1
theorem frozen_of_heap (w : World) (p i : Nat) (cs : Array Value) (t : TypeId) (h : w.heap[p]? = some (.cells cs t (0, 0))) : w.frozen? ⟨p, i, none⟩ = false := by
  simp [World.frozen?, h]
/-! A block, as it is. -/
def Bx (w : World) (B : Nat) (cs : Array Value) (t : TypeId) : Prop := w.heap[B]? = some (.cells cs t (0, 0))
theorem Bx.new (w : World) (cs : Array Value) (t : TypeId) : Bx (w.alloc (.cells cs t)) w.heap.size cs t := heap_alloc_new w _
theorem Bx.lt {w : World} {B : Nat} {cs : Array Value} {t : TypeId} (h : Bx w B cs t) : B < w.heap.size := block_of_heap h
theorem Bx.kept {w w' : World} {B C : Nat} {cs : Array Value} {t : TypeId} (h : Bx w B cs t) (hb : Below C w w') (hB : B < C) : Bx w' B cs t := (hb.block B hB).trans h
theorem Bx.held {w w' : World} {B : Nat} {cs : Array Value} {t : TypeId} (h : Bx w B cs t) (hb : Below w.heap.size w w') : Bx w' B cs t := h.kept hb h.lt
theorem Bx.cell {w : World} {B : Nat} {cs : Array Value} {t : TypeId} (h : Bx w B cs t) (i : Nat) : w.cell? ⟨B, i, none⟩ = cs[i]? := cell_of_row _ _ _ _ _ _ h
theorem Bx.free {w : World} {B : Nat} {cs : Array Value} {t : TypeId} (h : Bx w B cs t) (i : Nat) : w.frozen? ⟨B, i, none⟩ = false := frozen_of_heap _ _ _ _ _ h
theorem Bx.alloc {w : World} {B : Nat} {cs : Array Value} {t : TypeId} (h : Bx w B cs t) (o : Obj) : Bx (w.alloc o) B cs t := (Below.heap_alloc w o B h.lt).trans h
/-! append of a whole slice onto a row of the call's own; the source may be nil or empty. -/
def Src (w : World) (size : Nat) (A : Option Addr) (m : Nat) (news : List Value) : Prop :=
  news.length = m * size ∧ (0 < m → ∃ ad, A = some ad ∧ ∀ j u, news[j]? = some u → w.cell? (ad.add j) = some u)
section
variable {P : Program} (w : World)
theorem run_append_src (t ty e : TypeId) (i : TypeInfo) (z : Value) (size bytes : Nat) (ht : P.underlying t = some (.slice e)) (hi : P.info? e = some i) (hz : i.zero = some z)
    (hsize : i.size = size) (hby : i.bytes = bytes) (hzs : z.cells.size = size) (hsz : 0 < size) (base : Nat)
    (v : Value) (n : Nat) (xs : List Value) (hown : w.ownsRow base e size v n xs)
    (A : Option Addr) (m c : Nat) (news : List Value) (hs : Src w size A m news) (h1 : ∀ u ∈ news, u.oneCell' = true)
    (h63 : n + m ≤ maxLen) (hbytes : (n + m) * bytes ≤ 140737488355328) (hbase : base ≤ w.heap.size) :
    ∃ v' w', (Builtin.append_ #[t, t] ty #[v, .slice A m c]).run P w = .ok v' w' ∧ w'.ownsRow base e size v' (n + m) (xs ++ news) ∧ w.grownBy w' v.ownBlock ∧ (v'.ownBlock = v.ownBlock ∨ v'.ownBlock = some w.heap.size) := by
  cases A with
  | some ad =>
    have hc : ∀ j u, news[j]? = some u → w.cell? (ad.add j) = some u := by
      intro j u hu
      by_cases h0 : m = 0
      · subst h0
        have : news = [] := List.eq_nil_of_length_eq_zero (by simpa using hs.1)
        subst this
        simp at hu
      · obtain ⟨ad', h, hc⟩ := hs.2 (by omega)
        simp only [Option.some.injEq] at h
        subst h
        exact hc j u hu
    obtain ⟨v', w', r1, r2, r3, _, r5⟩ := run_append_own_at (P := P) w base t ty e i z size bytes ht hi hz hsize hby hzs hsz v n xs hown ad m c news hs.1 hc h1 h63 hbytes hbase
    exact ⟨v', w', r1, r2, r3, r5⟩
  | none =>
    have h0 : m = 0 := by
      by_cases h : 0 < m
      · obtain ⟨_, h, _⟩ := hs.2 h
        cases h
      · omega
    subst h0
    have hn : news = [] := List.eq_nil_of_length_eq_zero (by simpa using hs.1)
    subst hn
    refine ⟨v, w, ?_, by simpa using hown, ⟨rfl, rfl, rfl, Nat.le_refl _, fun _ _ _ => rfl⟩, .inl rfl⟩
    rcases hown.2 with ⟨rfl, rfl⟩ | ⟨g, cap, cur, rfl, _, _, hle, _⟩
    · simp [Builtin.append_, run_underlying ht, sizeOf, typeInfo, hi, Builtin.lenOf, Builtin.firstCells]
    · simp [Builtin.append_, run_underlying ht, sizeOf, typeInfo, hi, Builtin.lenOf, Builtin.firstCells, hle, storeCells]
theorem wp_append_src {o : Oper} {a : Act} {K : Act → World → Prop} {Q : Exit → Act → World → Prop} (s x : Operand) (t : TypeId) (ho : o.op = .call { callee := .builtin .append, args := #[s, x], argTypes := #[t, t] })
    (e : TypeId) (i : TypeInfo) (z : Value) (size bytes : Nat) (ht : P.underlying t = some (.slice e)) (hi : P.info? e = some i) (hz : i.zero = some z)
    (hsize : i.size = size) (hby : i.bytes = bytes) (hzs : z.cells.size = size) (hsz : 0 < size) (base : Nat)
    (v : Value) (n : Nat) (xs : List Value) (hv : a.eval s = v) (hown : w.ownsRow base e size v n xs)
    (A : Option Addr) (m c : Nat) (news : List Value) (hx : a.eval x = .slice A m c) (hs : Src w size A m news) (h1 : ∀ u ∈ news, u.oneCell' = true)
    (h63 : n + m ≤ maxLen) (hbytes : (n + m) * bytes ≤ 140737488355328) (hbase : base ≤ w.heap.size)
    (h : ∀ v' w', w'.ownsRow base e size v' (n + m) (xs ++ news) → w.grownBy w' v.ownBlock → (v'.ownBlock = v.ownBlock ∨ v'.ownBlock = some w.heap.size) → K (a.put o.dst v') w') : o.wp P a w K Q := by
  obtain ⟨v', w', r1, r2, r3, r4⟩ := run_append_src (P := P) w t o.type e i z size bytes ht hi hz hsize hby hzs hsz base v n xs hown A m c news hs h1 h63 hbytes hbase
  unfold Oper.wp execOp
  simp only [ho, resolve, invoke, builtin, Sem.run_bind, Sem.run_pure, Result.andThen_ok, List.map_toArray, List.map_cons, List.map_nil, hv, hx, r1]
  exact h v' w' r2 r3 r4
theorem wpList_append_src {ops : Array Oper} {rest : List Oper} {o : Oper} {a : Act} {Q : Exit → Act → World → Prop} (hg : o.guard = none) (s x : Operand) (t : TypeId) (ho : o.op = .call { callee := .builtin .append, args := #[s, x], argTypes := #[t, t] })
    (e : TypeId) (i : TypeInfo) (z : Value) (size bytes : Nat) (ht : P.underlying t = some (.slice e)) (hi : P.info? e = some i) (hz : i.zero = some z)
    (hsize : i.size = size) (hby : i.bytes = bytes) (hzs : z.cells.size = size) (hsz : 0 < size) (base : Nat)
    (v : Value) (n : Nat) (xs : List Value) (hv : a.eval s = v) (hown : w.ownsRow base e size v n xs)
    (A : Option Addr) (m c : Nat) (news : List Value) (hx : a.eval x = .slice A m c) (hs : Src w size A m news) (h1 : ∀ u ∈ news, u.oneCell' = true)
    (h63 : n + m ≤ maxLen) (hbytes : (n + m) * bytes ≤ 140737488355328) (hbase : base ≤ w.heap.size)
    (h : ∀ v' w', w'.ownsRow base e size v' (n + m) (xs ++ news) → w.grownBy w' v.ownBlock → (v'.ownBlock = v.ownBlock ∨ v'.ownBlock = some w.heap.size) → wpList P ops Q rest (a.put o.dst v') w') : wpList P ops Q (o :: rest) a w :=
  wpList_plain hg fun _ hK => wp_append_src w s x t ho e i z size bytes ht hi hz hsize hby hzs hsz base v n xs hv hown A m c news hx hs h1 h63 hbytes hbase fun v' w' a b c => hK _ _ (h v' w' a b c)
end

theorem own_shape {w : World} {B e s n : Nat} {v : Value} {xs : List Value} (h : w.ownsRow B e s v n xs) : ∃ A c, v = .slice A n c := by
  rcases h.2 with ⟨rfl, rfl⟩ | ⟨g, cap, cur, rfl, _⟩
  · exact ⟨_, _, rfl⟩
  · exact ⟨_, _, rfl⟩
theorem own_base {w : World} {B D e s n : Nat} {v : Value} {xs : List Value} (h : w.ownsRow B e s v n xs) (hD : D ≤ B) : w.ownsRow D e s v n xs := by
  refine ⟨h.1, ?_⟩
  rcases h.2 with h | ⟨g, cap, cur, h1, h2, h3⟩
  · exact .inl h
  · exact .inr ⟨g, cap, cur, h1, Nat.le_trans hD h2, h3⟩
theorem owns_kept2 {w w' : World} {B e s n : Nat} {v : Value} {xs : List Value} (h : w.ownsRow B e s v n xs) (hk : ∀ g, v.ownBlock = some g → w'.heap[g]? = w.heap[g]?) : w'.ownsRow B e s v n xs := by
  refine ⟨h.1, ?_⟩
  rcases h.2 with h1 | ⟨g', cap, cur, rfl, h1, h2, h3⟩
  · exact .inl h1
  · exact .inr ⟨g', cap, cur, rfl, h1, (hk g' rfl).trans h2, h3⟩
theorem lent_cap {w : World} {B e s n g c m : Nat} {xs : List Value} (h : w.ownsRow B e s (.slice (some ⟨g, 0, none⟩) n c) m xs) : (m : Int) ≤ (c : Int) ∧ B ≤ g := by
  rcases h.2 with ⟨h2, _⟩ | ⟨g', cap, cur, h2, h3, h4, h5, _⟩
  · simp at h2
  · simp at h2
    obtain ⟨rfl, _, rfl⟩ := h2
    exact ⟨by omega, h3⟩

section
variable {P : Program} (w : World)
theorem step_append_src {ops : Array Oper} {o : Oper} {a : Act} {K : Act → World → Prop} {Q : Exit → Act → World → Prop} {E : Prop} (hg : o.guard = none) (s x : Operand) (t : TypeId) (ho : o.op = .call { callee := .builtin .append, args := #[s, x], argTypes := #[t, t] })
    (e : TypeId) (i : TypeInfo) (z : Value) (size bytes : Nat) (ht : P.underlying t = some (.slice e)) (hi : P.info? e = some i) (hz : i.zero = some z)
    (hsize : i.size = size) (hby : i.bytes = bytes) (hzs : z.cells.size = size) (hsz : 0 < size) (base : Nat)
    (v : Value) (n : Nat) (xs : List Value) (hv : a.eval s = v) (hown : w.ownsRow base e size v n xs)
    (A : Option Addr) (m c : Nat) (news : List Value) (hx : a.eval x = .slice A m c) (hs : Src w size A m news) (h1 : ∀ u ∈ news, u.oneCell' = true)
    (h63 : n + m ≤ maxLen) (hbytes : (n + m) * bytes ≤ 140737488355328) (hbase : base ≤ w.heap.size)
    (h : ∀ v' w', w'.ownsRow base e size v' (n + m) (xs ++ news) → w.grownBy w' v.ownBlock → (v'.ownBlock = v.ownBlock ∨ v'.ownBlock = some w.heap.size) → K (a.put o.dst v') w') :
    if Region.wanted o (yielded ops a.tmps) = true then Oper.wp P o a w K Q else E := by
  have hw : Region.wanted o (yielded ops a.tmps) = true := by simp [Region.wanted, hg]
  rw [if_pos hw]
  exact wp_append_src w s x t ho e i z size bytes ht hi hz hsize hby hzs hsz base v n xs hv hown A m c news hx hs h1 h63 hbytes hbase h
end
theorem getD_mem' {α : Type} {l : List α} {k : Nat} (d : α) (h : k < l.length) : l.getD k d ∈ l := by
  rw [List.getD_eq_getElem?_getD, List.getElem?_eq_getElem h]; exact List.getElem_mem h
theorem getD_at {α : Type} {l : List α} {k : Nat} {d : α} (h : k < l.length) : l.getD k d = l[k] := by simp [List.getD, h]
theorem take_snoc {α : Type} (l : List α) (k : Nat) (d : α) (h : k < l.length) : l.take (k + 1) = l.take k ++ [l.getD k d] := by
  rw [getD_at h, List.take_succ_eq_append_getElem h]
theorem cell_kept {C : Nat} {w w' : World} (hb : Below C w w') {b off : Nat} (hC : b < C) {v : Value} (h : w.cell? ⟨b, off, none⟩ = some v) : w'.cell? ⟨b, off, none⟩ = some v := (hb.cell (p := ⟨b, off, none⟩) hC).trans h
/-! Lists of texts. -/
def Txt (C : Nat) (w : World) (A : Option Addr) (n : Nat) (l : List BA) : Prop :=
  l.length = n ∧ n ≤ maxLen ∧ ∀ k, k < n → ∃ b off, A = some ⟨b, off, none⟩ ∧ b < C ∧ w.cell? ⟨b, off + k, none⟩ = some (.string (str (l.getD k []))) ∧ (l.getD k []).length ≤ maxLen
theorem Txt.kept {C : Nat} {w w' : World} {A : Option Addr} {n : Nat} {l : List BA} (h : Txt C w A n l) (hb : Below C w w') : Txt C w' A n l :=
  ⟨h.1, h.2.1, fun k hk => by
    obtain ⟨b, off, h1, h2, h3, h4⟩ := h.2.2 k hk
    exact ⟨b, off, h1, h2, cell_kept hb h2 h3, h4⟩⟩
theorem Txt.more {C D : Nat} {w : World} {A : Option Addr} {n : Nat} {l : List BA} (h : Txt C w A n l) (hD : C ≤ D) : Txt D w A n l :=
  ⟨h.1, h.2.1, fun k hk => by
    obtain ⟨b, off, h1, h2, h3⟩ := h.2.2 k hk
    exact ⟨b, off, h1, Nat.lt_of_lt_of_le h2 hD, h3⟩⟩
theorem Txt.nil (C : Nat) (w : World) (A : Option Addr) : Txt C w A 0 [] := ⟨rfl, Nat.zero_le _, fun k hk => absurd hk (Nat.not_lt_zero _)⟩
theorem Txt.len {C : Nat} {w : World} {A : Option Addr} {n : Nat} {l : List BA} (h : Txt C w A n l) : l.length = n := h.1
/-- The cells of a row of texts. -/
def tcs (l : List BA) : List Value := l.map fun x => Value.string (str x)
theorem tcs_length (l : List BA) : (tcs l).length = l.length := by simp [tcs]
theorem tcs_append (l m : List BA) : tcs (l ++ m) = tcs l ++ tcs m := by simp [tcs]
theorem tcs_one (l : List BA) : ∀ u ∈ tcs l, u.oneCell' = true := by
  intro u hu
  obtain ⟨x, _, rfl⟩ := List.mem_map.1 hu
  rfl
theorem tcs_get {l : List BA} {k : Nat} (h : k < l.length) : (tcs l)[k]? = some (.string (str (l.getD k []))) := by
  simp [tcs, List.getD, h]
/-- A row of texts of a call's own. -/
def OwnT (B : Nat) (w : World) (v : Value) (l : List BA) : Prop := w.ownsRow B 9 1 v l.length (tcs l)
theorem OwnT.nil (B : Nat) (w : World) : OwnT B w (.slice none 0 0) [] := World.ownsRow_nil _ _ _ _
theorem OwnT.kept {B : Nat} {w w' : World} {v : Value} {l : List BA} (h : OwnT B w v l) (hb : Below w.heap.size w w') : OwnT B w' v l := owns_kept2 h fun g hg => hb.block g (h.lt g hg).2
theorem OwnT.base {B D : Nat} {w : World} {v : Value} {l : List BA} (h : OwnT B w v l) (hD : D ≤ B) : OwnT D w v l := own_base h hD
theorem OwnT.shape {B : Nat} {w : World} {v : Value} {l : List BA} (h : OwnT B w v l) : ∃ A c, v = .slice A l.length c := own_shape h
theorem OwnT.txt {B : Nat} {w : World} {A : Option Addr} {n c : Nat} {l : List BA} (h : OwnT B w (.slice A n c) l) (hs : ∀ x ∈ l, x.length ≤ maxLen) (hm : l.length ≤ maxLen) : n = l.length ∧ Txt w.heap.size w A n l := by
  have hn : n = l.length := by
    rcases h.2 with ⟨h1, h2⟩ | ⟨g, cap, cur, h1, _⟩
    · simp only [Value.slice.injEq] at h1; omega
    · simp only [Value.slice.injEq] at h1; omega
  subst hn
  refine ⟨rfl, rfl, hm, fun k hk => ?_⟩
  rcases h.2 with ⟨h1, h2⟩ | ⟨g, cap, cur, h1, h2, h3, h4⟩
  · omega
  · simp only [Value.slice.injEq] at h1
    obtain ⟨rfl, _, rfl⟩ := h1
    have hc := h.cells (g := g) rfl _ _ (tcs_get hk)
    rw [add_plain] at hc
    exact ⟨g, 0, rfl, block_of_heap h3, hc, hs _ (getD_mem' _ hk)⟩
theorem OwnT.cap {B : Nat} {w : World} {A : Option Addr} {n c : Nat} {l : List BA} (h : OwnT B w (.slice A n c) l) : n ≤ c := by
  rcases h.2 with ⟨h1, h2⟩ | ⟨g, cap, cur, h1, h2, h3, h4, _⟩
  · simp only [Value.slice.injEq] at h1; omega
  · simp only [Value.slice.injEq] at h1; omega
theorem info_s : (Tryz.prog.info? 9).map (fun i => (i.zero, i.size, i.bytes)) = some (some (.string ⟨#[]⟩), 1, 16) := by kernel_rfl
theorem info_b : (Tryz.prog.info? 5).map (fun i => (i.zero, i.size, i.bytes)) = some (some (.int .u8 0), 1, 1) := by kernel_rfl
theorem str_toList (l : BA) : (str l).data.toList = l := rfl
theorem str_append (a b : BA) : str (a ++ b) = str a ++ str b := by
  apply ByteArray.ext
  simp [str, ByteArray.data_append]
theorem str_inj {a b : BA} (h : str a = str b) : a = b := by
  have := congrArg (fun s : ByteArray => s.data.toList) h
  exact this
theorem str_empty : str [] = ⟨#[]⟩ := rfl
/-- A text to bytes: a new block. -/
theorem to_bytes (w : World) (m : BA) : ∃ c w2, (convert 9 70 (.string (str m))).run Tryz.prog w = .ok (.slice (some ⟨w.heap.size, 0, none⟩) m.length c) w2 ∧
    (∀ k (hk : k < m.length), w2.cell? ⟨w.heap.size, k, none⟩ = some (.int .u8 ((m[k]'hk).toNat : Int))) ∧ Below w.heap.size w w2 ∧ m.length ≤ c ∧ w.heap.size < w2.heap.size := by
  refine ⟨_, _, run_bytes_of_string (P := Tryz.prog) w 9 70 5 (str m) Tryz.underlying9 Tryz.underlying70 Tryz.underlying5, fun k hk => ?_, (Below.refl _ _).drew.alloc (Nat.le_refl _) _, grownCap_ge _ _ _ _, by rw [World.size_alloc]; exact Nat.lt_succ_self _⟩
  have hh := World.cell?_alloc_mark w.drew (bytesRow (str m) (grownCap w (str m).size 0 5)) 5 ((bytesRow (str m) (grownCap w (str m).size 0 5)).size, (bytesRow (str m) (grownCap w (str m).size 0 5)).size + 1) k
  refine hh.trans ?_
  rw [bytesRow_at (str m) _ k (by simpa [str] using hk)]
  simp [str]
/-- A row of bytes of the call's own, as a string. -/
theorem own_string {w : World} {base n : Nat} {v : Value} {l : BA} (h : w.ownsRow base 5 1 v n (bcs l)) (hl : l.length = n) :
    (convert 70 9 v).run Tryz.prog w = .ok (.string (str l)) w := by
  subst hl
  rcases h.2 with ⟨rfl, hn⟩ | ⟨g, cap, cur, rfl, _⟩
  · have : l = [] := List.eq_nil_of_length_eq_zero hn
    subst this
    exact run_convert_bytes_nil w 70 5 Tryz.underlying70 Tryz.underlying5 0 0 9 Tryz.underlying9
  · exact run_convert_bytes_back w 70 9 5 ⟨g, 0, none⟩ cap l Tryz.underlying70 Tryz.underlying5 Tryz.underlying9 fun j hj => h.cells rfl j _ (by simp [bcs, List.getElem?_eq_getElem hj])
end Go.Proofs.YtnjggoeahaglbaaGreat.Fr

/- The contracts of place, mark, follows, number, Count, Few, SameTexts; strings.Repeat and strings.Clone. -/
namespace Go.Proofs
open Go.Shelf
def Tryz.FrrepL_ren : Go.Shelf.Ren := ⟨fun | 105 => 121 | 212 => 146 | 99 => 147 | 165 => 148 | 166 => 149 | 170 => 150 | 169 => 151 | 263 => 162 | 264 => 163 | 206 => 164 | 240 => 165 | 241 => 166 | 276 => 168 | 277 => 169 | n => n, fun | 9 => 9 | 3 => 3 | 4 => 4 | 20 => 20 | 0 => 0 | 46 => 180 | 109 => 202 | 5 => 5 | 72 => 207 | 76 => 210 | 51 => 181 | 146 => 215 | 53 => 80 | 148 => 217 | 70 => 205 | 37 => 70 | 75 => 209 | 127 => 219 | 164 => 220 | 80 => 187 | n => n, fun | n => n⟩
theorem Tryz.FrrepL : Go.Proofs.Lays.n105 Tryz.prog Tryz.FrrepL_ren := {
  mixed := by kernel_rfl
  f99 := Tryz.func147.trans (congrArg some (by kernel_rfl))
  f105 := Tryz.func121.trans (congrArg some (by kernel_rfl))
  f165 := Tryz.func148.trans (congrArg some (by kernel_rfl))
  f166 := Tryz.func149.trans (congrArg some (by kernel_rfl))
  f169 := Tryz.func151.trans (congrArg some (by kernel_rfl))
  f170 := Tryz.func150.trans (congrArg some (by kernel_rfl))
  f206 := Tryz.func164.trans (congrArg some (by kernel_rfl))
  f212 := Tryz.func146.trans (congrArg some (by kernel_rfl))
  f240 := Tryz.func165.trans (congrArg some (by kernel_rfl))
  f241 := Tryz.func166.trans (congrArg some (by kernel_rfl))
  f263 := Tryz.func162.trans (congrArg some (by kernel_rfl))
  f264 := Tryz.func163.trans (congrArg some (by kernel_rfl))
  f276 := Tryz.func168.trans (congrArg some (by kernel_rfl))
  f277 := Tryz.func169.trans (congrArg some (by kernel_rfl))
  t0 := Tryz.underlying0
  a0 := Tryz.isAgg0
  z0 := Tryz.sizeOf0
  v0 := Tryz.zeroValue0
  t3 := Tryz.underlying3
  a3 := Tryz.isAgg3
  z3 := Tryz.sizeOf3
  v3 := Tryz.zeroValue3
  t4 := Tryz.underlying4
  a4 := Tryz.isAgg4
  z4 := Tryz.sizeOf4
  v4 := Tryz.zeroValue4
  t5 := Tryz.underlying5
  a5 := Tryz.isAgg5
  z5 := Tryz.sizeOf5
  v5 := Tryz.zeroValue5
  t9 := Tryz.underlying9
  a9 := Tryz.isAgg9
  z9 := Tryz.sizeOf9
  v9 := Tryz.zeroValue9
  t20 := Tryz.underlying20
  a20 := Tryz.isAgg20
  z20 := Tryz.sizeOf20
  v20 := Tryz.zeroValue20
  t37 := Tryz.underlying70
  a37 := Tryz.isAgg70
  z37 := Tryz.sizeOf70
  v37 := Tryz.zeroValue70
  t46 := Tryz.underlying180
  a46 := Tryz.isAgg180
  z46 := Tryz.sizeOf180
  v46 := Tryz.zeroValue180
  t51 := Tryz.underlying181
  a51 := Tryz.isAgg181
  z51 := Tryz.sizeOf181
  v51 := Tryz.zeroValue181
  t53 := Tryz.underlying80
  a53 := Tryz.isAgg80
  z53 := Tryz.sizeOf80
  v53 := Tryz.zeroValue80
  t70 := Tryz.underlying205
  a70 := Tryz.isAgg205
  z70 := Tryz.sizeOf205
  v70 := Tryz.zeroValue205
  t72 := Tryz.underlying207
  a72 := Tryz.isAgg207
  z72 := Tryz.sizeOf207
  v72 := Tryz.zeroValue207
  t75 := Tryz.underlying209
  a75 := Tryz.isAgg209
  z75 := Tryz.sizeOf209
  v75 := Tryz.zeroValue209
  t76 := Tryz.underlying210
  a76 := Tryz.isAgg210
  z76 := Tryz.sizeOf210
  v76 := Tryz.zeroValue210
  t109 := Tryz.underlying202
  a109 := Tryz.isAgg202
  z109 := Tryz.sizeOf202
  v109 := Tryz.zeroValue202
  t127 := Tryz.underlying219
  a127 := Tryz.isAgg219
  z127 := Tryz.sizeOf219
  v127 := Tryz.zeroValue219
  t146 := Tryz.underlying215
  a146 := Tryz.isAgg215
  z146 := Tryz.sizeOf215
  v146 := Tryz.zeroValue215
  t148 := Tryz.underlying217
  a148 := Tryz.isAgg217
  z148 := Tryz.sizeOf217
  v148 := Tryz.zeroValue217
  t164 := Tryz.underlying220
  a164 := Tryz.isAgg220
  z164 := Tryz.sizeOf220
  v164 := Tryz.zeroValue220 }
def Tryz.FrcloL_ren : Go.Shelf.Ren := ⟨fun | 316 => 155 | n => n, fun | 9 => 9 | 3 => 3 | 4 => 4 | 37 => 70 | 0 => 0 | 127 => 219 | 5 => 5 | n => n, fun | n => n⟩
theorem Tryz.FrcloL : Go.Proofs.LaysM.n316 Tryz.prog Tryz.FrcloL_ren := {
  mixed := by kernel_rfl
  f316 := Tryz.func155.trans (congrArg some (by kernel_rfl))
  t0 := Tryz.underlying0
  a0 := Tryz.isAgg0
  z0 := Tryz.sizeOf0
  v0 := Tryz.zeroValue0
  t3 := Tryz.underlying3
  a3 := Tryz.isAgg3
  z3 := Tryz.sizeOf3
  v3 := Tryz.zeroValue3
  t4 := Tryz.underlying4
  a4 := Tryz.isAgg4
  z4 := Tryz.sizeOf4
  v4 := Tryz.zeroValue4
  t9 := Tryz.underlying9
  a9 := Tryz.isAgg9
  z9 := Tryz.sizeOf9
  v9 := Tryz.zeroValue9
  t37 := Tryz.underlying70
  a37 := Tryz.isAgg70
  z37 := Tryz.sizeOf70
  v37 := Tryz.zeroValue70
  t127 := Tryz.underlying219
  a127 := Tryz.isAgg219
  z127 := Tryz.sizeOf219
  v127 := Tryz.zeroValue219
  t5 := Tryz.underlying5
  a5 := Tryz.isAgg5
  z5 := Tryz.sizeOf5
  v5 := Tryz.zeroValue5
  i0 := by kernel_rfl
  i3 := by kernel_rfl
  i4 := by kernel_rfl
  i5 := by kernel_rfl
  i9 := by kernel_rfl
  i37 := by kernel_rfl
  i127 := by kernel_rfl }
theorem Tryz.FrrepX : Builder.Extra Tryz.prog Tryz.FrrepL_ren := {
  sizeBuilder := by kernel_rfl
  liesBuilder := by kernel_rfl
  t5 := Tryz.underlying5
  a5 := Tryz.isAgg5
  z5 := Tryz.sizeOf5
  v5 := Tryz.zeroValue5
  infoByte := by kernel_rfl
  cellsByte := by kernel_rfl
  sizeByte := by kernel_rfl
  neB5 := by decide }
end Go.Proofs
namespace Go.Proofs.YtnjggoeahaglbaaGreat.Fr
open Go.ChangeShapes Go.WideShapes Go.ChangeAt Go.RowKit Go.Shelf
set_option linter.unusedVariables false
set_option linter.unusedSimpArgs false
set_option maxRecDepth 100000
def zs (n : Nat) : BA := List.replicate n 0
theorem zs_length (n : Nat) : (zs n).length = n := by simp [zs]
theorem repeat_zs : ∀ n : Nat, Lib.repeatL [0] n = zs n
  | 0 => rfl
  | n + 1 => by rw [Lib.repeatL, repeat_zs n]; simp [zs, List.replicate_succ]
theorem repeat_any (n : Nat) (hn : n ≤ 1000) (w : World) : Calls Tryz.prog 121 #[.string ⟨#[0]⟩, .int .i64 n] w fun e w' => e = .returned (.string (str (zs n))) ∧ Below w.heap.size w w' := by
  have h := Any.strings_Repeat Tryz.FrrepL Tryz.FrrepX ⟨#[0]⟩ n w (by omega) (by show 1 * n ≤ _; omega)
  rw [show (ByteArray.mk #[0]).data.toList = [0] from rfl, repeat_zs] at h
  change Calls Tryz.prog 121 _ _ _ at h
  exact h
theorem clone_any (s : ByteArray) (hs : s.size ≤ 281474976710656) (w : World) : Calls Tryz.prog 134 #[.string s] w fun e w' => e = .returned (.string s) ∧ Below w.heap.size w w' := by
  have R := Lib.hid (fun w => Any.stringslite_Clone Tryz.FrcloL s w hs)
  go_enter Tryz.func134, Tryz.ntmps134
  go_wp2_with fail
  refine (R.out _).mono ?_; rintro e w1 ⟨rfl, hb⟩
  have HB := Lib.hid hb
  clear hb
  go_wp2_with fail
  go_ret
  exact ⟨rfl, HB.out⟩
/-- May a sector have this epoch, this index? -/
def placeB (e i : Int) : Bool := decide (1 ≤ e ∧ e ≤ 4294967295 ∧ 0 ≤ i ∧ i ≤ 65535)
theorem u64_in {x : Int} (h0 : 0 ≤ x) (h1 : x ≤ 9223372036854775807) : IntKind.u64.wrap x = x := by
  unfold IntKind.wrap
  simp [IntKind.bits, IntKind.signed]
  omega
theorem place_any (e i : Int) (he : rng e) (w : World) : Calls Tryz.prog 81 #[.int .i64 e, .int .i64 i] w fun r w' => r = .returned (.bool (placeB e i)) ∧ w = w' := by
  obtain ⟨hr0, hr1⟩ := he
  unfold placeB
  by_cases h1 : 0 < e
  · have hu := u64_in (by omega) hr1
    by_cases h2 : e ≤ 4294967295
    · by_cases h3 : 0 ≤ i
      · by_cases h4 : i ≤ 65535
        · rw [decide_eq_true (p := _ ∧ _) ⟨by omega, h2, h3, h4⟩]
          go_enter Tryz.func81, Tryz.ntmps81
          go_wp2_with fail
          go_ret
          exact ⟨rfl, rfl⟩
        · rw [decide_eq_false (p := _ ∧ _) (fun h => h4 h.2.2.2)]
          go_enter Tryz.func81, Tryz.ntmps81
          go_wp2_with fail
          go_ret
          exact ⟨rfl, rfl⟩
      · rw [decide_eq_false (p := _ ∧ _) (fun h => h3 h.2.2.1)]
        go_enter Tryz.func81, Tryz.ntmps81
        go_wp2_with fail
        go_ret
        exact ⟨rfl, rfl⟩
    · rw [decide_eq_false (p := _ ∧ _) (fun h => h2 h.2.1)]
      go_enter Tryz.func81, Tryz.ntmps81
      go_wp2_with fail
      go_ret
      exact ⟨rfl, rfl⟩
  · rw [decide_eq_false (p := _ ∧ _) (fun h => h1 (by omega))]
    go_enter Tryz.func81, Tryz.ntmps81
    go_wp2_with fail
    go_ret
    exact ⟨rfl, rfl⟩
theorem flagX_toNat (f : Bool) : ((flagX f).toNat : Int) = if f then 2 else 1 := by cases f <;> rfl
theorem mark_any (f : Bool) (w : World) : Calls Tryz.prog 120 #[.bool f] w fun r w' => r = .returned (.int .u8 ((flagX f).toNat : Int)) ∧ w = w' := by
  cases f with
  | true =>
    go_enter Tryz.func120, Tryz.ntmps120
    go_wp2_with fail
    go_ret
    exact ⟨rfl, rfl⟩
  | false =>
    go_enter Tryz.func120, Tryz.ntmps120
    go_wp2_with fail
    go_ret
    exact ⟨rfl, rfl⟩
/-- A sector as the program holds it. -/
def sv (x : Sx) : Value := .agg #[.int .i64 x.ep, .int .i64 x.ix, .bool x.fr, .string (str x.pl)]
def svs (x : Sx) : Array Value := #[.int .i64 x.ep, .int .i64 x.ix, .bool x.fr, .string (str x.pl)]
def Sb (w : World) (B : Nat) (x : Sx) : Prop := Bx w B (svs x) 125
theorem Sb.new (w : World) (x : Sx) : Sb (w.alloc (.cells #[.int .i64 x.ep, .int .i64 x.ix, .bool x.fr, .string (str x.pl)] 125)) w.heap.size x := Bx.new _ _ _
theorem Sb.cells {w : World} {B : Nat} {x : Sx} (h : Sb w B x) : w.cell? ⟨B, 0, none⟩ = some (.int .i64 x.ep) ∧ w.cell? ⟨B, 1, none⟩ = some (.int .i64 x.ix) ∧ w.cell? ⟨B, 2, none⟩ = some (.bool x.fr) ∧ w.cell? ⟨B, 3, none⟩ = some (.string (str x.pl)) :=
  ⟨Bx.cell h 0, Bx.cell h 1, Bx.cell h 2, Bx.cell h 3⟩
theorem Sb.free {w : World} {B : Nat} {x : Sx} (h : Sb w B x) : w.frozen? ⟨B, 0, none⟩ = false ∧ w.frozen? ⟨B, 1, none⟩ = false ∧ w.frozen? ⟨B, 2, none⟩ = false ∧ w.frozen? ⟨B, 3, none⟩ = false :=
  ⟨Bx.free h 0, Bx.free h 1, Bx.free h 2, Bx.free h 3⟩
theorem Sb.kept {w w' : World} {B C : Nat} {x : Sx} (h : Sb w B x) (hb : Below C w w') (hB : B < C) : Sb w' B x := Bx.kept h hb hB
theorem Sb.held {w w' : World} {B : Nat} {x : Sx} (h : Sb w B x) (hb : Below w.heap.size w w') : Sb w' B x := Bx.held h hb
/-- May x stand behind a sector of epoch p? -/
def folB (x y : Sx) : Bool := decide (y.ep ≤ x.ep) && (x.fr || decide (x.ep = y.ep))
set_option maxHeartbeats 1000000 in
theorem follows_any (x y : Sx) (w : World) : Calls Tryz.prog 93 #[sv x, sv y] w fun r w' => r = .returned (.bool (folB x y)) ∧ Below w.heap.size w w' := by
  obtain ⟨e, i, f, p⟩ := x
  obtain ⟨e2, i2, f2, p2⟩ := y
  unfold sv folB
  dsimp only
  have HB := Lib.hid ((((Below.refl w.heap.size w).alloc (Nat.le_refl _) (.cells #[.int .i64 e, .int .i64 i, .bool f, .string (str p)] 125)).alloc (by simp) (.cells #[.int .i64 e2, .int .i64 i2, .bool f2, .string (str p2)] 125)))
  generalize str p = s at *
  generalize str p2 = s2 at *
  by_cases h1 : e2 ≤ e
  · rw [decide_eq_true h1]
    cases f with
    | true =>
      go_enter Tryz.func93, Tryz.ntmps93
      go_wp2_with fail
      go_ret
      exact ⟨rfl, HB.out⟩
    | false =>
      by_cases h2 : e = e2
      · rw [decide_eq_true h2]
        have h3 : (e == e2) = true := by rw [beq_iff_eq]; exact h2
        clear h2
        go_enter Tryz.func93, Tryz.ntmps93
        go_wp2_with fail
        go_ret
        exact ⟨rfl, HB.out⟩
      · rw [decide_eq_false h2]
        have h3 : (e == e2) = false := by rw [beq_eq_false_iff_ne]; exact h2
        go_enter Tryz.func93, Tryz.ntmps93
        go_wp2_with fail
        go_ret
        exact ⟨rfl, HB.out⟩
  · rw [decide_eq_false h1]
    go_enter Tryz.func93, Tryz.ntmps93
    go_wp2_with fail
    go_ret
    exact ⟨rfl, HB.out⟩
/-! Numbers out of bytes. -/
theorem num_take (m : BA) (k : Nat) (hk : k < m.length) : num (m.take (k + 1)) = num (m.take k) * 256 + m[k].toNat := by
  rw [List.take_succ_eq_append_getElem hk, num_snoc]
theorem or64 (a b : Nat) (ha : a < 16777216) (hb : b < 256) : bits .or .i64 ((a : Int) * 256) (b : Int) = ((a * 256 + b : Nat) : Int) := by
  have e : ∀ a : Nat, a < 4294967296 → (BitVec.ofInt 64 (a : Int)).toNat = a := fun a h => by
    rw [BitVec.toNat_ofInt]; omega
  show IntKind.i64.wrap ((BitVec.ofInt 64 ((a : Int) * 256) ||| BitVec.ofInt 64 (b : Int)).toNat : Int) = _
  rw [show ((a : Int) * 256) = ((a * 256 : Nat) : Int) by omega, BitVec.toNat_or, e _ (by omega), e _ (by omega)]
  have := Nat.two_pow_add_eq_or_of_lt (i := 8) (b := b) hb a
  rw [show a * 256 = 2 ^ 8 * a by omega, ← this]
  exact IntWalk.i64_in _ (by omega)
set_option maxHeartbeats 1000000 in
theorem number_any (m : BA) (hm : m.length ≤ 4) (w : World) : Calls Tryz.prog 133 #[.string (str m)] w fun e w' => e = .returned (.int .i64 (num m : Nat)) ∧ Below w.heap.size w w' := by
  obtain ⟨c, w2, hcv, hcell, hb, hmc, _⟩ := to_bytes w m
  have Hc := Lib.hid hcell
  have Hb := Lib.hid hb
  clear hcell hb
  go_enter Tryz.func133, Tryz.ntmps133
  go_wp2_with fail
  go_loop [3, 5, 9] (fun v _ i => ∃ k : Nat, k ≤ m.length ∧ i = .int .i64 k ∧ v = .int .i64 (num (m.take k) : Nat)) (fun _ _ i => m.length - (intOf i).toNat)
  case atStart => exact ⟨0, Nat.zero_le _, rfl, rfl⟩
  case round =>
    obtain ⟨k, hk, rfl, rfl⟩ := hrel
    have b0 : (0 : Int) ≤ (k : Int) := by omega
    by_cases hlt : k < m.length
    · have hce := Hc.out k hlt
      have hl := num_lt (m.take k) (by simp; omega)
      have hb3 : num (m.take k) < 16777216 := by
        refine Nat.lt_of_lt_of_le hl ?_
        have h3 : (m.take k).length ≤ 3 := by simp; omega
        exact Nat.pow_le_pow_right (by omega) h3
      have hb8 : m[k].toNat < 256 := m[k].toNat_lt
      have Hn := Lib.hid (num_take m k hlt)
      generalize m[k].toNat = b at *
      generalize num (m.take k) = a at *
      have hA : (a : Int) < 16777216 := by omega
      have hB : (b : Int) < 256 := by omega
      have hsh : IntKind.i64.wrap ((a : Int) * 256) = (a : Int) * 256 := IntWalk.i64_in _ (by omega)
      have HO := Lib.hid (or64 a b hb3 hb8)
      clear hl
      go_wp2_with fail
      go_round
      case rel => exact ⟨k + 1, by omega, by go_num, by rw [Hn.out]; exact congrArg (Value.int IntKind.i64) HO.out⟩
      case measure => simp [intOf]; omega
    · have hkm : m.length ≤ k := by omega
      have Hn := Lib.hid (show m.take k = m from List.take_of_length_le hkm)
      go_wp2_with fail
      go_ret
      exact ⟨by show Ending.returned (.int .i64 ((num (m.take k) : Nat) : Int)) = _; rw [Hn.out], Hb.out⟩
end Go.Proofs.YtnjggoeahaglbaaGreat.Fr

/- The contract of Put. -/
namespace Go.Proofs.YtnjggoeahaglbaaGreat.Fr
open Go.ChangeShapes Go.WideShapes Go.ChangeAt Go.RowKit
set_option linter.unusedVariables false
set_option linter.unusedSimpArgs false
set_option maxRecDepth 100000
theorem okX_place (x : Sx) : okX x = (placeB x.ep x.ix && (decide (1 ≤ x.pl.length) && decide (x.pl.length ≤ 56))) := by
  unfold okX placeB
  rw [← Bool.decide_and, ← Bool.decide_and]
  congr 1
  apply propext
  constructor
  · rintro ⟨a, b, c, d, e, f⟩; exact ⟨⟨a, b, c, d⟩, e, f⟩
  · rintro ⟨⟨a, b, c, d⟩, e, f⟩; exact ⟨a, b, c, d, e, f⟩
theorem putX_no {x : Sx} (h : okX x = false) : str (putX x) = ⟨#[]⟩ := by unfold putX; rw [h]; rfl
theorem putX_yes {x : Sx} (h : okX x = true) : putX x = encX x := by unfold putX; rw [if_pos h]
def PutP (x : Sx) (w : World) (e : Ending) (w' : World) : Prop := e = .returned (.tuple #[.string (str (putX x)), .bool (okX x)]) ∧ Below w.heap.size w w'
theorem PutP.no {x : Sx} {w w' : World} (h : okX x = false) (hb : Below w.heap.size w w') : PutP x w (.returned (.tuple #[.string ⟨#[]⟩, .bool false])) w' := by
  unfold PutP
  rw [putX_no h, h]
  exact ⟨rfl, hb⟩
set_option maxHeartbeats 2000000 in
theorem put_bad (x : Sx) (hr : rng x.ep) (hs : x.pl.length ≤ maxLen) (h : okX x = false) (w : World) : Calls Tryz.prog 84 #[sv x] w fun e w' => PutP x w e w' := by
  have HN := Lib.hid (fun w' (hb : Below w.heap.size w w') => PutP.no h hb)
  have PL := Lib.hid (place_any x.ep x.ix hr)
  rw [okX_place] at h
  unfold sv
  have hsz : (str x.pl).size = x.pl.length := rfl
  unfold maxLen at hs
  generalize PutP x w = PP at *
  generalize str x.pl = s at *
  generalize x.pl.length = n at *
  generalize x.ep = ep at *
  generalize x.ix = ix at *
  generalize x.fr = fr at *
  subst hsz
  have HB := Lib.hid ((Below.refl w.heap.size w).alloc (Nat.le_refl _) (.cells #[.int .i64 ep, .int .i64 ix, .bool fr, .string s] 125))
  cases hp : placeB ep ix with
  | false =>
    rw [hp] at PL
    clear h hp
    go_enter Tryz.func84, Tryz.ntmps84
    go_wp2_with fail
    refine (PL.out _).mono ?_; rintro q w1 ⟨rfl, rfl⟩
    go_wp2_with fail
    exact HN.out _ HB.out
  | true =>
    rw [hp] at PL h
    rw [Bool.true_and] at h
    clear hp
    by_cases h0 : s.size = 0
    · have h0' : (s.size : Int) = 0 := by omega
      clear h h0 hs
      go_enter Tryz.func84, Tryz.ntmps84
      go_wp2_with fail
      refine (PL.out _).mono ?_; rintro q w1 ⟨rfl, rfl⟩
      go_wp2_with fail
      exact HN.out _ HB.out
    · have h1 : 56 < s.size := by
        rw [decide_eq_true (show 1 ≤ s.size by omega), Bool.true_and, decide_eq_false_iff_not] at h
        omega
      have h1' : (56 : Int) < (s.size : Int) := by omega
      have h0' : ((s.size : Int) == 0) = false := by rw [beq_eq_false_iff_ne]; omega
      clear h h0 hs h1
      go_enter Tryz.func84, Tryz.ntmps84
      go_wp2_with fail
      refine (PL.out _).mono ?_; rintro q w1 ⟨rfl, rfl⟩
      go_wp2_with fail
      exact HN.out _ HB.out
theorem u32_in {x : Int} (h0 : 0 ≤ x) (h1 : x ≤ 4294967295) : IntKind.u32.wrap x = x := by
  unfold IntKind.wrap
  simp [IntKind.bits, IntKind.signed]
  omega
theorem u16_in {x : Int} (h0 : 0 ≤ x) (h1 : x ≤ 65535) : IntKind.u16.wrap x = x := by
  unfold IntKind.wrap
  simp [IntKind.bits, IntKind.signed]
  omega
theorem u8_byte {x : Int} (h0 : 0 ≤ x) : IntKind.u8.wrap x = ((byte x).toNat : Int) := by
  rw [byte_toNat x h0]
  unfold IntKind.wrap
  simp [IntKind.bits, IntKind.signed]
theorem below_drewN {C : Nat} {w0 w : World} (h : Below C w0 w) (q : Nat) : Below C w0 (w.drewN q) := h.trans ⟨rfl, rfl, rfl, Nat.le_refl _, fun _ _ => rfl⟩
theorem byte_eq {a b : Int} (ha : 0 ≤ a) (hb : 0 ≤ b) (h : a % 256 = b % 256) : byte a = byte b := by
  apply UInt8.toNat_inj.1
  have := byte_toNat a ha
  have := byte_toNat b hb
  omega
theorem head_cells {x : Sx} (h : okX x = true) : #[Value.int IntKind.u8 ((byte (x.ep / 16777216)).toNat : Int), .int .u8 ((byte (x.ep / 65536)).toNat : Int), .int .u8 ((byte (x.ep / 256)).toNat : Int), .int .u8 ((byte x.ep).toNat : Int), .int .u8 ((byte (x.ix / 256)).toNat : Int), .int .u8 ((byte x.ix).toNat : Int), .int .u8 ((flagX x.fr).toNat : Int), .int .u8 ((byte (x.pl.length : Int)).toNat : Int)].toList = bcs (headX x) := by
  obtain ⟨k1, k2, k3, k4, k5, k6⟩ := okX_iff.1 h
  rw [byte_eq (a := x.ep / 16777216) (b := x.ep / 65536 / 256) (by omega) (by omega) (by omega), byte_eq (a := x.ep / 256) (b := x.ep % 65536 / 256) (by omega) (by omega) (by omega), byte_eq (a := x.ep) (b := x.ep % 65536) (by omega) (by omega) (by omega)]
  rw [show byte (x.pl.length : Int) = lenX x.pl.length by unfold byte lenX; rw [Int.toNat_natCast]]
  rfl
/-- Behind X: all that was there stands. -/
def Held (X w : World) : Prop := Below X.heap.size X w
theorem Held.start (X : World) : Held X X.drew := (Below.refl _ _).drew
theorem Held.step {X w w' : World} (h : Held X w) (hb : Below w.heap.size w w') : Held X w' := Below.trans h (hb.mono (Below.size h))
theorem Held.cell {X w : World} {a : Addr} {v : Value} (h : Held X w) (hc : X.cell? a = some v) : w.cell? a = some v := (Below.cell h (World.block_lt_of_cell? X a hc)).trans hc
theorem lit8 (w : World) (x : Sx) (n : Nat) (cs : Array Value) (hc : cs.toList = bcs (headX x)) (hs : cs.size = 8) (B : Nat) (hB : B = w.heap.size) : (w.alloc (.cells cs 5)).ownsRow 0 5 1 (.slice (some ⟨B, 0, none⟩) 8 8) 8 (bcs (headX x)) := by
  subst hB
  rw [← hc]
  exact World.ownsRow_lit w cs 8 (Nat.zero_le _) (by unfold maxLen; omega) (by omega)
set_option maxHeartbeats 2000000 in
theorem put_ok (x : Sx) (hr : rng x.ep) (h : okX x = true) (w : World) : Calls Tryz.prog 84 #[sv x] w fun e w' => PutP x w e w' := by
  obtain ⟨k1, k2, k3, k4, k5, k6⟩ := okX_iff.1 h
  have HP := Lib.hid (show ∀ w', Below w.heap.size w w' → PutP x w (.returned (.tuple #[.string (str (encX x)), .bool true])) w' from fun w' hb => by
    unfold PutP; rw [h, putX_yes h]; exact ⟨rfl, hb⟩)
  have PL := Lib.hid (place_any x.ep x.ix hr)
  rw [show placeB x.ep x.ix = true from decide_eq_true ⟨k1, k2, k3, k4⟩] at PL
  have MK := Lib.hid (mark_any x.fr)
  have RP := Lib.hid (fun w => repeat_any (56 - x.pl.length) (by omega) w)
  have HE := Lib.hid (show str (headX x) ++ str x.pl ++ str (zs (56 - x.pl.length)) = str (encX x) by
    unfold encX padX
    rw [← str_append, ← str_append, List.append_assoc]
    rfl)
  have e1 := u32_in (x := x.ep) (by omega) k2
  have e2 := u16_in k3 k4
  have a0 := u8_byte (x := x.ep / 16777216) (by omega)
  have a1 := u8_byte (x := x.ep / 65536) (by omega)
  have a2 := u8_byte (x := x.ep / 256) (by omega)
  have a3 := u8_byte (x := x.ep) (by omega)
  have a4 := u8_byte (x := x.ix / 256) (by omega)
  have a5 := u8_byte (x := x.ix) (by omega)
  have a7 := u8_byte (x := (x.pl.length : Int)) (by omega)
  have hlen : ((str x.pl).size : Nat) = x.pl.length := rfl
  unfold sv
  have hn0 : ((x.pl.length : Int) == 0) = false := by rw [beq_eq_false_iff_ne]; omega
  have hn1 : ¬ (56 : Int) < (x.pl.length : Int) := by omega
  have hn2 : (56 : Int) - (x.pl.length : Int) = ((56 - x.pl.length : Nat) : Int) := by omega
  have hn3 : IntKind.i64.wrap ((56 - x.pl.length : Nat) : Int) = ((56 - x.pl.length : Nat) : Int) := IntWalk.i64_in _ (by omega)
  have HB := Lib.hid ((Below.refl w.heap.size w).alloc (Nat.le_refl _) (.cells #[.int .i64 x.ep, .int .i64 x.ix, .bool x.fr, .string (str x.pl)] 125))
  have hbx := Sb.new w x
  obtain ⟨x0, x1, x2, x3⟩ := hbx.cells
  go_enter Tryz.func84, Tryz.ntmps84
  go_wp2_with fail
  refine (PL.out _).mono ?_; rintro q w1 ⟨rfl, rfl⟩
  go_wp2_with fail
  go_quiet (fail)
  go_wp2_with fail
  refine (MK.out _).mono ?_; rintro q w1 ⟨rfl, rfl⟩
  go_wp2_with fail
  have hown := lit8 ((w.alloc (Obj.cells #[Value.int IntKind.i64 x.ep, Value.int IntKind.i64 x.ix, Value.bool x.fr, Value.string (str x.pl)] 125)).drewN nq) x 8 _ (head_cells h) rfl (w.heap.size + 1) (by simp)
  have hsb : Sb (((w.alloc (Obj.cells #[Value.int IntKind.i64 x.ep, Value.int IntKind.i64 x.ix, Value.bool x.fr, Value.string (str x.pl)] 125)).drewN nq).alloc (.cells #[Value.int IntKind.u8 ((byte (x.ep / 16777216)).toNat : Int), .int .u8 ((byte (x.ep / 65536)).toNat : Int), .int .u8 ((byte (x.ep / 256)).toNat : Int), .int .u8 ((byte x.ep).toNat : Int), .int .u8 ((byte (x.ix / 256)).toNat : Int), .int .u8 ((byte x.ix).toNat : Int), .int .u8 ((flagX x.fr).toNat : Int), .int .u8 ((byte (x.pl.length : Int)).toNat : Int)] 5)) w.heap.size x := Bx.alloc (w := (w.alloc (Obj.cells #[Value.int IntKind.i64 x.ep, Value.int IntKind.i64 x.ix, Value.bool x.fr, Value.string (str x.pl)] 125)).drewN nq) hbx _
  have HB2 := Lib.hid (show Below w.heap.size w (((w.alloc (Obj.cells #[Value.int IntKind.i64 x.ep, Value.int IntKind.i64 x.ix, Value.bool x.fr, Value.string (str x.pl)] 125)).drewN nq).alloc (.cells #[Value.int IntKind.u8 ((byte (x.ep / 16777216)).toNat : Int), .int .u8 ((byte (x.ep / 65536)).toNat : Int), .int .u8 ((byte (x.ep / 256)).toNat : Int), .int .u8 ((byte x.ep).toNat : Int), .int .u8 ((byte (x.ix / 256)).toNat : Int), .int .u8 ((byte x.ix).toNat : Int), .int .u8 ((flagX x.fr).toNat : Int), .int .u8 ((byte (x.pl.length : Int)).toNat : Int)] 5)) from (below_drewN HB.out nq).alloc (by simp) _)
  clear hbx x0 x1 x2 x3 HB
  generalize ((w.alloc (Obj.cells #[Value.int IntKind.i64 x.ep, Value.int IntKind.i64 x.ix, Value.bool x.fr, Value.string (str x.pl)] 125)).drewN nq).alloc (.cells #[Value.int IntKind.u8 ((byte (x.ep / 16777216)).toNat : Int), .int .u8 ((byte (x.ep / 65536)).toNat : Int), .int .u8 ((byte (x.ep / 256)).toNat : Int), .int .u8 ((byte x.ep).toNat : Int), .int .u8 ((byte (x.ix / 256)).toNat : Int), .int .u8 ((byte x.ix).toNat : Int), .int .u8 ((flagX x.fr).toNat : Int), .int .u8 ((byte (x.pl.length : Int)).toNat : Int)] 5) = X at *
  have hcv := fun w (hh : Held X w) => own_string (w := w) (owns_kept2 hown (fun g hg => Below.block hh g (hown.lt g hg).2)) (by rw [headX_length])
  have hc3 := fun w (hh : Held X w) => hh.cell hsb.cells.2.2.2
  have hsn : (str (headX x)).size = 8 := rfl
  have hsz : (str (zs (56 - x.pl.length))).size = 56 - x.pl.length := by rw [str_size, zs_length]
  have hh1 : ¬ 9223372036854775807 < (str (headX x)).size + (str x.pl).size := by omega
  have hh2 : ¬ 9223372036854775807 < (str (headX x) ++ str x.pl).size + (str (zs (56 - x.pl.length))).size := by rw [ByteArray.size_append]; omega
  have hh3 : ¬ 9223372036854775807 < (str (headX x)).size + (str x.pl).size + (str (zs (56 - x.pl.length))).size := by omega
  have HES := Lib.hid HE.out
  clear hsn hsz hlen HE
  generalize str (headX x) = sh at *
  generalize str x.pl = sp at *
  generalize str (zs (56 - x.pl.length)) = sz at *
  go_region_held3 (fun w' => Held X w') (first | exact Held.start _ | exact Held.step (by assumption) (by assumption)) (first
    | (go_at_call 121; refine (RP.out _).mono ?_; rintro e w' ⟨rfl, hb⟩))
  have HH := Lib.hid (HB2.out.trans (Below.mono ‹Held X _› (Below.size HB2.out)))
  go_wp2_with fail
  rw [HES.out]
  go_ret2
  exact HP.out _ HH.out
theorem put_any (x : Sx) (hr : rng x.ep) (hs : x.pl.length ≤ maxLen) (w : World) : Calls Tryz.prog 84 #[sv x] w fun e w' => PutP x w e w' := by
  cases h : okX x with
  | true => exact put_ok x hr h w
  | false => exact put_bad x hr hs h w
end Go.Proofs.YtnjggoeahaglbaaGreat.Fr

/- The contract of Get. -/
namespace Go.Proofs.YtnjggoeahaglbaaGreat.Fr
open Go.ChangeShapes Go.WideShapes Go.ChangeAt Go.RowKit
set_option linter.unusedVariables false
set_option linter.unusedSimpArgs false
set_option maxRecDepth 100000
def GetP (b : BA) (w : World) (e : Ending) (w' : World) : Prop := e = .returned (.tuple #[sv (gotX b), .bool (getOkX b)]) ∧ Below w.heap.size w w'
theorem GetP.no {b : BA} {w w' : World} (h : getOkX b = false) (hb : Below w.heap.size w w') : GetP b w (.returned (.tuple #[.agg #[.int .i64 0, .int .i64 0, .bool false, .string ⟨#[]⟩], .bool false])) w' := by
  unfold GetP gotX
  rw [h]
  exact ⟨rfl, hb⟩
theorem GetP.yes {b : BA} {w w' : World} (h : getOkX b = true) (hb : Below w.heap.size w w') : GetP b w (.returned (.tuple #[sv (readX b), .bool true])) w' := by
  unfold GetP gotX
  rw [h]
  exact ⟨rfl, hb⟩
theorem below_four {w w' : World} {B b : Nat} (h : Below B w w') (hB : B ≤ b) (v0 v1 v2 v3 : Value) : Below B w ((((w'.setCell ⟨b, 0, none⟩ v0).setCell ⟨b, 1, none⟩ v1).setCell ⟨b, 2, none⟩ v2).setCell ⟨b, 3, none⟩ v3) :=
  (((h.setCell hB _).setCell hB _).setCell hB _).setCell hB _
theorem Bx.set {w : World} {B : Nat} {cs : Array Value} {t : TypeId} (h : Bx w B cs t) (i : Nat) (v : Value) : Bx (w.setCell ⟨B, i, none⟩ v) B (cs.setIfInBounds i v) t := heap_setCell_same w B i cs t v h
theorem Bx.set4 {w : World} {B : Nat} {a b c d : Value} {t : TypeId} (h : Bx w B #[a, b, c, d] t) (v0 v1 v2 v3 : Value) : Bx ((((w.setCell ⟨B, 0, none⟩ v0).setCell ⟨B, 1, none⟩ v1).setCell ⟨B, 2, none⟩ v2).setCell ⟨B, 3, none⟩ v3) B #[v0, v1, v2, v3] t := (((h.set 0 v0).set 1 v1).set 2 v2).set 3 v3
theorem Bx.other {w : World} {B C : Nat} {cs : Array Value} {t : TypeId} (h : Bx w B cs t) (hne : B ≠ C) (i : Nat) (v : Value) : Bx (w.setCell ⟨C, i, none⟩ v) B cs t := (Below.heap_setCell w ⟨C, i, none⟩ v B hne).trans h
theorem Bx.other4 {w : World} {B C : Nat} {cs : Array Value} {t : TypeId} (h : Bx w B cs t) (hne : B ≠ C) (v0 v1 v2 v3 : Value) : Bx ((((w.setCell ⟨C, 0, none⟩ v0).setCell ⟨C, 1, none⟩ v1).setCell ⟨C, 2, none⟩ v2).setCell ⟨C, 3, none⟩ v3) B cs t := (((h.other hne 0 v0).other hne 1 v1).other hne 2 v2).other hne 3 v3
theorem extract_str (x : ByteArray) (a b : Nat) : x.extract a b = str ((x.data.toList.drop a).take (b - a)) := by
  apply ByteArray.ext
  apply Array.toList_inj.1
  simp [str, ByteArray.data_extract, List.extract_eq_take_drop]
theorem run_ix (m : BA) (i : Nat) (hi : i < m.length) (w : World) : (Instr.index 9 (.string (str m)) (.int .i64 i)).run Tryz.prog w = .ok (.int .u8 ((m.getD i 0).toNat : Int)) w := by
  have hi' : (0 : Int) ≤ (i : Int) ∧ (i : Int) < ((str m).size : Nat) := ⟨by omega, by rw [str_size]; omega⟩
  rw [run_index_string (P := Tryz.prog) w 9 (str m) .i64 i Tryz.underlying9, dif_pos hi']
  simp [str, ByteArray.getElem_eq_getElem_data, List.getD, hi]
theorem get_len {b : BA} (h : b.length ≠ 64) : getOkX b = false := by
  unfold getOkX; rw [decide_eq_false h]; rfl
/-- The payload, cut. -/
theorem read_cut {b : BA} (h : b.length = 64) (m : Nat) (hm : m = min (b.getD 7 0).toNat 56) : readX b = ⟨num (b.take 4), num ((b.drop 4).take 2), decide (b.getD 6 0 = 2), (b.drop 8).take m⟩ := by
  unfold readX
  congr 1
  subst hm
  by_cases h1 : (b.getD 7 0).toNat ≤ 56
  · rw [Nat.min_eq_left h1]
  · rw [Nat.min_eq_right (by omega), List.take_of_length_le (by rw [List.length_drop]; omega), List.take_of_length_le (by rw [List.length_drop]; omega)]
theorem get_is {b : BA} : getOkX b = (okX (readX b) && decide (putX (readX b) = b)) := by
  cases h : getOkX b with
  | true =>
    obtain ⟨h1, h2⟩ := getOkX_iff.1 h
    rw [h1, putX_yes h1, decide_eq_true h2]; rfl
  | false =>
    cases h1 : okX (readX b) with
    | false => rfl
    | true =>
      rw [Bool.true_and, Eq.comm, decide_eq_false_iff_not]
      intro h2
      rw [putX_yes h1] at h2
      rw [getOkX_iff.2 ⟨h1, h2⟩] at h
      cases h
set_option maxHeartbeats 2000000 in
theorem get_any (b : BA) (hs : b.length ≤ maxLen) (w : World) : Calls Tryz.prog 92 #[.string (str b)] w fun e w' => GetP b w e w' := by
  unfold maxLen at hs
  by_cases hl : b.length = 64
  · have HOK := Lib.hid (get_is (b := b))
    have HNO := Lib.hid (fun w' (h : getOkX b = false) (hb : Below w.heap.size w w') => GetP.no h hb)
    have HYE := Lib.hid (fun w' (h : getOkX b = true) (hb : Below w.heap.size w w') => GetP.yes h hb)
    obtain ⟨m, hm⟩ : ∃ m, m = min (b.getD 7 0).toNat 56 := ⟨_, rfl⟩
    have hrd := read_cut hl m hm
    have i7 : ∀ w : World, (Instr.index 9 (.string (str b)) (.int .i64 7)).run Tryz.prog w = .ok (.int .u8 ((b.getD 7 0).toNat : Int)) w := fun w => run_ix b 7 (by omega) w
    have i6 : ∀ w : World, (Instr.index 9 (.string (str b)) (.int .i64 6)).run Tryz.prog w = .ok (.int .u8 ((b.getD 6 0).toNat : Int)) w := fun w => run_ix b 6 (by omega) w
    have hm56 : m ≤ 56 := by omega
    have hmin : min ((b.getD 7 0).toNat : Int) 56 = (m : Int) := by omega
    have s1 : ∀ w : World, (Instr.slice 9 (.string (str b)) none (some (.int .i64 4)) none).run Tryz.prog w = .ok (.string (str (b.take 4))) w := fun w => by
      rw [run_slice_string_h (P := Tryz.prog) w 9 (str b) Tryz.underlying9 .i64 4 (by omega) (by rw [str_size]; omega), extract_str]; rfl
    have s2 : ∀ w : World, (Instr.slice 9 (.string (str b)) (some (.int .i64 4)) (some (.int .i64 6)) none).run Tryz.prog w = .ok (.string (str ((b.drop 4).take 2))) w := fun w => by
      rw [run_slice_string w 9 (str b) .i64 .i64 4 6 Tryz.underlying9 (by omega) (by omega) (by rw [str_size]; omega), extract_str]; rfl
    have s3 : ∀ w : World, (Instr.slice 9 (.string (str b)) (some (.int .i64 8)) (some (.int .i64 (8 + (m : Int)))) none).run Tryz.prog w = .ok (.string (str ((b.drop 8).take m))) w := fun w => by
      rw [run_slice_string w 9 (str b) .i64 .i64 8 (8 + (m : Int)) Tryz.underlying9 (by omega) (by omega) (by rw [str_size]; omega), extract_str, show ((8 : Int)).toNat = 8 from rfl, show (8 + (m : Int)).toNat - 8 = m by omega]; rfl
    have hw8 : IntKind.i64.wrap (8 + (m : Int)) = 8 + (m : Int) := IntWalk.i64_in _ (by omega)
    have hwm : IntKind.i64.wrap ((b.getD 7 0).toNat : Int) = ((b.getD 7 0).toNat : Int) := IntWalk.i64_in _ (by have := (b.getD 7 0).toNat_lt; omega)
    have hfr : (((b.getD 6 0).toNat : Int) == 2) = decide (b.getD 6 0 = 2) := by
      by_cases h6 : b.getD 6 0 = 2
      · rw [h6]; rfl
      · rw [decide_eq_false h6, beq_eq_false_iff_ne]
        intro e
        apply h6
        apply UInt8.toNat_inj.1
        show (b.getD 6 0).toNat = 2
        omega
    have NU := Lib.hid (fun (x : BA) (hx : x.length ≤ 4) w => number_any x hx w)
    have NU1 := Lib.hid (fun w => number_any (b.take 4) (by simp; omega) w)
    have NU2 := Lib.hid (fun w => number_any ((b.drop 4).take 2) (by simp; omega) w)
    have CL := Lib.hid (fun w => clone_any (str ((b.drop 8).take m)) (by rw [str_size, List.length_take]; omega) w)
    have PU := Lib.hid (fun w => put_any (readX b) (by
      rw [hrd]
      have := num_lt (b.take 4) (by simp; omega)
      have h2 : 256 ^ (b.take 4).length ≤ 256 ^ 4 := Nat.pow_le_pow_right (by omega) (by simp; omega)
      have e : (256 : Nat) ^ 4 = 4294967296 := rfl
      unfold rng; dsimp only; omega) (by rw [hrd]; dsimp only; rw [List.length_take]; unfold maxLen; omega) w)
    have hb64 : (str b).size = 64 := hl
    obtain ⟨S, hS⟩ : ∃ S, S = readX b := ⟨_, rfl⟩
    rw [← hS] at PU HOK HYE hrd
    have e0 : S.ep = ((num (b.take 4) : Nat) : Int) := by rw [hrd]
    have e1 : S.ix = ((num ((b.drop 4).take 2) : Nat) : Int) := by rw [hrd]
    have e2 : S.fr = decide (b.getD 6 0 = 2) := by rw [hrd]
    have e3 : S.pl = (b.drop 8).take m := by rw [hrd]
    rw [← e3] at s3 CL
    rw [← e2] at hfr
    rw [← e0] at NU1
    rw [← e1] at NU2
    clear e0 e1 e2 e3 hrd NU hS hm
    have HX := Lib.hid (Bx.new w #[.int .i64 0, .int .i64 0, .bool false, .string ⟨#[]⟩] 125)
    have HB := Lib.hid ((Below.refl w.heap.size w).alloc (Nat.le_refl _) (.cells #[.int .i64 0, .int .i64 0, .bool false, .string ⟨#[]⟩] 125))
    obtain ⟨t1, ht1⟩ : ∃ t1, t1 = str (b.take 4) := ⟨_, rfl⟩
    obtain ⟨t2, ht2⟩ : ∃ t2, t2 = str ((b.drop 4).take 2) := ⟨_, rfl⟩
    obtain ⟨t3, ht3⟩ : ∃ t3, t3 = str S.pl := ⟨_, rfl⟩
    rw [← ht1] at s1 NU1
    rw [← ht2] at s2 NU2
    rw [← ht3] at s3 CL
    have HS := Lib.hid (show ∀ (V : World) (g : Nat), Bx V g #[.int .i64 S.ep, .int .i64 S.ix, .bool S.fr, .string t3] 125 → Sb V g S from fun V g h => by rw [ht3] at h; exact h)
    unfold PutP sv at PU
    rw [← ht3] at PU
    have HT3 := Lib.hid ht3
    clear ht1 ht2 ht3
    obtain ⟨B, hB⟩ : ∃ B, B = str b := ⟨_, rfl⟩
    rw [← hB] at s1 s2 s3 i6 i7 hb64 ⊢
    have HBB := Lib.hid hB
    clear hB
    generalize (b.getD 7 0).toNat = c7 at *
    generalize (b.getD 6 0).toNat = c6 at *
    go_enter Tryz.func92, Tryz.ntmps92
    go_wp2_with fail
    have HXX := HX
    have HBX := HB
    clear HX HB
    generalize hXX : w.alloc (Obj.cells #[Value.int IntKind.i64 0, Value.int IntKind.i64 0, Value.bool false, Value.string ⟨#[]⟩] 125) = X at *
    clear hXX
    go_cut [5] (fun s5 wx => ∃ g, s5 = .pointer (some ⟨g, 0, none⟩) ∧ Hid (Bx wx g #[.int .i64 S.ep, .int .i64 S.ix, .bool S.fr, .string t3] 125 ∧ Bx wx w.heap.size #[.int .i64 0, .int .i64 0, .bool false, .string ⟨#[]⟩] 125 ∧ Below w.heap.size w wx ∧ g ≠ w.heap.size))
    case first =>
      refine wp_region_noPanic ?_
      refine wp_region_held_drew (S := Held X) (by kernel_rfl) ?_ (fun hHeld => ?_)
      · exact Held.start _
      refine wpAnyH_take (i := 0) (oi := { dst := some 16, op := Op.move (Operand.tmp 0), type := 9, pos := "frame.go:47", after := #[], guard := none }) (v := .string B) rfl (by kernel_rfl) (by kernel_rfl) (by kernel_rfl) (fun _ _ _ h => h) (Or.inl ⟨by rfl, fun w' hSw => by ((try dsimp only at hSw); go_simp)⟩) (by assumption) ?_
      (try simp only [Act.put, List.setIfInBounds_toArray, List.set_cons_zero, List.set_cons_succ])
      refine wpAnyH_take (i := 1) (oi := { dst := some 17, op := Op.slice 9 (Operand.tmp 16) none (some (Operand.const (Value.int IntKind.i64 4))) none, type := 9, pos := "frame.go:47", after := #[{ on := 0, ground := Ground.data }], guard := none }) (v := .string t1) rfl (by kernel_rfl) (by kernel_rfl) (by kernel_rfl) (fun _ _ _ h => h) (Or.inl ⟨by rfl, fun w' hSw => by ((try dsimp only at hSw); have := s1 w'; go_simp)⟩) (by assumption) ?_
      (try simp only [Act.put, List.setIfInBounds_toArray, List.set_cons_zero, List.set_cons_succ])
      refine wpAnyH_take (i := 3) (oi := { dst := some 19, op := Op.move (Operand.tmp 0), type := 9, pos := "frame.go:47", after := #[], guard := none }) (v := .string B) rfl (by kernel_rfl) (by kernel_rfl) (by kernel_rfl) (fun _ _ _ h => h) (Or.inl ⟨by rfl, fun w' hSw => by ((try dsimp only at hSw); go_simp)⟩) (by assumption) ?_
      (try simp only [Act.put, List.setIfInBounds_toArray, List.set_cons_zero, List.set_cons_succ])
      refine wpAnyH_take (i := 4) (oi := { dst := some 20, op := Op.slice 9 (Operand.tmp 19) (some (Operand.const (Value.int IntKind.i64 4))) (some (Operand.const (Value.int IntKind.i64 6))) none, type := 9, pos := "frame.go:47", after := #[{ on := 3, ground := Ground.data }], guard := none }) (v := .string t2) rfl (by kernel_rfl) (by kernel_rfl) (by kernel_rfl) (fun _ _ _ h => h) (Or.inl ⟨by rfl, fun w' hSw => by ((try dsimp only at hSw); have := s2 w'; go_simp)⟩) (by assumption) ?_
      (try simp only [Act.put, List.setIfInBounds_toArray, List.set_cons_zero, List.set_cons_succ])
      refine wpAnyH_take (i := 6) (oi := { dst := some 22, op := Op.move (Operand.tmp 0), type := 9, pos := "frame.go:47", after := #[], guard := none }) (v := .string B) rfl (by kernel_rfl) (by kernel_rfl) (by kernel_rfl) (fun _ _ _ h => h) (Or.inl ⟨by rfl, fun w' hSw => by ((try dsimp only at hSw); go_simp)⟩) (by assumption) ?_
      (try simp only [Act.put, List.setIfInBounds_toArray, List.set_cons_zero, List.set_cons_succ])
      refine wpAnyH_take (i := 7) (oi := { dst := some 23, op := Op.index 9 (Operand.tmp 22) (Operand.const (Value.int IntKind.i64 6)), type := 5, pos := "frame.go:47", after := #[{ on := 6, ground := Ground.data }], guard := none }) (v := .int .u8 (c6 : Int)) rfl (by kernel_rfl) (by kernel_rfl) (by kernel_rfl) (fun _ _ _ h => h) (Or.inl ⟨by rfl, fun w' hSw => by ((try dsimp only at hSw); have := i6 w'; go_simp)⟩) (by assumption) ?_
      (try simp only [Act.put, List.setIfInBounds_toArray, List.set_cons_zero, List.set_cons_succ])
      refine wpAnyH_take (i := 8) (oi := { dst := some 24, op := Op.binOp BinOp.eql 5 (Operand.tmp 23) (Operand.const (Value.int IntKind.u8 2)) 5, type := 4, pos := "frame.go:47", after := #[{ on := 7, ground := Ground.data }], guard := none }) (v := .bool S.fr) rfl (by kernel_rfl) (by kernel_rfl) (by kernel_rfl) (fun _ _ _ h => h) (Or.inl ⟨by rfl, fun w' hSw => by ((try dsimp only at hSw); go_simp)⟩) (by assumption) ?_
      (try simp only [Act.put, List.setIfInBounds_toArray, List.set_cons_zero, List.set_cons_succ])
      refine wpAnyH_take (i := 9) (oi := { dst := some 25, op := Op.move (Operand.tmp 0), type := 9, pos := "frame.go:47", after := #[], guard := none }) (v := .string B) rfl (by kernel_rfl) (by kernel_rfl) (by kernel_rfl) (fun _ _ _ h => h) (Or.inl ⟨by rfl, fun w' hSw => by ((try dsimp only at hSw); go_simp)⟩) (by assumption) ?_
      (try simp only [Act.put, List.setIfInBounds_toArray, List.set_cons_zero, List.set_cons_succ])
      refine wpAnyH_take (i := 10) (oi := { dst := some 26, op := Op.move (Operand.tmp 4), type := 3, pos := "frame.go:47", after := #[], guard := none }) (v := .int .i64 (m : Int)) rfl (by kernel_rfl) (by kernel_rfl) (by kernel_rfl) (fun _ _ _ h => h) (Or.inl ⟨by rfl, fun w' hSw => by ((try dsimp only at hSw); go_simp)⟩) (by assumption) ?_
      (try simp only [Act.put, List.setIfInBounds_toArray, List.set_cons_zero, List.set_cons_succ])
      refine wpAnyH_take (i := 11) (oi := { dst := some 27, op := Op.binOp BinOp.add 3 (Operand.const (Value.int IntKind.i64 8)) (Operand.tmp 26) 3, type := 3, pos := "frame.go:47", after := #[{ on := 10, ground := Ground.data }], guard := none }) (v := .int .i64 (8 + (m : Int))) rfl (by kernel_rfl) (by kernel_rfl) (by kernel_rfl) (fun _ _ _ h => h) (Or.inl ⟨by rfl, fun w' hSw => by ((try dsimp only at hSw); go_simp)⟩) (by assumption) ?_
      (try simp only [Act.put, List.setIfInBounds_toArray, List.set_cons_zero, List.set_cons_succ])
      refine wpAnyH_take (i := 12) (oi := { dst := some 28, op := Op.slice 9 (Operand.tmp 25) (some (Operand.const (Value.int IntKind.i64 8))) (some (Operand.tmp 27)) none, type := 9, pos := "frame.go:47", after := #[{ on := 9, ground := Ground.data }, { on := 11, ground := Ground.data }], guard := none }) (v := .string t3) rfl (by kernel_rfl) (by kernel_rfl) (by kernel_rfl) (fun _ _ _ h => h) (Or.inl ⟨by rfl, fun w' hSw => by ((try dsimp only at hSw); have := s3 w'; go_simp)⟩) (by assumption) ?_
      (try simp only [Act.put, List.setIfInBounds_toArray, List.set_cons_zero, List.set_cons_succ])
      have hOld := hHeld
      refine wpAnyH_ready (rs := [2, 15]) (by kernel_rfl) (by simp) ?_
      refine AllReadyH.cons (o := { dst := some 18, op := Op.call { callee := Callee.value (Operand.func 133), args := #[Operand.tmp 17], argTypes := #[9] }, type := 3, pos := "frame.go:48", after := #[{ on := 1, ground := Ground.data }], guard := none }) rfl (fun K hK => ?_) ?_
      · go_simp; go_at_call 133; refine (NU1.out _).mono ?_; rintro e u1 ⟨rfl, hb1⟩
        refine hK.out _ _ ?_ (fun hHeld => ?_)
        · exact Held.step hOld hb1
        clear hK K
        (try simp only [Act.put, List.setIfInBounds_toArray, List.set_cons_zero, List.set_cons_succ])
        clear hOld
        clear hb1
        have hOld : Held X u1 := hHeld
        clear hHeld
        refine wpAnyH_ready (rs := [5, 15]) (by kernel_rfl) (by simp) ?_
        refine AllReadyH.cons (o := { dst := some 21, op := Op.call { callee := Callee.value (Operand.func 133), args := #[Operand.tmp 20], argTypes := #[9] }, type := 3, pos := "frame.go:49", after := #[{ on := 4, ground := Ground.data }, { on := 2, ground := Ground.chain }], guard := none }) rfl (fun K hK => ?_) ?_
        · go_simp; go_at_call 133; refine (NU2.out _).mono ?_; rintro e u2 ⟨rfl, hb2⟩
          refine hK.out _ _ ?_ (fun hHeld => ?_)
          · exact Held.step hOld hb2
          clear hK K
          (try simp only [Act.put, List.setIfInBounds_toArray, List.set_cons_zero, List.set_cons_succ])
          clear hOld
          clear hb2
          have hOld : Held X u2 := hHeld
          clear hHeld
          refine wpAnyH_ready (rs := [13, 15]) (by kernel_rfl) (by simp) ?_
          refine AllReadyH.cons (o := { dst := some 29, op := Op.call { callee := Callee.value (Operand.func 134), args := #[Operand.tmp 28], argTypes := #[9] }, type := 9, pos := "frame.go:51", after := #[{ on := 12, ground := Ground.data }, { on := 5, ground := Ground.chain }], guard := none }) rfl (fun K hK => ?_) ?_
          · go_simp; go_at_call 134; refine (CL.out _).mono ?_; rintro e u3 ⟨rfl, hb3⟩
            refine hK.out _ _ ?_ (fun hHeld => ?_)
            · exact Held.step hOld hb3
            clear hK K
            (try simp only [Act.put, List.setIfInBounds_toArray, List.set_cons_zero, List.set_cons_succ])
            clear hOld
            clear hb3
            have hOld : Held X u3 := hHeld
            clear hHeld
            refine wpAnyH_take (i := 14) (oi := { dst := some 30, op := Op.build 125 #[(0, Operand.tmp 18), (1, Operand.tmp 21), (2, Operand.tmp 24), (3, Operand.tmp 29)], type := 125, pos := "frame.go:47", after := #[{ on := 2, ground := Ground.data }, { on := 5, ground := Ground.data }, { on := 8, ground := Ground.data }, { on := 13, ground := Ground.data }], guard := none }) (v := (.agg #[.int .i64 S.ep, .int .i64 S.ix, .bool S.fr, .string t3])) rfl (by kernel_rfl) (by kernel_rfl) (by kernel_rfl) (fun _ _ _ h => h) (Or.inl ⟨by rfl, fun w' hSw => by ((try dsimp only at hSw); go_simp)⟩) (by assumption) ?_
            (try simp only [Act.put, List.setIfInBounds_toArray, List.set_cons_zero, List.set_cons_succ])
            refine wpAnyH_ready (rs := [15]) (by kernel_rfl) (by simp) ?_
            refine AllReadyH.cons (o := { dst := some 5, op := Op.alloc 125, type := 0, pos := "frame.go:47", after := #[], guard := none }) rfl (fun K hK => ?_) ?_
            · go_simp
              refine hK.out _ _ ?_ (fun hHeld => ?_)
              · exact Held.step hOld ((Below.refl _ _).alloc (Nat.le_refl _) _)
              clear hK K
              (try simp only [Act.put, List.setIfInBounds_toArray, List.set_cons_zero, List.set_cons_succ])
              refine wpAnyH_ready (rs := [16]) (by kernel_rfl) (by simp) ?_
              refine AllReadyH.cons (o := { dst := none, op := Op.store 125 (Operand.tmp 5) (Operand.tmp 30), type := 0, pos := "frame.go:47", after := #[{ on := 15, ground := Ground.data }, { on := 14, ground := Ground.data }, { on := 13, ground := Ground.chain }, { on := 0, ground := Ground.phase }, { on := 1, ground := Ground.phase }, { on := 2, ground := Ground.phase }, { on := 3, ground := Ground.phase }, { on := 4, ground := Ground.phase }, { on := 5, ground := Ground.phase }, { on := 6, ground := Ground.phase }, { on := 7, ground := Ground.phase }, { on := 8, ground := Ground.phase }, { on := 9, ground := Ground.phase }, { on := 10, ground := Ground.phase }, { on := 11, ground := Ground.phase }, { on := 12, ground := Ground.phase }, { on := 13, ground := Ground.phase }, { on := 14, ground := Ground.phase }, { on := 15, ground := Ground.phase }], guard := none }) rfl (fun K hK => ?_) ?_
              · go_simp
                refine hK.out _ _ ?_ (fun hHeld => ?_)
                · exact Held.step hOld ((Below.refl _ _).alloc (Nat.le_refl _) _)
                clear hK K
                (try simp only [Act.put, List.setIfInBounds_toArray, List.set_cons_zero, List.set_cons_succ])
                have HPB := Bx.new u3 #[.int .i64 S.ep, .int .i64 S.ix, .bool S.fr, .string t3] 125
                have HRB := Bx.alloc (HXX.out.held hOld) (.cells #[.int .i64 S.ep, .int .i64 S.ix, .bool S.fr, .string t3] 125)
                have HBW := (HBX.out.trans (Below.mono hOld (Below.size HBX.out))).alloc (Nat.le_trans (Below.size HBX.out) (Below.size hOld)) (.cells #[.int .i64 S.ep, .int .i64 S.ix, .bool S.fr, .string t3] 125)
                have HGN := Nat.ne_of_gt (Nat.lt_of_lt_of_le HXX.out.lt (Below.size hOld))
                clear hHeld hOld
                refine wpAnyH_done (by kernel_rfl) ?_ _
                refine NoPanic.normal ?_
                have HF := Lib.hid (And.intro HPB (And.intro HRB (And.intro HBW HGN)))
                clear HPB HRB HBW HGN
                generalize u3.alloc (.cells #[.int .i64 S.ep, .int .i64 S.ix, .bool S.fr, .string t3] 125) = V at *
                generalize u3.heap.size = g at *
                go_wp2_with fail
                go_meet
                exact ⟨g, rfl, HF.out⟩
              exact AllReadyH.nil
            exact AllReadyH.nil
          refine AllReadyH.cons (o := { dst := some 5, op := Op.alloc 125, type := 0, pos := "frame.go:47", after := #[], guard := none }) rfl (fun K hK => ?_) ?_
          · go_simp
            refine hK.out _ _ ?_ (fun hHeld => ?_)
            · exact Held.step hOld ((Below.refl _ _).alloc (Nat.le_refl _) _)
            clear hK K
            (try simp only [Act.put, List.setIfInBounds_toArray, List.set_cons_zero, List.set_cons_succ])
            have HY : Bx (u2.alloc (.cells #[.int .i64 0, .int .i64 0, .bool false, .string ⟨#[]⟩] 125)) u2.heap.size #[.int .i64 0, .int .i64 0, .bool false, .string ⟨#[]⟩] 125 := Bx.new u2 _ _
            have hgs : X.heap.size ≤ u2.heap.size := Below.size hOld
            have hgn : w.heap.size ≠ u2.heap.size := Nat.ne_of_lt (Nat.lt_of_lt_of_le HXX.out.lt hgs)
            clear hOld
            have hOld : Held X (u2.alloc (.cells #[.int .i64 0, .int .i64 0, .bool false, .string ⟨#[]⟩] 125)) := hHeld
            refine wpAnyH_ready (rs := [13]) (by kernel_rfl) (by simp) ?_
            refine AllReadyH.cons (o := { dst := some 29, op := Op.call { callee := Callee.value (Operand.func 134), args := #[Operand.tmp 28], argTypes := #[9] }, type := 9, pos := "frame.go:51", after := #[{ on := 12, ground := Ground.data }, { on := 5, ground := Ground.chain }], guard := none }) rfl (fun K hK => ?_) ?_
            · go_simp; go_at_call 134; refine (CL.out _).mono ?_; rintro e u3 ⟨rfl, hb3⟩
              refine hK.out _ _ ?_ (fun hHeld => ?_)
              · exact Held.step hOld hb3
              clear hK K
              (try simp only [Act.put, List.setIfInBounds_toArray, List.set_cons_zero, List.set_cons_succ])
              replace HY : Bx u3 u2.heap.size #[.int .i64 0, .int .i64 0, .bool false, .string ⟨#[]⟩] 125 := HY.held hb3
              clear hOld
              clear hb3
              have hOld : Held X u3 := hHeld
              clear hHeld
              refine wpAnyH_take (i := 14) (oi := { dst := some 30, op := Op.build 125 #[(0, Operand.tmp 18), (1, Operand.tmp 21), (2, Operand.tmp 24), (3, Operand.tmp 29)], type := 125, pos := "frame.go:47", after := #[{ on := 2, ground := Ground.data }, { on := 5, ground := Ground.data }, { on := 8, ground := Ground.data }, { on := 13, ground := Ground.data }], guard := none }) (v := (.agg #[.int .i64 S.ep, .int .i64 S.ix, .bool S.fr, .string t3])) rfl (by kernel_rfl) (by kernel_rfl) (by kernel_rfl) (fun _ _ _ h => h) (Or.inl ⟨by rfl, fun w' hSw => by ((try dsimp only at hSw); go_simp)⟩) (by assumption) ?_
              (try simp only [Act.put, List.setIfInBounds_toArray, List.set_cons_zero, List.set_cons_succ])
              have z0 := HY.cell 0
              have z1 := HY.cell 1
              have z2 := HY.cell 2
              have z3 := HY.cell 3
              have g0 := HY.free 0
              have g1 := HY.free 1
              have g2 := HY.free 2
              have g3 := HY.free 3
              simp only [List.getElem?_toArray, List.getElem?_cons_zero, List.getElem?_cons_succ] at z0 z1 z2 z3
              refine wpAnyH_ready (rs := [16]) (by kernel_rfl) (by simp) ?_
              refine AllReadyH.cons (o := { dst := none, op := Op.store 125 (Operand.tmp 5) (Operand.tmp 30), type := 0, pos := "frame.go:47", after := #[{ on := 15, ground := Ground.data }, { on := 14, ground := Ground.data }, { on := 13, ground := Ground.chain }, { on := 0, ground := Ground.phase }, { on := 1, ground := Ground.phase }, { on := 2, ground := Ground.phase }, { on := 3, ground := Ground.phase }, { on := 4, ground := Ground.phase }, { on := 5, ground := Ground.phase }, { on := 6, ground := Ground.phase }, { on := 7, ground := Ground.phase }, { on := 8, ground := Ground.phase }, { on := 9, ground := Ground.phase }, { on := 10, ground := Ground.phase }, { on := 11, ground := Ground.phase }, { on := 12, ground := Ground.phase }, { on := 13, ground := Ground.phase }, { on := 14, ground := Ground.phase }, { on := 15, ground := Ground.phase }], guard := none }) rfl (fun K hK => ?_) ?_
              · go_simp
                refine hK.out _ _ ?_ (fun hHeld => ?_)
                · exact below_four hOld hgs (.int .i64 S.ep) (.int .i64 S.ix) (.bool S.fr) (.string t3)
                clear hK K
                (try simp only [Act.put, List.setIfInBounds_toArray, List.set_cons_zero, List.set_cons_succ])
                have HPB := Bx.set4 HY (.int .i64 S.ep) (.int .i64 S.ix) (.bool S.fr) (.string t3)
                have HRB := Bx.other4 (HXX.out.held hOld) hgn (.int .i64 S.ep) (.int .i64 S.ix) (.bool S.fr) (.string t3)
                have HBW := below_four (B := w.heap.size) (b := u2.heap.size) (HBX.out.trans (Below.mono hOld (Below.size HBX.out))) (Nat.le_trans (Below.size HBX.out) hgs) (.int .i64 S.ep) (.int .i64 S.ix) (.bool S.fr) (.string t3)
                have HGN := hgn.symm
                clear hHeld hOld z0 z1 z2 z3 g0 g1 g2 g3 HY hgn hgs
                refine wpAnyH_done (by kernel_rfl) ?_ _
                refine NoPanic.normal ?_
                have HF := Lib.hid (And.intro HPB (And.intro HRB (And.intro HBW HGN)))
                clear HPB HRB HBW HGN
                generalize (((u3.setCell ⟨u2.heap.size, 0, none⟩ (.int .i64 S.ep)).setCell ⟨u2.heap.size, 1, none⟩ (.int .i64 S.ix)).setCell ⟨u2.heap.size, 2, none⟩ (.bool S.fr)).setCell ⟨u2.heap.size, 3, none⟩ (.string t3) = V at *
                generalize u2.heap.size = g at *
                go_wp2_with fail
                go_meet
                exact ⟨g, rfl, HF.out⟩
              exact AllReadyH.nil
            exact AllReadyH.nil
          exact AllReadyH.nil
        refine AllReadyH.cons (o := { dst := some 5, op := Op.alloc 125, type := 0, pos := "frame.go:47", after := #[], guard := none }) rfl (fun K hK => ?_) ?_
        · go_simp
          refine hK.out _ _ ?_ (fun hHeld => ?_)
          · exact Held.step hOld ((Below.refl _ _).alloc (Nat.le_refl _) _)
          clear hK K
          (try simp only [Act.put, List.setIfInBounds_toArray, List.set_cons_zero, List.set_cons_succ])
          have HY : Bx (u1.alloc (.cells #[.int .i64 0, .int .i64 0, .bool false, .string ⟨#[]⟩] 125)) u1.heap.size #[.int .i64 0, .int .i64 0, .bool false, .string ⟨#[]⟩] 125 := Bx.new u1 _ _
          have hgs : X.heap.size ≤ u1.heap.size := Below.size hOld
          have hgn : w.heap.size ≠ u1.heap.size := Nat.ne_of_lt (Nat.lt_of_lt_of_le HXX.out.lt hgs)
          clear hOld
          have hOld : Held X (u1.alloc (.cells #[.int .i64 0, .int .i64 0, .bool false, .string ⟨#[]⟩] 125)) := hHeld
          refine wpAnyH_ready (rs := [5]) (by kernel_rfl) (by simp) ?_
          refine AllReadyH.cons (o := { dst := some 21, op := Op.call { callee := Callee.value (Operand.func 133), args := #[Operand.tmp 20], argTypes := #[9] }, type := 3, pos := "frame.go:49", after := #[{ on := 4, ground := Ground.data }, { on := 2, ground := Ground.chain }], guard := none }) rfl (fun K hK => ?_) ?_
          · go_simp; go_at_call 133; refine (NU2.out _).mono ?_; rintro e u2 ⟨rfl, hb2⟩
            refine hK.out _ _ ?_ (fun hHeld => ?_)
            · exact Held.step hOld hb2
            clear hK K
            (try simp only [Act.put, List.setIfInBounds_toArray, List.set_cons_zero, List.set_cons_succ])
            replace HY : Bx u2 u1.heap.size #[.int .i64 0, .int .i64 0, .bool false, .string ⟨#[]⟩] 125 := HY.held hb2
            clear hOld
            clear hb2
            have hOld : Held X u2 := hHeld
            clear hHeld
            refine wpAnyH_ready (rs := [13]) (by kernel_rfl) (by simp) ?_
            refine AllReadyH.cons (o := { dst := some 29, op := Op.call { callee := Callee.value (Operand.func 134), args := #[Operand.tmp 28], argTypes := #[9] }, type := 9, pos := "frame.go:51", after := #[{ on := 12, ground := Ground.data }, { on := 5, ground := Ground.chain }], guard := none }) rfl (fun K hK => ?_) ?_
            · go_simp; go_at_call 134; refine (CL.out _).mono ?_; rintro e u3 ⟨rfl, hb3⟩
              refine hK.out _ _ ?_ (fun hHeld => ?_)
              · exact Held.step hOld hb3
              clear hK K
              (try simp only [Act.put, List.setIfInBounds_toArray, List.set_cons_zero, List.set_cons_succ])
              replace HY : Bx u3 u1.heap.size #[.int .i64 0, .int .i64 0, .bool false, .string ⟨#[]⟩] 125 := HY.held hb3
              clear hOld
              clear hb3
              have hOld : Held X u3 := hHeld
              clear hHeld
              refine wpAnyH_take (i := 14) (oi := { dst := some 30, op := Op.build 125 #[(0, Operand.tmp 18), (1, Operand.tmp 21), (2, Operand.tmp 24), (3, Operand.tmp 29)], type := 125, pos := "frame.go:47", after := #[{ on := 2, ground := Ground.data }, { on := 5, ground := Ground.data }, { on := 8, ground := Ground.data }, { on := 13, ground := Ground.data }], guard := none }) (v := (.agg #[.int .i64 S.ep, .int .i64 S.ix, .bool S.fr, .string t3])) rfl (by kernel_rfl) (by kernel_rfl) (by kernel_rfl) (fun _ _ _ h => h) (Or.inl ⟨by rfl, fun w' hSw => by ((try dsimp only at hSw); go_simp)⟩) (by assumption) ?_
              (try simp only [Act.put, List.setIfInBounds_toArray, List.set_cons_zero, List.set_cons_succ])
              have z0 := HY.cell 0
              have z1 := HY.cell 1
              have z2 := HY.cell 2
              have z3 := HY.cell 3
              have g0 := HY.free 0
              have g1 := HY.free 1
              have g2 := HY.free 2
              have g3 := HY.free 3
              simp only [List.getElem?_toArray, List.getElem?_cons_zero, List.getElem?_cons_succ] at z0 z1 z2 z3
              refine wpAnyH_ready (rs := [16]) (by kernel_rfl) (by simp) ?_
              refine AllReadyH.cons (o := { dst := none, op := Op.store 125 (Operand.tmp 5) (Operand.tmp 30), type := 0, pos := "frame.go:47", after := #[{ on := 15, ground := Ground.data }, { on := 14, ground := Ground.data }, { on := 13, ground := Ground.chain }, { on := 0, ground := Ground.phase }, { on := 1, ground := Ground.phase }, { on := 2, ground := Ground.phase }, { on := 3, ground := Ground.phase }, { on := 4, ground := Ground.phase }, { on := 5, ground := Ground.phase }, { on := 6, ground := Ground.phase }, { on := 7, ground := Ground.phase }, { on := 8, ground := Ground.phase }, { on := 9, ground := Ground.phase }, { on := 10, ground := Ground.phase }, { on := 11, ground := Ground.phase }, { on := 12, ground := Ground.phase }, { on := 13, ground := Ground.phase }, { on := 14, ground := Ground.phase }, { on := 15, ground := Ground.phase }], guard := none }) rfl (fun K hK => ?_) ?_
              · go_simp
                refine hK.out _ _ ?_ (fun hHeld => ?_)
                · exact below_four hOld hgs (.int .i64 S.ep) (.int .i64 S.ix) (.bool S.fr) (.string t3)
                clear hK K
                (try simp only [Act.put, List.setIfInBounds_toArray, List.set_cons_zero, List.set_cons_succ])
                have HPB := Bx.set4 HY (.int .i64 S.ep) (.int .i64 S.ix) (.bool S.fr) (.string t3)
                have HRB := Bx.other4 (HXX.out.held hOld) hgn (.int .i64 S.ep) (.int .i64 S.ix) (.bool S.fr) (.string t3)
                have HBW := below_four (B := w.heap.size) (b := u1.heap.size) (HBX.out.trans (Below.mono hOld (Below.size HBX.out))) (Nat.le_trans (Below.size HBX.out) hgs) (.int .i64 S.ep) (.int .i64 S.ix) (.bool S.fr) (.string t3)
                have HGN := hgn.symm
                clear hHeld hOld z0 z1 z2 z3 g0 g1 g2 g3 HY hgn hgs
                refine wpAnyH_done (by kernel_rfl) ?_ _
                refine NoPanic.normal ?_
                have HF := Lib.hid (And.intro HPB (And.intro HRB (And.intro HBW HGN)))
                clear HPB HRB HBW HGN
                generalize (((u3.setCell ⟨u1.heap.size, 0, none⟩ (.int .i64 S.ep)).setCell ⟨u1.heap.size, 1, none⟩ (.int .i64 S.ix)).setCell ⟨u1.heap.size, 2, none⟩ (.bool S.fr)).setCell ⟨u1.heap.size, 3, none⟩ (.string t3) = V at *
                generalize u1.heap.size = g at *
                go_wp2_with fail
                go_meet
                exact ⟨g, rfl, HF.out⟩
              exact AllReadyH.nil
            exact AllReadyH.nil
          exact AllReadyH.nil
        exact AllReadyH.nil
      refine AllReadyH.cons (o := { dst := some 5, op := Op.alloc 125, type := 0, pos := "frame.go:47", after := #[], guard := none }) rfl (fun K hK => ?_) ?_
      · go_simp
        refine hK.out _ _ ?_ (fun hHeld => ?_)
        · exact Held.step hOld ((Below.refl _ _).alloc (Nat.le_refl _) _)
        clear hK K
        (try simp only [Act.put, List.setIfInBounds_toArray, List.set_cons_zero, List.set_cons_succ])
        have HY : Bx (X.drew.alloc (.cells #[.int .i64 0, .int .i64 0, .bool false, .string ⟨#[]⟩] 125)) X.heap.size #[.int .i64 0, .int .i64 0, .bool false, .string ⟨#[]⟩] 125 := Bx.new X.drew _ _
        have hgs : X.heap.size ≤ X.heap.size := Nat.le_refl _
        have hgn : w.heap.size ≠ X.heap.size := Nat.ne_of_lt (Nat.lt_of_lt_of_le HXX.out.lt hgs)
        clear hOld
        have hOld : Held X (X.drew.alloc (.cells #[.int .i64 0, .int .i64 0, .bool false, .string ⟨#[]⟩] 125)) := hHeld
        refine wpAnyH_ready (rs := [2]) (by kernel_rfl) (by simp) ?_
        refine AllReadyH.cons (o := { dst := some 18, op := Op.call { callee := Callee.value (Operand.func 133), args := #[Operand.tmp 17], argTypes := #[9] }, type := 3, pos := "frame.go:48", after := #[{ on := 1, ground := Ground.data }], guard := none }) rfl (fun K hK => ?_) ?_
        · go_simp; go_at_call 133; refine (NU1.out _).mono ?_; rintro e u1 ⟨rfl, hb1⟩
          refine hK.out _ _ ?_ (fun hHeld => ?_)
          · exact Held.step hOld hb1
          clear hK K
          (try simp only [Act.put, List.setIfInBounds_toArray, List.set_cons_zero, List.set_cons_succ])
          replace HY : Bx u1 X.heap.size #[.int .i64 0, .int .i64 0, .bool false, .string ⟨#[]⟩] 125 := HY.held hb1
          clear hOld
          clear hb1
          have hOld : Held X u1 := hHeld
          clear hHeld
          refine wpAnyH_ready (rs := [5]) (by kernel_rfl) (by simp) ?_
          refine AllReadyH.cons (o := { dst := some 21, op := Op.call { callee := Callee.value (Operand.func 133), args := #[Operand.tmp 20], argTypes := #[9] }, type := 3, pos := "frame.go:49", after := #[{ on := 4, ground := Ground.data }, { on := 2, ground := Ground.chain }], guard := none }) rfl (fun K hK => ?_) ?_
          · go_simp; go_at_call 133; refine (NU2.out _).mono ?_; rintro e u2 ⟨rfl, hb2⟩
            refine hK.out _ _ ?_ (fun hHeld => ?_)
            · exact Held.step hOld hb2
            clear hK K
            (try simp only [Act.put, List.setIfInBounds_toArray, List.set_cons_zero, List.set_cons_succ])
            replace HY : Bx u2 X.heap.size #[.int .i64 0, .int .i64 0, .bool false, .string ⟨#[]⟩] 125 := HY.held hb2
            clear hOld
            clear hb2
            have hOld : Held X u2 := hHeld
            clear hHeld
            refine wpAnyH_ready (rs := [13]) (by kernel_rfl) (by simp) ?_
            refine AllReadyH.cons (o := { dst := some 29, op := Op.call { callee := Callee.value (Operand.func 134), args := #[Operand.tmp 28], argTypes := #[9] }, type := 9, pos := "frame.go:51", after := #[{ on := 12, ground := Ground.data }, { on := 5, ground := Ground.chain }], guard := none }) rfl (fun K hK => ?_) ?_
            · go_simp; go_at_call 134; refine (CL.out _).mono ?_; rintro e u3 ⟨rfl, hb3⟩
              refine hK.out _ _ ?_ (fun hHeld => ?_)
              · exact Held.step hOld hb3
              clear hK K
              (try simp only [Act.put, List.setIfInBounds_toArray, List.set_cons_zero, List.set_cons_succ])
              replace HY : Bx u3 X.heap.size #[.int .i64 0, .int .i64 0, .bool false, .string ⟨#[]⟩] 125 := HY.held hb3
              clear hOld
              clear hb3
              have hOld : Held X u3 := hHeld
              clear hHeld
              refine wpAnyH_take (i := 14) (oi := { dst := some 30, op := Op.build 125 #[(0, Operand.tmp 18), (1, Operand.tmp 21), (2, Operand.tmp 24), (3, Operand.tmp 29)], type := 125, pos := "frame.go:47", after := #[{ on := 2, ground := Ground.data }, { on := 5, ground := Ground.data }, { on := 8, ground := Ground.data }, { on := 13, ground := Ground.data }], guard := none }) (v := (.agg #[.int .i64 S.ep, .int .i64 S.ix, .bool S.fr, .string t3])) rfl (by kernel_rfl) (by kernel_rfl) (by kernel_rfl) (fun _ _ _ h => h) (Or.inl ⟨by rfl, fun w' hSw => by ((try dsimp only at hSw); go_simp)⟩) (by assumption) ?_
              (try simp only [Act.put, List.setIfInBounds_toArray, List.set_cons_zero, List.set_cons_succ])
              have z0 := HY.cell 0
              have z1 := HY.cell 1
              have z2 := HY.cell 2
              have z3 := HY.cell 3
              have g0 := HY.free 0
              have g1 := HY.free 1
              have g2 := HY.free 2
              have g3 := HY.free 3
              simp only [List.getElem?_toArray, List.getElem?_cons_zero, List.getElem?_cons_succ] at z0 z1 z2 z3
              refine wpAnyH_ready (rs := [16]) (by kernel_rfl) (by simp) ?_
              refine AllReadyH.cons (o := { dst := none, op := Op.store 125 (Operand.tmp 5) (Operand.tmp 30), type := 0, pos := "frame.go:47", after := #[{ on := 15, ground := Ground.data }, { on := 14, ground := Ground.data }, { on := 13, ground := Ground.chain }, { on := 0, ground := Ground.phase }, { on := 1, ground := Ground.phase }, { on := 2, ground := Ground.phase }, { on := 3, ground := Ground.phase }, { on := 4, ground := Ground.phase }, { on := 5, ground := Ground.phase }, { on := 6, ground := Ground.phase }, { on := 7, ground := Ground.phase }, { on := 8, ground := Ground.phase }, { on := 9, ground := Ground.phase }, { on := 10, ground := Ground.phase }, { on := 11, ground := Ground.phase }, { on := 12, ground := Ground.phase }, { on := 13, ground := Ground.phase }, { on := 14, ground := Ground.phase }, { on := 15, ground := Ground.phase }], guard := none }) rfl (fun K hK => ?_) ?_
              · go_simp
                refine hK.out _ _ ?_ (fun hHeld => ?_)
                · exact below_four hOld hgs (.int .i64 S.ep) (.int .i64 S.ix) (.bool S.fr) (.string t3)
                clear hK K
                (try simp only [Act.put, List.setIfInBounds_toArray, List.set_cons_zero, List.set_cons_succ])
                have HPB := Bx.set4 HY (.int .i64 S.ep) (.int .i64 S.ix) (.bool S.fr) (.string t3)
                have HRB := Bx.other4 (HXX.out.held hOld) hgn (.int .i64 S.ep) (.int .i64 S.ix) (.bool S.fr) (.string t3)
                have HBW := below_four (B := w.heap.size) (b := X.heap.size) (HBX.out.trans (Below.mono hOld (Below.size HBX.out))) (Nat.le_trans (Below.size HBX.out) hgs) (.int .i64 S.ep) (.int .i64 S.ix) (.bool S.fr) (.string t3)
                have HGN := hgn.symm
                clear hHeld hOld z0 z1 z2 z3 g0 g1 g2 g3 HY hgn hgs
                refine wpAnyH_done (by kernel_rfl) ?_ _
                refine NoPanic.normal ?_
                have HF := Lib.hid (And.intro HPB (And.intro HRB (And.intro HBW HGN)))
                clear HPB HRB HBW HGN
                generalize (((u3.setCell ⟨X.heap.size, 0, none⟩ (.int .i64 S.ep)).setCell ⟨X.heap.size, 1, none⟩ (.int .i64 S.ix)).setCell ⟨X.heap.size, 2, none⟩ (.bool S.fr)).setCell ⟨X.heap.size, 3, none⟩ (.string t3) = V at *
                generalize X.heap.size = g at *
                go_wp2_with fail
                go_meet
                exact ⟨g, rfl, HF.out⟩
              exact AllReadyH.nil
            exact AllReadyH.nil
          exact AllReadyH.nil
        exact AllReadyH.nil
      exact AllReadyH.nil
    case rest =>
      obtain ⟨g, rfl, hq⟩ := hcut
      have HS1 := Lib.hid hq.out.1
      have HX1 := Lib.hid hq.out.2.1
      have HB1 := Lib.hid hq.out.2.2.1
      have HGN := hq.out.2.2.2
      clear hq
      obtain ⟨q0, q1, q2, q3⟩ := Sb.cells (HS.out _ _ HS1.out)
      rw [← HT3.out] at q3
      go_wp2_with fail
      refine (PU.out _).mono ?_; rintro e w3 ⟨rfl, hb3⟩
      have HS3 := Lib.hid (HS1.out.held hb3)
      have HX3 := Lib.hid (HX1.out.held hb3)
      have HB3 := Lib.hid (HB1.out.trans (hb3.mono (Below.size HB1.out)))
      clear hb3 HS1 HX1 HB1 q0 q1 q2 q3
      obtain ⟨q0, q1, q2, q3⟩ := Sb.cells (HS.out _ _ HS3.out)
      rw [← HT3.out] at q3
      have x0 := HX3.out.cell 0
      have x1 := HX3.out.cell 1
      have x2 := HX3.out.cell 2
      have x3 := HX3.out.cell 3
      have f0 := HX3.out.free 0
      have f1 := HX3.out.free 1
      have f2 := HX3.out.free 2
      have f3 := HX3.out.free 3
      simp only [List.getElem?_toArray, List.getElem?_cons_zero, List.getElem?_cons_succ] at x0 x1 x2 x3
      clear HS
      cases hok : okX S with
      | false =>
        rw [hok] at HOK PU
        have hno : getOkX b = false := by rw [HOK.out]; rfl
        clear hok
        go_wp2_with fail
        refine bodyPost_ret (v := .tuple #[.agg #[.int .i64 0, .int .i64 0, .bool false, .string ⟨#[]⟩], .bool false]) (by simp [results, Tryz.results92, go_sem, x0, x1, x2, x3]) rfl (HNO.out _ hno ?_)
        exact below_four HB3.out (Nat.le_refl _) _ _ _ _
      | true =>
        rw [hok] at HOK
        by_cases he : putX S = b
        · have hyes : getOkX b = true := by rw [HOK.out, decide_eq_true he]; rfl
          have hse : ((str (putX S)).toList == B.toList) = true := by rw [he, HBB.out, beq_iff_eq]
          generalize str (putX S) = sb at *
          clear he hok
          go_wp2_with fail
          refine bodyPost_ret (v := .tuple #[.agg #[.int .i64 S.ep, .int .i64 S.ix, .bool S.fr, .string t3], .bool true]) (by simp [results, Tryz.results92, go_sem, x0, x1, x2, x3]) rfl (by have HY := HYE.out; unfold sv at HY; rw [← HT3.out] at HY; exact HY _ hyes (below_four HB3.out (Nat.le_refl _) _ _ _ _))
        · have hno : getOkX b = false := by rw [HOK.out, decide_eq_false he]; rfl
          have hse : ((str (putX S)).toList == B.toList) = false := by
            rw [HBB.out, beq_eq_false_iff_ne]
            intro e
            rw [Lib.toList_data, Lib.toList_data] at e
            exact he e
          generalize str (putX S) = sb at *
          clear he hok
          go_wp2_with fail
          refine bodyPost_ret (v := .tuple #[.agg #[.int .i64 0, .int .i64 0, .bool false, .string ⟨#[]⟩], .bool false]) (by simp [results, Tryz.results92, go_sem, x0, x1, x2, x3]) rfl (HNO.out _ hno ?_)
          exact below_four HB3.out (Nat.le_refl _) _ _ _ _
  · have h' : ((b.length : Int) == 64) = false := by rw [beq_eq_false_iff_ne]; omega
    have HN := Lib.hid (fun w' (hb : Below w.heap.size w w') => GetP.no (get_len hl) hb)
    have HX := Lib.hid (Bx.new w #[.int .i64 0, .int .i64 0, .bool false, .string ⟨#[]⟩] 125)
    have hz : ((str b).size : Int) = (b.length : Int) := by rw [str_size]
    generalize str b = s at *
    go_enter Tryz.func92, Tryz.ntmps92
    go_wp2_with fail
    refine bodyPost_ret (v := .tuple #[.agg #[.int .i64 0, .int .i64 0, .bool false, .string ⟨#[]⟩], .bool false]) (by simp [results, Tryz.results92, go_sem]) rfl (HN.out _ ?_)
    exact (Below.refl _ _).alloc (Nat.le_refl _) _
end Go.Proofs.YtnjggoeahaglbaaGreat.Fr

/- Lists of texts: are two alike; Count, Few, stream. -/
namespace Go.Proofs.YtnjggoeahaglbaaGreat.Fr
open Go.ChangeShapes Go.WideShapes Go.ChangeAt Go.RowKit
set_option linter.unusedVariables false
set_option linter.unusedSimpArgs false
set_option maxRecDepth 100000
theorem toL_inj {a b : ByteArray} (h : a.toList = b.toList) : a = b := by
  rw [Lib.toList_data, Lib.toList_data] at h
  apply ByteArray.ext
  exact Array.toList_inj.1 h
theorem getD_ext {l r : List BA} (h : l.length = r.length) (hh : ∀ j, j < l.length → l.getD j [] = r.getD j []) : l = r := by
  refine List.ext_getElem h fun i h1 h2 => ?_
  have := hh i h1
  rwa [getD_at h1, getD_at h2] at this
/-! How many bytes. -/
theorem strm_take {l : List BA} {k : Nat} (h : k < l.length) : (strmB (l.take (k + 1))).length = (strmB (l.take k)).length + (2 + (l.getD k []).length) := by
  rw [take_snoc l k [] h, strmB_append, List.length_append]
  simp [strmB, recX_length]
theorem strm_le {l : List BA} (h : ∀ x ∈ l, x.length ≤ 65535) : ∀ k, k ≤ l.length → (strmB (l.take k)).length ≤ k * 65537
  | 0, _ => by simp [strmB]
  | k + 1, hk => by
    have := strm_le h k (by omega)
    have := h _ (getD_mem' [] (show k < l.length by omega))
    rw [strm_take (by omega)]
    omega
theorem cnt_ok {l : List BA} (h : ∀ x ∈ l, 1 ≤ x.length ∧ x.length ≤ 65535) : (cntB l : Int) = ((strmB l).length + 55) / 56 := by
  unfold cntB
  by_cases h0 : l = []
  · subst h0; rfl
  · rw [if_pos (strmOk_iff.2 ⟨h0, h⟩)]; omega
theorem cnt_bad {l : List BA} {k : Nat} (h : k < l.length) (hk : ¬ (1 ≤ (l.getD k []).length ∧ (l.getD k []).length ≤ 65535)) : cntB l = 0 := by
  unfold cntB
  rw [if_neg fun hh => hk ((strmOk_iff.1 hh).2 _ (getD_mem' [] h))]
set_option maxHeartbeats 2000000 in
theorem count_any {C n c : Nat} {A : Option Addr} {l : List BA} (w : World) (h : Txt C w A n l) (hn : n ≤ 1000000) :
    Calls Tryz.prog 49 #[.slice A n c] w fun e w' => e = .returned (.int .i64 (cntB l : Nat)) ∧ ∃ q, w' = w.drewN q := by
  have H1 := Lib.hid h
  have HN := Lib.hid h.1
  clear h
  go_enter Tryz.func49, Tryz.ntmps49
  go_wp2_with fail
  go_loopw [3, 8] (fun s x wr => ∃ k : Nat, k ≤ n ∧ x = .int .i64 k ∧ s = .int .i64 ((strmB (l.take k)).length : Nat) ∧ (∃ q, wr = w.drewN q) ∧ Hid (∀ j, j < k → 1 ≤ (l.getD j []).length ∧ (l.getD j []).length ≤ 65535)) (fun _ x _ => n - (intOf x).toNat)
  case atStart => exact ⟨0, Nat.zero_le _, rfl, rfl, ⟨0, rfl⟩, fun j hj => absurd hj (Nat.not_lt_zero _)⟩
  case round =>
    obtain ⟨k, hk, rfl, rfl, ⟨q, rfl⟩, hq⟩ := hrel
    have HQ := Lib.hid hq.out
    clear hq
    have b0 : (0 : Int) ≤ (k : Int) := by omega
    have hS : (strmB (l.take k)).length ≤ k * 65537 := by
      have hlen : (l.take k).length = k := by rw [List.length_take, HN.out]; omega
      have := strm_le (l := l.take k) (fun x hx => by
        obtain ⟨j, hj, rfl⟩ := List.getElem_of_mem hx
        rw [hlen] at hj
        have := (HQ.out j hj).2
        rw [getD_at (by rw [HN.out]; omega)] at this
        rw [List.getElem_take]; exact this) k (by omega)
      rwa [List.take_take, Nat.min_self] at this
    by_cases hlt : k < n
    · obtain ⟨b, off, rfl, _, c0, hmx⟩ := H1.out.2.2 k hlt
      have b1 : (k : Int) < (n : Int) := by omega
      have HT := Lib.hid (strm_take (l := l) (k := k) (by rw [HN.out]; exact hlt))
      have HBAD := Lib.hid (fun hh => cnt_bad (l := l) (k := k) (by rw [HN.out]; exact hlt) hh)
      have HGO := Lib.hid (fun hh : 1 ≤ (l.getD k []).length ∧ (l.getD k []).length ≤ 65535 => show ∀ j, j < k + 1 → 1 ≤ (l.getD j []).length ∧ (l.getD j []).length ≤ 65535 from fun j hj => by
        by_cases e : j < k
        · exact HQ.out j e
        · obtain rfl : j = k := by omega
          exact hh)
      have hz : (str (l.getD k [])).size = (l.getD k []).length := rfl
      have he : (str (l.getD k [])).toList = l.getD k [] := by rw [Lib.toList_data, str_toList]
      generalize (strmB (l.take k)).length = T0 at *
      generalize str (l.getD k []) = x at *
      generalize l.getD k [] = z0 at *
      have hzz := congrArg List.length he
      generalize hzl : z0.length = z at *
      subst hz
      unfold maxLen at hmx
      by_cases h0 : x.size = 0
      · have HB0 := Lib.hid (HBAD.out (by omega))
        have hi : x.toList = [] := List.eq_nil_of_length_eq_zero (by omega)
        have hi2 : x.toList.isEmpty = true := by rw [hi]; rfl
        clear HBAD HGO HQ HT he hzz hzl
        go_wp2_with fail
        go_ret
        exact ⟨by rw [HB0.out]; rfl, q, rfl⟩
      · have hi : ¬ x.toList = [] := fun e => by rw [e] at hzz; simp at hzz; omega
        have hi2 : x.toList.isEmpty = false := by cases h : x.toList <;> simp_all
        clear he hzz hzl
        by_cases h1 : x.size ≤ 65535
        · have HG := Lib.hid (HGO.out ⟨by omega, h1⟩)
          have h1' : ¬ (65535 : Int) < (x.size : Int) := by omega
          have e1 : IntKind.i64.wrap (2 + (x.size : Int)) = 2 + (x.size : Int) := IntWalk.i64_in _ (by omega)
          have e2 : IntKind.i64.wrap ((T0 : Int) + (2 + (x.size : Int))) = (T0 : Int) + (2 + (x.size : Int)) := IntWalk.i64_in _ (by omega)
          clear HBAD HGO HQ
          go_wp2_with fail
          go_roundw
          case rel => exact ⟨k + 1, by omega, by go_num, by rw [HT.out]; exact congrArg (Value.int .i64) (by omega), ⟨_, rfl⟩, HG.out⟩
          case measure => simp [intOf] <;> omega
        · have HB0 := Lib.hid (HBAD.out (by omega))
          have h1' : (65535 : Int) < (x.size : Int) := by omega
          clear HBAD HGO HQ HT
          go_wp2_with fail
          go_ret
          exact ⟨by rw [HB0.out]; rfl, q, rfl⟩
    · obtain rfl : k = n := by omega
      have b1 : ¬ (k : Int) < (k : Int) := by omega
      have HG := Lib.hid (cnt_ok (l := l) (fun x hx => by
        obtain ⟨j, hj, rfl⟩ := List.getElem_of_mem hx
        have := HQ.out j (by rw [← HN.out]; exact hj)
        rwa [getD_at hj] at this))
      have hT : strmB (l.take k) = strmB l := by rw [List.take_of_length_le (by rw [HN.out]; exact Nat.le_refl _)]
      rw [hT] at hS ⊢
      clear hT
      generalize (strmB l).length = T at *
      have e1 : IntKind.i64.wrap ((T : Int) + 56) = (T : Int) + 56 := IntWalk.i64_in _ (by omega)
      have e2 : IntKind.i64.wrap ((T : Int) + 56 - 1) = (T : Int) + 56 - 1 := IntWalk.i64_in _ (by omega)
      have e3 : IntKind.i64.wrap (((T : Int) + 56 - 1).tdiv 56) = ((T : Int) + 55) / 56 := by
        rw [Int.tdiv_eq_ediv_of_nonneg (by omega), IntWalk.i64_in _ (by omega)]; omega
      go_wp2_with fail
      go_ret
      exact ⟨by rw [HG.out]; rfl, q, rfl⟩
/-! Few. -/
def totL (l : List BA) : Nat := (l.map List.length).sum
theorem tot_take {l : List BA} {k : Nat} (h : k < l.length) : totL (l.take (k + 1)) = totL (l.take k) + (l.getD k []).length := by
  unfold totL
  rw [take_snoc l k [] h, List.map_append, List.sum_append]
  simp
theorem tot_le {l : List BA} {M : Nat} (h : ∀ x ∈ l, x.length ≤ M) : totL l ≤ l.length * M := by
  induction l with
  | nil => simp [totL]
  | cons x l ih =>
    have h1 := ih fun y hy => h y (List.mem_cons_of_mem _ hy)
    have h2 := h x (List.mem_cons_self ..)
    simp only [totL, List.map_cons, List.sum_cons, List.length_cons] at h1 ⊢
    rw [Nat.add_mul, Nat.one_mul]
    omega
def fewB (l : List BA) : Bool := decide (l.length ≤ 20) && decide (totL l ≤ 1500)
def w64 (x : Int) : Int := (x + 9223372036854775808) % 18446744073709551616 - 9223372036854775808
theorem w64_add (a b : Int) : w64 (w64 a + b) = w64 (a + b) := by unfold w64; omega
theorem w64_is (x : Int) : IntKind.i64.wrap x = w64 x := by rw [IntKind.wrap_i64]; rfl
/-! stream. -/
theorem bytes_two (n : Nat) (hn : n ≤ 65535) : bcs (w2 (n : Int)) = [.int .u8 ((n : Int) / 256), .int .u8 ((n : Int) % 256)] := by
  have h1 := byte_toNat ((n : Int) / 256) (by omega)
  have h2 := byte_toNat (n : Int) (by omega)
  simp only [w2, bcs, List.map_cons, List.map_nil, h1, h2]
  congr 2
  omega
set_option maxHeartbeats 4000000 in
theorem stream_any {C n c : Nat} {A : Option Addr} {l : List BA} (w : World) (h : Txt C w A n l) (hC : C ≤ w.heap.size) (hn : n ≤ 1000000) (hl : ∀ x ∈ l, x.length ≤ 65535) (hm : (strmB l).length ≤ 1000000) :
    Calls Tryz.prog 83 #[.slice A n c] w fun e w' => ∃ v, e = .returned v ∧ w'.ownsRow w.heap.size 5 1 v (strmB l).length (bcs (strmB l)) ∧ Below w.heap.size w w' := by
  have H1 := Lib.hid h
  have HN := Lib.hid h.1
  have HL := Lib.hid hl
  have HM := Lib.hid hm
  clear h hl hm
  obtain ⟨i0, hi0, hz0, hz1, hz2⟩ := info_parts info_b
  go_enter Tryz.func83, Tryz.ntmps83
  go_wp2_with fail
  go_loopw [3, 9] (fun v x wr => ∃ k : Nat, k ≤ n ∧ x = .int .i64 k ∧ Hid (wr.ownsRow w.heap.size 5 1 v (strmB (l.take k)).length (bcs (strmB (l.take k))) ∧ Below w.heap.size w wr)) (fun _ x _ => n - (intOf x).toNat)
  case atStart => exact ⟨0, Nat.zero_le _, rfl, World.ownsRow_nil _ _ _ _, Below.refl _ _⟩
  case round =>
    obtain ⟨k, hk, rfl, hq⟩ := hrel
    have HO := Lib.hid hq.out.1
    have HB := Lib.hid hq.out.2
    clear hq
    have b0 : (0 : Int) ≤ (k : Int) := by omega
    by_cases hlt : k < n
    · obtain ⟨b, off, rfl, hbC, c00, _⟩ := H1.out.2.2 k hlt
      have c0 : wr.cell? ⟨b, off + k, none⟩ = _ := cell_kept HB.out (Nat.lt_of_lt_of_le hbC hC) c00
      clear c00
      have b1 : (k : Int) < (n : Int) := by omega
      have hz : (l.getD k []).length ≤ 65535 := HL.out _ (getD_mem' [] (by rw [HN.out]; exact hlt))
      have HT := Lib.hid (strm_take (l := l) (k := k) (by rw [HN.out]; exact hlt))
      have HS := Lib.hid (show strmB (l.take (k + 1)) = strmB (l.take k) ++ w2 ((l.getD k []).length : Int) ++ l.getD k [] by
        rw [take_snoc l k [] (by rw [HN.out]; exact hlt), strmB_append, List.append_assoc]
        simp [strmB, recX])
      have hle : (strmB (l.take (k + 1))).length ≤ 1000000 := by
        have : strmB l = strmB (l.take (k + 1)) ++ strmB (l.drop (k + 1)) := by rw [← strmB_append, List.take_append_drop]
        have h2 := HM.out
        rw [this, List.length_append] at h2
        omega
      rw [HT.out] at hle
      have HW := Lib.hid (bytes_two (l.getD k []).length hz)
      have hsz : (str (l.getD k [])).size = (l.getD k []).length := rfl
      have HSC := Lib.hid (show Lib.strCells (str (l.getD k [])) = bcs (l.getD k []) from rfl)
      obtain ⟨Av, cv, rfl⟩ := own_shape HO.out
      have hown := HO.out
      generalize strmB (l.take k) = T at *
      generalize l.getD k [] = X at *
      generalize hs : str X = s at *
      go_wp2_with (at_builtin; refine wpList_append_own _ rfl (.tmp 15) (.tmp 21) 70 rfl w.heap.size 5 i0 (.int .u8 0) 1 1 Tryz.underlying70 hi0 hz0 hz1 hz2 rfl (by decide) _ _ _ rfl (hown.alloc _) ⟨wr.heap.size, 0, none⟩ 2 2 (bcs (w2 (X.length : Int))) rfl rfl ?c1 ?c2 ?c3 ?c4 ?c5 ?_)
      case c1 =>
        rw [HW.out]
        intro j u hu
        rw [add_plain, cell_of_row _ _ _ _ _ _ (heap_alloc_new wr _), Nat.zero_add]
        simpa using hu
      case c2 =>
        rw [HW.out]
        intro u hu
        simp only [List.mem_cons, List.not_mem_nil, or_false] at hu
        rcases hu with rfl | rfl <;> rfl
      case c3 => unfold maxLen; omega
      case c4 => omega
      case c5 => rw [World.size_alloc]; have := HB.out.size; omega
      intro v1 w1 hown1 hgrow1 _
      have HB1 := Lib.hid ((HB.out.alloc HB.out.size _).grown hgrow1 (by rw [World.size_alloc]; have := HB.out.size; omega) (fun g hg => (HO.out.lt g hg).1))
      have hc1 := HB1.out.size
      obtain ⟨A1, c1, rfl⟩ := own_shape hown1
      clear hgrow1 HO HB hown
      go_wp2_with (at_builtin; refine Lib.wpList_append_own_string _ rfl (.tmp 23) (.tmp 24) 70 9 rfl w.heap.size 5 i0 Tryz.underlying70 Tryz.underlying9 hi0 hz0 hz1 hz2 _ _ _ rfl hown1 s rfl ?c6 ?c7 hc1 ?_)
      case c6 => rw [hsz]; unfold maxLen; omega
      case c7 => rw [hsz]; omega
      intro v2 w2 hown2 hgrow2 _
      have HB2 := Lib.hid (HB1.out.grown hgrow2 HB1.out.size (fun g hg => (hown1.lt g hg).1))
      obtain ⟨A2, c2, rfl⟩ := own_shape hown2
      have HF := Lib.hid (show w2.ownsRow w.heap.size 5 1 (.slice A2 (T.length + 2 + X.length) c2) (strmB (l.take (k + 1))).length (bcs (strmB (l.take (k + 1)))) from by
        rw [HT.out, HS.out, bcs_append, bcs_append, ← HSC.out, show T.length + (2 + X.length) = T.length + 2 + X.length by omega, List.append_assoc]
        exact hown2)
      clear hown1 hgrow2 hown2 HB1 hc1
      go_wp2_with fail
      go_roundw
      case rel => exact ⟨k + 1, by omega, by go_num, HF.out, HB2.out⟩
      case measure => simp [intOf] <;> omega
    · obtain rfl : k = n := by omega
      have b1 : ¬ (k : Int) < (k : Int) := by omega
      have hT : strmB (l.take k) = strmB l := by rw [List.take_of_length_le (by rw [HN.out]; exact Nat.le_refl _)]
      have HX := HO.out
      rw [hT] at HX
      have HXX := Lib.hid HX
      clear HX hT
      go_wp2_with fail
      go_ret
      exact ⟨_, rfl, HXX.out, HB.out⟩
end Go.Proofs.YtnjggoeahaglbaaGreat.Fr

/- The reader as a machine that takes byte by byte: it reads what the plain reading reads. -/
namespace Go.Proofs.YtnjggoeahaglbaaGreat.Fr
set_option linter.unusedVariables false
structure Rd where
  next : Int
  ep : Int
  out : List BA
  mode : Nat
  size : Int
  rc : BA
def rd0 : Rd := ⟨0, 0, [], 4, 0, []⟩
def hiR (r : Rd) (b : UInt8) : Rd := { r with mode := 1, size := (b.toNat : Int) * 256 }
def loR (r : Rd) (b : UInt8) : Rd := { r with mode := if r.size + b.toNat = 0 then 3 else 2, size := r.size + b.toNat, rc := [] }
def boR (x : Sx) (r : Rd) (b : UInt8) : Rd := if (r.rc.length : Int) + 1 < r.size then { r with rc := r.rc ++ [b] } else ⟨x.ix + 1, x.ep, r.out ++ [r.rc ++ [b]], 0, r.size, r.rc ++ [b]⟩
def stepR (x : Sx) (r : Rd) (b : UInt8) : Rd := if r.mode = 0 then hiR r b else if r.mode = 1 then loR r b else if r.mode = 2 then boR x r b else r
def foldR (x : Sx) (r : Rd) (p : BA) : Rd := p.foldl (stepR x) r
theorem num_two (h l : UInt8) : num [h, l] = h.toNat * 256 + l.toNat := by simp [num]
/-- What the machine is, by what is left unread. -/
def Rel (out : List BA) (op : BA) (dead : Bool) (r : Rd) : Prop := r.out = out ∧
  ((r.mode = 0 ∧ op = [] ∧ dead = false) ∨ (r.mode = 1 ∧ dead = false ∧ ∃ h : UInt8, op = [h] ∧ r.size = (h.toNat : Int) * 256) ∨
   (r.mode = 2 ∧ dead = false ∧ ∃ h l : UInt8, op = h :: l :: r.rc ∧ r.size = ((h.toNat * 256 + l.toNat : Nat) : Int) ∧ r.rc.length < h.toNat * 256 + l.toNat) ∨ (r.mode = 3 ∧ dead = true))
theorem not_can1 (b : UInt8) : ¬ canX [b] := by unfold canX; simp
theorem not_can0 : ¬ canX [] := by unfold canX; simp
theorem Rel.stop {out : List BA} {op : BA} {dead : Bool} {r : Rd} (h : Rel out op dead r) : drX out op dead = (out, op, dead) := by
  refine drX_stop ?_
  rintro ⟨h1, h2⟩
  rcases h.2 with ⟨_, rfl, _⟩ | ⟨_, _, b, rfl, _⟩ | ⟨_, _, b, l, rfl, _, h3⟩ | ⟨_, hd⟩
  · exact not_can0 h2
  · exact not_can1 b h2
  · have := h2.2
    rw [show (b :: l :: r.rc).take 2 = [b, l] from rfl, num_two] at this
    simp only [List.length_cons] at this
    omega
  · rw [hd] at h1; cases h1
/-- One byte. -/
theorem Rel.step {out : List BA} {op : BA} {dead : Bool} {r : Rd} (x : Sx) (b : UInt8) (h : Rel out op dead r) :
    Rel (drX out (op ++ [b]) dead).1 (drX out (op ++ [b]) dead).2.1 (drX out (op ++ [b]) dead).2.2 (stepR x r b) ∧
    (((drX out (op ++ [b]) dead).1 = out ∧ (stepR x r b).next = r.next ∧ (stepR x r b).ep = r.ep) ∨
     ((∃ y, (drX out (op ++ [b]) dead).1 = out ++ [y]) ∧ (stepR x r b).next = x.ix + 1 ∧ (stepR x r b).ep = x.ep)) := by
  obtain ⟨ho, h⟩ := h
  rcases h with ⟨hm, rfl, rfl⟩ | ⟨hm, rfl, a, rfl, hs⟩ | ⟨hm, rfl, a, l, rfl, hs, hl⟩ | ⟨hm, rfl⟩
  · have e : stepR x r b = hiR r b := by unfold stepR; rw [if_pos hm]
    rw [e, List.nil_append, drX_stop (fun h => not_can1 b h.2)]
    exact ⟨⟨ho, .inr (.inl ⟨rfl, rfl, b, rfl, rfl⟩)⟩, .inl ⟨rfl, rfl, rfl⟩⟩
  · have e : stepR x r b = loR r b := by unfold stepR; rw [if_neg (by omega), if_pos hm]
    rw [e]
    show Rel (drX out [a, b] false).1 _ _ _ ∧ _
    by_cases h0 : a.toNat * 256 + b.toNat = 0
    · have hc : canX [a, b] := by unfold canX; rw [show ([a, b] : BA).take 2 = [a, b] from rfl, num_two]; simp; omega
      have hd : drX out [a, b] false = (out, [a, b], true) := drX_dead hc (by rw [show ([a, b] : BA).take 2 = [a, b] from rfl, num_two]; exact h0)
      have hz : r.size + (b.toNat : Int) = 0 := by rw [hs]; omega
      rw [show ([a] : BA) ++ [b] = [a, b] from rfl, hd]
      refine ⟨⟨ho, .inr (.inr (.inr ⟨?_, rfl⟩))⟩, .inl ⟨rfl, rfl, rfl⟩⟩
      show (if r.size + (b.toNat : Int) = 0 then 3 else 2) = 3
      rw [if_pos hz]
    · have hc : ¬ canX [a, b] := by
        intro h
        have := h.2
        rw [show ([a, b] : BA).take 2 = [a, b] from rfl, num_two] at this
        simp at this
        omega
      have hz : ¬ r.size + (b.toNat : Int) = 0 := by rw [hs]; omega
      rw [show ([a] : BA) ++ [b] = [a, b] from rfl, drX_stop (fun h => hc h.2)]
      refine ⟨⟨ho, .inr (.inr (.inl ⟨?_, rfl, a, b, rfl, ?_, ?_⟩))⟩, .inl ⟨rfl, rfl, rfl⟩⟩
      · show (if r.size + (b.toNat : Int) = 0 then 3 else 2) = 2
        rw [if_neg hz]
      · show r.size + (b.toNat : Int) = _
        rw [hs]; omega
      · show 0 < _
        omega
  · have e : stepR x r b = boR x r b := by unfold stepR; rw [if_neg (by omega), if_neg (by omega), if_pos hm]
    rw [e]
    unfold boR
    rw [show (a :: l :: r.rc) ++ [b] = a :: l :: (r.rc ++ [b]) from rfl]
    by_cases hlt : (r.rc.length : Int) + 1 < r.size
    · rw [if_pos hlt]
      have hc : ¬ canX (a :: l :: (r.rc ++ [b])) := by
        intro h
        have := h.2
        rw [show (a :: l :: (r.rc ++ [b])).take 2 = [a, l] from rfl, num_two] at this
        simp only [List.length_cons, List.length_append, List.length_nil] at this
        omega
      rw [drX_stop (fun h => hc h.2)]
      refine ⟨⟨ho, .inr (.inr (.inl ⟨hm, rfl, a, l, rfl, hs, ?_⟩))⟩, .inl ⟨rfl, rfl, rfl⟩⟩
      show (r.rc ++ [b]).length < _
      rw [List.length_append, List.length_cons, List.length_nil]
      omega
    · rw [if_neg hlt]
      have hn : num ((a :: l :: (r.rc ++ [b])).take 2) = r.rc.length + 1 := by
        rw [show (a :: l :: (r.rc ++ [b])).take 2 = [a, l] from rfl, num_two]; omega
      have hc : canX (a :: l :: (r.rc ++ [b])) := by
        refine ⟨by simp, ?_⟩
        rw [hn]; simp only [List.length_cons, List.length_append, List.length_nil]; omega
      rw [drX_step hc (by rw [hn]; omega), hn]
      have e1 : ((a :: l :: (r.rc ++ [b])).drop 2).take (r.rc.length + 1) = r.rc ++ [b] := List.take_of_length_le (by simp)
      have e2 : (a :: l :: (r.rc ++ [b])).drop (2 + (r.rc.length + 1)) = [] := List.drop_eq_nil_of_le (by simp; omega)
      rw [e1, e2, drX_stop (fun h => not_can0 h.2)]
      exact ⟨⟨by show r.out ++ _ = _; rw [ho], .inl ⟨rfl, rfl, rfl⟩⟩, .inr ⟨⟨_, rfl⟩, rfl, rfl⟩⟩
  · have e : stepR x r b = r := by unfold stepR; rw [if_neg (by omega), if_neg (by omega), if_neg (by omega)]
    rw [e, drX_stop (fun h => by cases h.1)]
    exact ⟨⟨ho, .inr (.inr (.inr ⟨hm, rfl⟩))⟩, .inl ⟨rfl, rfl, rfl⟩⟩
/-- What comes in two parts. -/
theorem dr_app : ∀ (f : Nat) (out : List BA) (u v : BA) (d : Bool), u.length < f → drX out (u ++ v) d = drX (drX out u d).1 ((drX out u d).2.1 ++ v) (drX out u d).2.2
  | 0, _, _, _, _, h => absurd h (Nat.not_lt_zero _)
  | f + 1, out, u, v, true, h => by
    rw [drX_stop (op := u) (fun h => by cases h.1)]
  | f + 1, out, u, v, false, h => by
    by_cases hc : canX u
    · have ht : (u ++ v).take 2 = u.take 2 := List.take_append_of_le_length hc.1
      have hcv : canX (u ++ v) := by
        refine ⟨by have := hc.1; rw [List.length_append]; omega, ?_⟩
        rw [ht, List.length_append]
        have := hc.2
        omega
      by_cases h0 : num (u.take 2) = 0
      · rw [drX_dead hc h0, drX_dead hcv (by rw [ht]; exact h0)]
        rw [drX_stop (fun h => by cases h.1)]
      · rw [drX_step hc h0, drX_step hcv (by rw [ht]; exact h0), ht]
        have h1 := hc.1
        have h2 := hc.2
        have e1 : ((u ++ v).drop 2).take (num (u.take 2)) = (u.drop 2).take (num (u.take 2)) := by
          rw [List.drop_append_of_le_length h1, List.take_append_of_le_length (by rw [List.length_drop]; omega)]
        have e2 : (u ++ v).drop (2 + num (u.take 2)) = u.drop (2 + num (u.take 2)) ++ v := List.drop_append_of_le_length h2
        rw [e1, e2]
        exact dr_app f _ _ v false (by rw [List.length_drop]; omega)
    · rw [drX_stop (op := u) (fun h => hc h.2)]
theorem dr_adds (out : List BA) (op : BA) (d : Bool) : ∃ m, (drX out op d).1 = out ++ m := drain_adds _ _ _ _
/-- All bytes of a sector. -/
theorem Rel.fold (x : Sx) : ∀ (p : BA) {out : List BA} {op : BA} {dead : Bool} {r : Rd}, Rel out op dead r →
    Rel (drX out (op ++ p) dead).1 (drX out (op ++ p) dead).2.1 (drX out (op ++ p) dead).2.2 (foldR x r p) ∧
    (foldR x r p).next = (if (drX out (op ++ p) dead).1 = out then r.next else x.ix + 1) ∧ (foldR x r p).ep = (if (drX out (op ++ p) dead).1 = out then r.ep else x.ep)
  | [], out, op, dead, r, h => by
    rw [List.append_nil, h.stop]
    show Rel out op dead r ∧ r.next = _ ∧ r.ep = _
    rw [if_pos rfl, if_pos rfl]
    exact ⟨h, rfl, rfl⟩
  | b :: p, out, op, dead, r, h => by
    obtain ⟨h1, h2⟩ := h.step x b
    have e : drX out (op ++ b :: p) dead = drX (drX out (op ++ [b]) dead).1 ((drX out (op ++ [b]) dead).2.1 ++ p) (drX out (op ++ [b]) dead).2.2 := by
      rw [show op ++ b :: p = (op ++ [b]) ++ p by simp]
      exact dr_app ((op ++ [b]).length + 1) _ _ _ _ (Nat.lt_succ_self _)
    rw [e]
    show Rel _ _ _ (foldR x (stepR x r b) p) ∧ (foldR x (stepR x r b) p).next = _ ∧ (foldR x (stepR x r b) p).ep = _
    obtain ⟨i1, i2, i3⟩ := Rel.fold x p h1
    generalize drX out (op ++ [b]) dead = d1 at *
    obtain ⟨m, hm⟩ := dr_adds d1.1 (d1.2.1 ++ p) d1.2.2
    generalize drX d1.1 (d1.2.1 ++ p) d1.2.2 = d2 at *
    refine ⟨i1, ?_⟩
    rcases h2 with ⟨q1, q2, q3⟩ | ⟨⟨y, q1⟩, q2, q3⟩
    · rw [q1] at i2 i3
      rw [i2, i3, q2, q3]
      exact ⟨rfl, rfl⟩
    · have hne : d2.1 ≠ out := by
        intro e
        rw [hm, q1] at e
        have := congrArg List.length e
        simp at this
      rw [if_neg hne, if_neg hne, i2, i3, q2, q3]
      exact ⟨by split <;> rfl, by split <;> rfl⟩
def startR (x : Sx) (r : Rd) : Rd := if x.fr then { r with mode := 0 } else r
/-- The machine and the plain reading between two sectors. -/
def RelS (s : Sc) (r : Rd) : Prop := r.next = (s.next : Int) ∧ r.ep = s.ep ∧ ((s = sc0 ∧ r = rd0) ∨ Rel s.out s.op s.dead r)
theorem RelS.zero : RelS sc0 rd0 := ⟨rfl, rfl, .inl ⟨rfl, rfl⟩⟩
theorem RelS.feed {s : Sc} {r : Rd} {i : Nat} {x : Sx} (h : RelS s r) (hx : x.ix = i) (hf : x.fr = true ∨ s ≠ sc0) : RelS (feedX i s x) (foldR x (startR x r) x.pl) := by
  obtain ⟨h1, h2, h3⟩ := h
  have hrel : Rel s.out (if x.fr then [] else s.op) (if x.fr then false else s.dead) (startR x r) := by
    cases hfr : x.fr with
    | true =>
      simp only [if_true, startR, hfr]
      refine ⟨?_, .inl ⟨rfl, rfl, rfl⟩⟩
      rcases h3 with ⟨rfl, rfl⟩ | h3
      · rfl
      · exact h3.1
    | false =>
      simp only [Bool.false_eq_true, if_false, startR, hfr]
      rcases h3 with ⟨rfl, _⟩ | h3
      · rcases hf with hf | hf
        · rw [hfr] at hf; cases hf
        · exact absurd rfl hf
      · exact h3
  have hn : (startR x r).next = s.next := by unfold startR; split <;> exact h1
  have he : (startR x r).ep = s.ep := by unfold startR; split <;> exact h2
  obtain ⟨q1, q2, q3⟩ := hrel.fold x x.pl
  refine ⟨?_, ?_, .inr q1⟩
  · rw [q2, hn, hx]
    show _ = ((if (drX s.out ((if x.fr then [] else s.op) ++ x.pl) (if x.fr then false else s.dead)).1 = s.out then s.next else i + 1 : Nat) : Int)
    generalize (drX s.out ((if x.fr then [] else s.op) ++ x.pl) (if x.fr then false else s.dead)).1 = D
    by_cases h : D = s.out
    · rw [if_pos h, if_pos h]
    · rw [if_neg h, if_neg h]; rfl
  · rw [q3, he]
    rfl
/-- How many records there may be. -/
theorem out_step (x : Sx) (r : Rd) (b : UInt8) : (stepR x r b).out.length ≤ r.out.length + 1 := by
  unfold stepR hiR loR boR
  split
  · simp
  · split
    · simp
    · split
      · split
        · simp
        · simp
      · exact Nat.le_succ _
end Go.Proofs.YtnjggoeahaglbaaGreat.Fr

/- The reader in memory; the contracts of its methods. -/
namespace Go.Proofs.YtnjggoeahaglbaaGreat.Fr
open Go.ChangeShapes Go.WideShapes Go.ChangeAt Go.RowKit
set_option linter.unusedVariables false
set_option linter.unusedSimpArgs false
set_option maxRecDepth 100000
/-- What the reader calls next. -/
def fnV (m B : Nat) : Value := if m = 0 then .func (.func 94) #[ptr B] #[] else if m = 1 then .func (.func 135) #[ptr B] #[] else if m = 2 then .func (.func 156) #[ptr B] #[] else if m = 3 then .func (.func 157) #[ptr B] #[] else .nilFunc
/-- The reader's cells. -/
def rds (x : Sx) (r : Rd) (B : Nat) (vr vb : Value) : Array Value := #[.int .i64 r.next, .int .i64 r.ep, vr, .int .i64 x.ep, .int .i64 x.ix, .bool x.fr, .string (str x.pl), fnV r.mode B, .int .i64 r.size, vb]
/-- Nothing has turned but block B. -/
structure But (B : Nat) (w w' : World) : Prop where
  os : w'.os = w.os
  tape : w'.tape = w.tape
  output : w'.output = w.output
  size : w.heap.size ≤ w'.heap.size
  block : ∀ k, k ≠ B → w'.heap[k]? = w.heap[k]?
theorem But.refl (B : Nat) (w : World) : But B w w := ⟨rfl, rfl, rfl, Nat.le_refl _, fun _ _ => rfl⟩
theorem But.set {B : Nat} {a w : World} (h : But B a w) (i : Nat) (v : Value) : But B a (w.setCell ⟨B, i, none⟩ v) :=
  ⟨h.os, h.tape, h.output, Nat.le_trans h.size (by simp [World.setCell]), fun k hk => (Below.heap_setCell w ⟨B, i, none⟩ v k hk).trans (h.block k hk)⟩
theorem But.drew {B : Nat} {a w : World} (h : But B a w) : But B a w.drew := ⟨h.os, h.tape, h.output, h.size, h.block⟩
theorem But.below {B C : Nat} {a w : World} (h : But B a w) (hB : C ≤ B) : Below C a w := ⟨h.os, h.tape, h.output, h.size, fun k hk => h.block k (by omega)⟩
theorem row_other {w : World} {b e s n B : Nat} {v : Value} {xs : List Value} {cs : Array Value} {t : TypeId} (h : w.ownsRow b e s v n xs) (hb : Bx w B cs t) (ht : t ≠ e) : ∀ g, v.ownBlock = some g → g ≠ B := by
  rintro g hg rfl
  rcases h.2 with ⟨rfl, _⟩ | ⟨g', cap, cur, rfl, _, h2, _⟩
  · simp [Value.ownBlock] at hg
  · simp [Value.ownBlock] at hg
    subst hg
    unfold Bx at hb
    rw [hb] at h2
    simp at h2
    exact ht h2.2
/-- The reader at block B, from n₀ on; its rows are not block X. -/
def RdM (n₀ X : Nat) (w : World) (B : Nat) (x : Sx) (r : Rd) (vr vb : Value) : Prop :=
  Bx w B (rds x r B vr vb) 128 ∧ OwnT n₀ w vr r.out ∧ w.ownsRow n₀ 5 1 vb r.rc.length (bcs r.rc) ∧ vb.ownBlock ≠ some X ∧ n₀ ≤ B
/-- Below n₀, and at X, all is as it was. -/
def KpS (n₀ : Nat) (w w' : World) : Prop := Below n₀ w w' ∧ ∀ k cs, Bx w k cs 125 → Bx w' k cs 125
theorem KpS.refl (n₀ : Nat) (w : World) : KpS n₀ w w := ⟨Below.refl _ _, fun _ _ h => h⟩
theorem KpS.trans {n₀ : Nat} {a b c : World} (h : KpS n₀ a b) (k : KpS n₀ b c) : KpS n₀ a c := ⟨h.1.trans k.1, fun i cs hb => k.2 i cs (h.2 i cs hb)⟩
theorem KpS.of_below {n₀ : Nat} {a b : World} (hn : n₀ ≤ a.heap.size) (h : Below a.heap.size a b) : KpS n₀ a b := ⟨h.mono hn, fun _ _ hb => hb.held h⟩
theorem But.kps {n₀ B : Nat} {a w : World} {cs : Array Value} (h : But B a w) (hB : n₀ ≤ B) (hb : Bx a B cs 128) : KpS n₀ a w := ⟨h.below hB, fun k ds hd => (h.block k (by
  rintro rfl
  unfold Bx at hb hd
  rw [hb] at hd
  simp at hd)).trans hd⟩
def KpX (n₀ X : Nat) (w w' : World) : Prop := KpS n₀ w w' ∧ w'.heap[X]? = w.heap[X]?
theorem KpX.refl (n₀ X : Nat) (w : World) : KpX n₀ X w w := ⟨KpS.refl _ _, rfl⟩
theorem KpX.trans {n₀ X : Nat} {a b c : World} (h : KpX n₀ X a b) (k : KpX n₀ X b c) : KpX n₀ X a c := ⟨h.1.trans k.1, k.2.trans h.2⟩
theorem RdM.but {n₀ X B : Nat} {w w' : World} {x y : Sx} {r q : Rd} {vr vb : Value} (h : RdM n₀ X w B x r vr vb) (hb : But B w w') (hx : Bx w' B (rds y q B vr vb) 128) (ho : q.out = r.out) (hc : q.rc = r.rc) : RdM n₀ X w' B y q vr vb := by
  obtain ⟨h1, h2, h3, h4, h5⟩ := h
  refine ⟨hx, ?_, ?_, h4, h5⟩
  · rw [ho]
    exact owns_kept2 h2 fun g hg => hb.block g (row_other h2 h1 (by decide) g hg)
  · rw [hc]
    exact owns_kept2 h3 fun g hg => hb.block g (row_other h3 h1 (by decide) g hg)
theorem RdM.cells {n₀ X B : Nat} {w : World} {x : Sx} {r : Rd} {vr vb : Value} (h : RdM n₀ X w B x r vr vb) : w.cell? ⟨B, 0, none⟩ = some (.int .i64 r.next) ∧ w.cell? ⟨B, 1, none⟩ = some (.int .i64 r.ep) ∧ w.cell? ⟨B, 2, none⟩ = some vr ∧ w.cell? ⟨B, 3, none⟩ = some (.int .i64 x.ep) ∧ w.cell? ⟨B, 4, none⟩ = some (.int .i64 x.ix) ∧ w.cell? ⟨B, 5, none⟩ = some (.bool x.fr) ∧ w.cell? ⟨B, 6, none⟩ = some (.string (str x.pl)) ∧ w.cell? ⟨B, 7, none⟩ = some (fnV r.mode B) ∧ w.cell? ⟨B, 8, none⟩ = some (.int .i64 r.size) ∧ w.cell? ⟨B, 9, none⟩ = some vb :=
  ⟨h.1.cell 0, h.1.cell 1, h.1.cell 2, h.1.cell 3, h.1.cell 4, h.1.cell 5, h.1.cell 6, h.1.cell 7, h.1.cell 8, h.1.cell 9⟩
theorem But.kp {n₀ X B : Nat} {a w : World} {cs : Array Value} (h : But B a w) (hB : n₀ ≤ B) (hX : X ≠ B) (hb : Bx a B cs 128) : KpX n₀ X a w := ⟨h.kps hB hb, h.block X hX⟩
/-- What a method leaves. -/
def StP (n₀ X : Nat) (w : World) (B : Nat) (x : Sx) (q : Rd) (e : Ending) (w' : World) : Prop := e = .returned (.tuple #[]) ∧ ∃ vr vb, RdM n₀ X w' B x q vr vb ∧ KpX n₀ X w w'
set_option maxHeartbeats 1000000 in
theorem high_any {n₀ X B : Nat} {w : World} {x : Sx} {r : Rd} {vr vb : Value} (b : UInt8) (h : RdM n₀ X w B x r vr vb) (hX : X ≠ B) : Calls Tryz.prog 94 #[ptr B, .int .u8 (b.toNat : Int)] w fun e w' => StP n₀ X w B x (hiR r b) e w' := by
  have HH := Lib.hid h
  have HQ := Lib.hid (fun w' (k : StP n₀ X w B x (hiR r b) (.returned (.tuple #[])) w') => k)
  obtain ⟨c0, c1, c2, c3, c4, c5, c6, c7, c8, c9⟩ := h.cells
  have f7 := h.1.free 7
  have f8 := h.1.free 8
  have hb := b.toNat_lt
  clear h
  have HST := Lib.hid (show StP n₀ X w B x (hiR r b) (.returned (.tuple #[])) ((w.setCell ⟨B, 8, none⟩ (.int .i64 ((b.toNat : Int) * 256))).setCell ⟨B, 7, none⟩ (.func (.func 135) #[ptr B] #[])) from
    have hbut := ((But.refl B w).set 8 (.int .i64 ((b.toNat : Int) * 256))).set 7 (.func (.func 135) #[ptr B] #[])
    ⟨rfl, vr, vb, HH.out.but hbut ((HH.out.1.set 8 _).set 7 _) rfl rfl, hbut.kp HH.out.2.2.2.2 hX HH.out.1⟩)
  generalize StP n₀ X w B x (hiR r b) = PP at *
  generalize b.toNat = c at *
  have e1 : IntKind.i64.wrap ((c : Int) * 256) = (c : Int) * 256 := IntWalk.i64_in _ (by omega)
  go_enter Tryz.func94, Tryz.ntmps94
  go_wp2_with fail
  go_end0
  exact HST
/-- The same row, emptied. -/
theorem row_cut {w : World} {n₀ e n : Nat} {A : Option Addr} {c : Nat} {xs : List Value} (h : w.ownsRow n₀ e 1 (.slice A n c) n xs) : w.ownsRow n₀ e 1 (.slice A 0 c) 0 [] := by
  refine ⟨rfl, ?_⟩
  rcases h.2 with ⟨h1, h2⟩ | ⟨g, cap, cur, h1, h2, h3, h4, h5, h6, h7⟩
  · simp only [Value.slice.injEq] at h1
    obtain ⟨rfl, _, rfl⟩ := h1
    exact .inl ⟨rfl, rfl⟩
  · simp only [Value.slice.injEq] at h1
    obtain ⟨rfl, _, rfl⟩ := h1
    exact .inr ⟨g, c, cur, rfl, h2, h3, Nat.zero_le _, h5, h6, by simp⟩
theorem or8 (a : Nat) (b : Nat) (ha : a < 256) (hb : b < 256) : bits .or .i64 ((a : Int) * 256) (b : Int) = (a : Int) * 256 + (b : Int) := by
  rw [or64 a b (by omega) hb]; omega
theorem low_mode (r : Rd) (b : UInt8) : (loR r b).mode = if r.size + b.toNat = 0 then 3 else 2 := rfl
set_option maxHeartbeats 2000000 in
theorem low_any {n₀ X B : Nat} {w : World} {x : Sx} {r : Rd} {vr vb : Value} (a b : UInt8) (h : RdM n₀ X w B x r vr vb) (hX : X ≠ B) (hs : r.size = (a.toNat : Int) * 256) : Calls Tryz.prog 135 #[ptr B, .int .u8 (b.toNat : Int)] w fun e w' => StP n₀ X w B x (loR r b) e w' := by
  have HH := Lib.hid h
  obtain ⟨A, c, rfl⟩ := own_shape h.2.2.1
  obtain ⟨c0, c1, c2, c3, c4, c5, c6, c7, c8, c9⟩ := h.cells
  have f7 := h.1.free 7
  have f8 := h.1.free 8
  have f9 := h.1.free 9
  have hb := b.toNat_lt
  have ha := a.toNat_lt
  have hor := or8 a.toNat b.toNat ha hb
  clear h
  have HM := Lib.hid (low_mode r b)
  have HZ := Lib.hid (show r.size + (b.toNat : Int) = (a.toNat : Int) * 256 + (b.toNat : Int) by rw [hs])
  have HST := Lib.hid (show ∀ m fv, fnV (loR r b).mode B = fv → ∀ w', But B w w' → Bx w' B #[.int .i64 r.next, .int .i64 r.ep, vr, .int .i64 x.ep, .int .i64 x.ix, .bool x.fr, .string (str x.pl), fv, .int .i64 ((a.toNat : Int) * 256 + (b.toNat : Int)), .slice A 0 c] 128 → m = 0 → StP n₀ X w B x (loR r b) (.returned (.tuple #[])) w' from fun m fv hfv w' hbut hbx _ => by
    refine ⟨rfl, vr, .slice A 0 c, ⟨?_, ?_, ?_, ?_, HH.out.2.2.2.2⟩, hbut.kp HH.out.2.2.2.2 hX HH.out.1⟩
    · unfold rds
      rw [hfv, show (loR r b).size = r.size + (b.toNat : Int) from rfl, HZ.out]
      exact hbx
    · exact owns_kept2 HH.out.2.1 fun g hg => hbut.block g (row_other HH.out.2.1 HH.out.1 (by decide) g hg)
    · exact owns_kept2 (row_cut HH.out.2.2.1) fun g hg => hbut.block g (row_other (row_cut HH.out.2.2.1) HH.out.1 (by decide) g hg)
    · have := HH.out.2.2.2.1
      cases A <;> exact this)
  rw [hs] at c8
  generalize StP n₀ X w B x (loR r b) = PP at *
  have HB1 := Lib.hid HH.out.1
  have HBT := Lib.hid (But.refl B w)
  by_cases h0 : (a.toNat : Int) * 256 + (b.toNat : Int) = 0
  · have HF := Lib.hid (HST.out 0 (.func (.func 157) #[ptr B] #[]) (by rw [HM.out, if_pos (by rw [HZ.out]; exact h0)]; rfl))
    have HS2 := Lib.hid (HF.out ((((w.setCell ⟨B, 8, none⟩ (.int .i64 ((a.toNat : Int) * 256 + (b.toNat : Int)))).setCell ⟨B, 9, none⟩ (.slice A 0 c)).setCell ⟨B, 7, none⟩ (.func (.func 156) #[ptr B] #[])).setCell ⟨B, 7, none⟩ (.func (.func 157) #[ptr B] #[]))
      ((((HBT.out.set 8 _).set 9 _).set 7 _).set 7 _) ((((HB1.out.set 8 _).set 9 _).set 7 _).set 7 _) rfl)
    clear HF HST HH HM HZ HB1 HBT
    generalize b.toNat = bn at *
    generalize a.toNat = an at *
    have hn : ((an : Int) * 256 + (bn : Int) == 0) = true := by rw [beq_iff_eq]; exact h0
    clear h0
    go_enter Tryz.func135, Tryz.ntmps135
    go_wp2_with fail
    go_end0
    exact HS2.out
  · have HF := Lib.hid (HST.out 0 (.func (.func 156) #[ptr B] #[]) (by rw [HM.out, if_neg (by rw [HZ.out]; exact h0)]; rfl))
    have HS2 := Lib.hid (HF.out (((w.setCell ⟨B, 8, none⟩ (.int .i64 ((a.toNat : Int) * 256 + (b.toNat : Int)))).setCell ⟨B, 9, none⟩ (.slice A 0 c)).setCell ⟨B, 7, none⟩ (.func (.func 156) #[ptr B] #[]))
      (((HBT.out.set 8 _).set 9 _).set 7 _) (((HB1.out.set 8 _).set 9 _).set 7 _) rfl)
    clear HF HST HH HM HZ HB1 HBT
    generalize b.toNat = bn at *
    generalize a.toNat = an at *
    have hn : ((an : Int) * 256 + (bn : Int) == 0) = false := by rw [beq_eq_false_iff_ne]; exact h0
    go_enter Tryz.func135, Tryz.ntmps135
    go_wp2_with fail
    go_end0
    exact HS2.out
theorem ended_any {n₀ X B : Nat} {w : World} {x : Sx} {r : Rd} {vr vb : Value} (b : UInt8) (h : RdM n₀ X w B x r vr vb) : Calls Tryz.prog 157 #[ptr B, .int .u8 (b.toNat : Int)] w fun e w' => StP n₀ X w B x r e w' := by
  have HS := Lib.hid (show StP n₀ X w B x r (.returned (.tuple #[])) w from ⟨rfl, vr, vb, h, KpX.refl _ _ _⟩)
  generalize StP n₀ X w B x r = PP at *
  clear h
  go_enter Tryz.func157, Tryz.ntmps157
  go_wp2_with fail
  go_end0
  exact HS.out
theorem one_src (w : World) (v : Value) (t : TypeId) : Src (w.alloc (.cells #[v] t)) 1 (some ⟨w.heap.size, 0, none⟩) 1 [v] :=
  ⟨rfl, fun _ => ⟨_, rfl, cell_one_new w v t⟩⟩
/-- A new block of bytes, or of texts, behind the reader's. -/
theorem Bx.grown {w w' : World} {B : Nat} {cs : Array Value} {t : TypeId} {row : Option Nat} (h : Bx w B cs t) (hg : w.grownBy w' row) (hne : some B ≠ row) : Bx w' B cs t := (hg.block B h.lt hne).trans h
theorem row_apart {w : World} {b d e f s t n m : Nat} {v u : Value} {xs ys : List Value} (h : w.ownsRow b e s v n xs) (k : w.ownsRow d f t u m ys) (hne : e ≠ f) : ∀ g, v.ownBlock = some g → some g ≠ u.ownBlock := by
  intro g hg e'
  rcases k.2 with ⟨rfl, _⟩ | ⟨g', cap, cur, rfl, _, h2, _⟩
  · simp [Value.ownBlock] at e'
  · simp [Value.ownBlock] at e'
    subst e'
    exact row_other h (show Bx w g cur f from h2) hne.symm g hg rfl
theorem below_row {w w1 : World} {n₀ e s n : Nat} {v : Value} {xs : List Value} {tmp : Obj} (h : w.ownsRow n₀ e s v n xs) (hn : n₀ ≤ w.heap.size) (hg : (w.alloc tmp).grownBy w1 v.ownBlock) : Below n₀ w w1 :=
  ((Below.refl n₀ w).alloc hn tmp).grown hg (by rw [World.size_alloc]; omega) fun g e => (h.lt g e).1
theorem heap_row {w w1 : World} {X : Nat} {row : Option Nat} {tmp : Obj} (hX : X < w.heap.size) (hne : some X ≠ row) (hg : (w.alloc tmp).grownBy w1 row) : w1.heap[X]? = w.heap[X]? :=
  (hg.block X (by rw [World.size_alloc]; omega) hne).trans (Below.heap_alloc w tmp X hX)
theorem kps_row {w w1 : World} {n₀ e s n : Nat} {v : Value} {xs : List Value} {tmp : Obj} (h : w.ownsRow n₀ e s v n xs) (he : 125 ≠ e) (hn : n₀ ≤ w.heap.size) (hg : (w.alloc tmp).grownBy w1 v.ownBlock) : KpS n₀ w w1 :=
  ⟨below_row h hn hg, fun k cs hk => (heap_row hk.lt (fun e' => row_other h hk he k e'.symm rfl) hg).trans hk⟩
/-- A byte more. -/
theorem app_vb {n₀ X B : Nat} {w w1 : World} {x : Sx} {r : Rd} {vr vb v1 : Value} {b : UInt8} {tmp : Obj} (h : RdM n₀ X w B x r vr vb) (hX : X < w.heap.size) (hXB : X ≠ B)
    (hown1 : w1.ownsRow n₀ 5 1 v1 (r.rc.length + 1) (bcs (r.rc ++ [b]))) (hg : (w.alloc tmp).grownBy w1 vb.ownBlock) (hblk : v1.ownBlock = vb.ownBlock ∨ v1.ownBlock = some (w.heap.size + 1)) :
    Bx w1 B (rds x r B vr vb) 128 ∧ RdM n₀ X (w1.setCell ⟨B, 9, none⟩ v1) B x { r with rc := r.rc ++ [b] } vr v1 ∧ KpX n₀ X w (w1.setCell ⟨B, 9, none⟩ v1) := by
  obtain ⟨h1, h2, h3, h4, h5⟩ := h
  have hn : n₀ ≤ w.heap.size := by have := h1.lt; omega
  have hb1 : Bx w1 B (rds x r B vr vb) 128 := (heap_row h1.lt (fun e => row_other h3 h1 (by decide) B e.symm rfl) hg).trans h1
  have hvr : OwnT n₀ w1 vr r.out := owns_kept2 h2 fun g hg' => heap_row (h2.lt g hg').2 (row_apart h2 h3 (by decide) g hg') hg
  have hs := (But.refl B w1).set 9 v1
  refine ⟨hb1, ⟨hb1.set 9 v1, ?_, ?_, ?_, h5⟩, ?_, ?_⟩
  · exact owns_kept2 hvr fun g hg' => hs.block g (row_other hvr hb1 (by decide) g hg')
  · show World.ownsRow _ n₀ 5 1 v1 (r.rc ++ [b]).length _
    rw [List.length_append]
    exact owns_kept2 hown1 fun g hg' => hs.block g (row_other hown1 hb1 (by decide) g hg')
  · rcases hblk with e | e
    · rw [e]; exact h4
    · rw [e]; intro e'; simp only [Option.some.injEq] at e'; omega
  · exact (kps_row h3 (by decide) hn hg).trans (hs.kps h5 hb1)
  · exact (hs.block X hXB).trans (heap_row hX (Ne.symm h4) hg)
/-- A record more. -/
theorem app_vr {n₀ X B : Nat} {w w1 : World} {x : Sx} {r : Rd} {vr vb v1 : Value} {y : BA} {tmp : Obj} (h : RdM n₀ X w B x r vr vb) (hX : X < w.heap.size) (hXB : X ≠ B) (hXt : ∀ cs, w.heap[X]? ≠ some (.cells cs 9 (0, 0)))
    (hown1 : w1.ownsRow n₀ 9 1 v1 (r.out.length + 1) (tcs (r.out ++ [y]))) (hg : (w.alloc tmp).grownBy w1 vr.ownBlock) :
    Bx w1 B (rds x r B vr vb) 128 ∧ RdM n₀ X (w1.setCell ⟨B, 2, none⟩ v1) B x { r with out := r.out ++ [y] } v1 vb ∧ KpX n₀ X w (w1.setCell ⟨B, 2, none⟩ v1) := by
  obtain ⟨h1, h2, h3, h4, h5⟩ := h
  have hn : n₀ ≤ w.heap.size := by have := h1.lt; omega
  have hb1 : Bx w1 B (rds x r B vr vb) 128 := (heap_row h1.lt (fun e => row_other h2 h1 (by decide) B e.symm rfl) hg).trans h1
  have hvb : w1.ownsRow n₀ 5 1 vb r.rc.length (bcs r.rc) := owns_kept2 h3 fun g hg' => heap_row (h3.lt g hg').2 (row_apart h3 h2 (by decide) g hg') hg
  have hs := (But.refl B w1).set 2 v1
  refine ⟨hb1, ⟨hb1.set 2 v1, ?_, ?_, h4, h5⟩, ?_, ?_⟩
  · show World.ownsRow _ n₀ 9 1 v1 (r.out ++ [y]).length _
    rw [List.length_append]
    exact owns_kept2 hown1 fun g hg' => hs.block g (row_other hown1 hb1 (by decide) g hg')
  · exact owns_kept2 hvb fun g hg' => hs.block g (row_other hvb hb1 (by decide) g hg')
  · exact (kps_row h2 (by decide) hn hg).trans (hs.kps h5 hb1)
  · exact (hs.block X hXB).trans (heap_row hX (fun e => by
      rcases h2.2 with ⟨rfl, _⟩ | ⟨g', cap, cur, rfl, _, h6, _⟩
      · simp [Value.ownBlock] at e
      · simp [Value.ownBlock] at e
        subst e
        exact hXt _ h6) hg)
theorem RdM.drewN {n₀ X B : Nat} {w : World} {x : Sx} {r : Rd} {vr vb : Value} (h : RdM n₀ X w B x r vr vb) (q : Nat) : RdM n₀ X (w.drewN q) B x r vr vb := h
theorem KpX.drewN {n₀ X : Nat} {w w' : World} (h : KpX n₀ X w w') (q : Nat) : KpX n₀ X w (w'.drewN q) := ⟨⟨below_drewN h.1.1 q, h.1.2⟩, h.2⟩
theorem RdM.held {n₀ X B : Nat} {w w' : World} {x : Sx} {r : Rd} {vr vb : Value} (h : RdM n₀ X w B x r vr vb) (hb : Below w.heap.size w w') : RdM n₀ X w' B x r vr vb :=
  ⟨h.1.held hb, h.2.1.kept hb, owns_kept2 h.2.2.1 fun g hg => hb.block g (h.2.2.1.lt g hg).2, h.2.2.2.1, h.2.2.2.2⟩
set_option maxHeartbeats 4000000 in
theorem body_any {n₀ X B : Nat} {w : World} {x : Sx} {r : Rd} {vr vb : Value} (b : UInt8) (h : RdM n₀ X w B x r vr vb) (hX : X < w.heap.size) (hXB : X ≠ B) (hXt : ∀ cs, w.heap[X]? ≠ some (.cells cs 9 (0, 0))) (hm : r.mode = 2) (hl : (r.rc.length : Int) < r.size) (hs : r.size ≤ 65535) (ho : r.out.length ≤ 1000000) (hi : 0 ≤ x.ix ∧ x.ix ≤ 65535) : Calls Tryz.prog 156 #[ptr B, .int .u8 (b.toNat : Int)] w fun e w' => StP n₀ X w B x (boR x r b) e w' := by
  have HH := Lib.hid h
  have HXS := Lib.hid hX
  have HXB := Lib.hid hXB
  have HXT := Lib.hid hXt
  have HM := Lib.hid hm
  obtain ⟨A, c, rfl⟩ := own_shape h.2.2.1
  obtain ⟨A2, c2r, rfl⟩ := own_shape h.2.1
  obtain ⟨c0, c1, c2, c3, c4, c5, c6, c7, c8, c9⟩ := h.cells
  have f9 := h.1.free 9
  obtain ⟨i0, hi0, hz0, hz1, hz2⟩ := info_parts info_b
  obtain ⟨j0, hj0, hy0, hy1, hy2⟩ := info_parts info_s
  have hown := h.2.2.1
  have hB := h.2.2.2.2
  have hBl := h.1.lt
  have hn0 : n₀ ≤ w.heap.size := by omega
  clear h hX hXB hXt hm
  have HBC := Lib.hid (show bcs (r.rc ++ [b]) = bcs r.rc ++ [.int .u8 (b.toNat : Int)] from by rw [bcs_append]; rfl)
  have HPR := Lib.hid (fun w' (k : StP n₀ X w B x (boR x r b) (.returned (.tuple #[])) w') => k)
  go_enter Tryz.func156, Tryz.ntmps156
  go_wp2_with (at_builtin; refine wpList_append_src _ rfl (.tmp 8) (.tmp 10) 70 rfl 5 i0 (.int .u8 0) 1 1 Tryz.underlying70 hi0 hz0 hz1 hz2 rfl (by decide) n₀ _ _ _ rfl (hown.alloc _) (some ⟨w.heap.size, 0, none⟩) 1 1 [.int .u8 (b.toNat : Int)] rfl (one_src _ _ _) ?d1 ?d2 ?d3 ?d4 ?_)
  case d1 => intro u hu; simp only [List.mem_cons, List.not_mem_nil, or_false] at hu; subst hu; rfl
  case d2 => unfold maxLen; omega
  case d3 => omega
  case d4 => rw [World.size_alloc]; omega
  intro v1 w1 hown1 hgrow1 hblk1
  rw [← HBC.out] at hown1
  obtain ⟨A1, c1', rfl⟩ := own_shape hown1
  obtain ⟨hb1, hR1, hK1⟩ := app_vb HH.out HXS.out HXB.out hown1 hgrow1 hblk1
  have k9 := hb1.cell 9
  have g9 := hb1.free 9
  have HR1 := Lib.hid hR1
  have HK1 := Lib.hid hK1
  obtain ⟨m0, m1, m2, m3, m4, m5, m6, m7, m8, m9⟩ := hR1.cells
  have g2 := hR1.1.free 2
  have hsz2 : w1.heap.size = (w1.setCell ⟨B, 9, none⟩ (.slice A1 (r.rc.length + 1) c1')).heap.size := by simp [World.setCell]
  have hbig : w.heap.size < w1.heap.size := by have := hgrow1.size; rw [World.size_alloc] at this; omega
  clear hown1 hgrow1 hblk1 hb1 hR1 hK1 hown c0 c1 c2 c3 c4 c5 c6 c7 c8 c9 f9
  go_upto_region 1 with fail
  have hWs : w.heap.size < (w1.setCell ⟨B, 9, none⟩ (.slice A1 (r.rc.length + 1) c1')).heap.size := by omega
  clear k9 g9 hbig hsz2
  generalize w1.setCell ⟨B, 9, none⟩ (.slice A1 (r.rc.length + 1) c1') = W at *
  by_cases hlt : (r.rc.length : Int) + 1 < r.size
  · have HF := Lib.hid (fun q => HPR.out (W.drewN q) (by unfold boR; rw [if_pos hlt]; exact ⟨rfl, _, _, HR1.out.drewN q, HK1.out.drewN q⟩))
    have hl1 : IntKind.i64.wrap ((r.rc.length : Int) + 1) = (r.rc.length : Int) + 1 := IntWalk.i64_in _ (by omega)
    have m8' : W.cell? ⟨B, 8, none⟩ = some (.int .i64 r.size) := m8
    have hlt2 : (((r.rc.length + 1 : Nat) : Int) < r.size) := by omega
    clear HPR HBC m0 m1 m2 m3 m4 m5 m6 m7 m8
    go_wp2_with fail
    go_quiet (fail)
    go_wp2_with fail
    refine bodyPost_ret (results_none rfl _ _ _) rfl ?_
    exact HF.out nq
  · have hlt2 : ¬ (((r.rc.length + 1 : Nat) : Int) < r.size) := by omega
    have hl1 : IntKind.i64.wrap ((r.rc.length : Int) + 1) = (r.rc.length : Int) + 1 := IntWalk.i64_in _ (by omega)
    have m8' : W.cell? ⟨B, 8, none⟩ = some (.int .i64 r.size) := m8
    go_wp2_with fail
    go_quiet (fail)
    go_wp2_with fail
    replace HR1 := Lib.hid (HR1.out.drewN nq)
    replace HK1 := Lib.hid (HK1.out.drewN nq)
    have hXV : X < (W.drewN nq).heap.size := Nat.lt_trans HXS.out hWs
    have hXtV : ∀ cs, (W.drewN nq).heap[X]? ≠ some (.cells cs 9 (0, 0)) := fun cs e => HXT.out cs (HK1.out.2.symm.trans e)
    generalize hV : W.drewN nq = V at *
    clear hV
    have hown2 : V.drew.ownsRow n₀ 9 1 (.slice A2 r.out.length c2r) r.out.length (tcs r.out) := HR1.out.2.1
    have hcv := own_string (w := V.drew) (l := r.rc ++ [b]) HR1.out.2.2.1 rfl
    obtain ⟨m0, m1, m2, m3, m4, m5, m6, m7, m8, m9⟩ := HR1.out.cells
    have g2 := HR1.out.1.free 2
    have HXV := Lib.hid hXV
    have HXTV := Lib.hid hXtV
    have hn1 : n₀ ≤ V.heap.size := by have := HR1.out.1.lt; omega
    have hlt0 := Lib.hid hlt
    clear hXV hXtV hWs hlt hlt2 hl1 m8'
    have HTC := Lib.hid (show tcs (r.out ++ [r.rc ++ [b]]) = tcs r.out ++ [.string (str (r.rc ++ [b]))] from by rw [tcs_append]; rfl)
    have hss : (str (r.rc ++ [b])).size ≤ 100000 := by rw [str_size, List.length_append]; simp; omega
    have m2a : (V.alloc (Obj.cells #[Value.string (str (r.rc ++ [b]))] 9)).cell? ⟨B, 2, none⟩ = some (.slice A2 r.out.length c2r) := (HR1.out.1.alloc _).cell 2
    go_cut [28] (fun s wx => s = s ∧ Hid (∃ A3 c3, RdM n₀ X wx B x { r with out := r.out ++ [r.rc ++ [b]], rc := r.rc ++ [b] } (.slice A3 (r.out.length + 1) c3) (.slice A1 (r.rc.length + 1) c1') ∧ KpX n₀ X w wx))
    case first =>
      go_region_law (first
        | (refine step_append_src _ (by rfl) (.tmp 28) (.tmp 34) 50 (by rfl) 9 j0 (.string ⟨#[]⟩) 1 16 Tryz.underlying50 hj0 hy0 hy1 hy2 rfl (by decide) n₀ (.slice A2 r.out.length c2r) r.out.length (tcs r.out) (by rfl) (hown2.alloc _) (some ⟨V.heap.size, 0, none⟩) 1 1 [.string (str (r.rc ++ [b]))] (by rfl) (one_src V.drew _ _) (by intro u hu; simp only [List.mem_cons, List.not_mem_nil, or_false] at hu; subst hu; rfl) (by unfold maxLen; omega) (by omega) (by show n₀ ≤ (V.alloc _).heap.size; rw [World.size_alloc]; omega) ?_; intro v3 w3 hown3 hgrow3 hblk3; rw [← HTC.out] at hown3; obtain ⟨A3, c3, rfl⟩ := own_shape hown3; obtain ⟨hb3, hR3, hK3⟩ := app_vr (w := V.drew) HR1.out HXV.out HXB.out HXTV.out hown3 hgrow3; have n2 : w3.cell? ⟨B, 2, none⟩ = some (.slice A2 r.out.length c2r) := hb3.cell 2; have n2f := hb3.free 2))
      all_goals have HR3 := Lib.hid hR3
      all_goals have HK3 := Lib.hid (HK1.out.trans (KpX.trans (⟨⟨(Below.refl n₀ V).drew, fun _ _ h => h⟩, rfl⟩ : KpX n₀ X V V.drew) hK3))
      all_goals (go_wp2_with fail; go_meet; exact ⟨trivial, A3, c3, HR3.out, HK3.out⟩)
    case rest =>
      obtain ⟨-, hq⟩ := hcut
      obtain ⟨A3, c3, hR3, hK3⟩ := hq.out
      have HR3 := Lib.hid hR3
      have HK3 := Lib.hid hK3
      clear hq hR3 hK3 m2a m0 m1 m2 m3 m4 m5 m6 m7 m8 m9 g2 hcv hown2 HR1 HK1
      obtain ⟨m0, m1, m2, m3, m4, m5, m6, m7, m8, m9⟩ := HR3.out.cells
      have g0 := HR3.out.1.free 0
      have g1 := HR3.out.1.free 1
      have g7 := HR3.out.1.free 7
      have hix : IntKind.i64.wrap (x.ix + 1) = x.ix + 1 := IntWalk.i64_in _ (by omega)
      go_upto_region 3 with fail
      go_region
      have HU := Lib.hid (show StP n₀ X w B x (boR x r b) (.returned (.tuple #[])) ((((wc.setCell ⟨B, 0, none⟩ (.int .i64 (x.ix + 1))).setCell ⟨B, 1, none⟩ (.int .i64 x.ep)).drew).setCell ⟨B, 7, none⟩ (.func (.func 94) #[ptr B] #[])) from by
        unfold boR
        rw [if_neg (Int.not_lt.2 hlt0.out)]
        have hbut : But B wc ((((wc.setCell ⟨B, 0, none⟩ (.int .i64 (x.ix + 1))).setCell ⟨B, 1, none⟩ (.int .i64 x.ep)).drew).setCell ⟨B, 7, none⟩ (.func (.func 94) #[ptr B] #[])) :=
          (show But B wc ((wc.setCell ⟨B, 0, none⟩ (.int .i64 (x.ix + 1))).setCell ⟨B, 1, none⟩ (.int .i64 x.ep)).drew from ((But.refl B wc).set 0 _).set 1 _ |>.drew).set 7 _
        refine ⟨rfl, _, _, HR3.out.but hbut (Bx.set (show Bx ((wc.setCell ⟨B, 0, none⟩ (.int .i64 (x.ix + 1))).setCell ⟨B, 1, none⟩ (.int .i64 x.ep)).drew B _ _ from (HR3.out.1.set 0 _).set 1 _) 7 _) rfl rfl, HK3.out.trans (hbut.kp hB HXB.out HR3.out.1)⟩)
      clear HR3 HK3 HPR
      go_wp2_with fail
      go_end0
      exact HU.out
end Go.Proofs.YtnjggoeahaglbaaGreat.Fr

/- The contracts of the reader's sector, of eachSector, of Scan. -/
namespace Go.Proofs.YtnjggoeahaglbaaGreat.Fr
open Go.ChangeShapes Go.WideShapes Go.ChangeAt Go.RowKit
set_option linter.unusedVariables false
set_option linter.unusedSimpArgs false
set_option maxRecDepth 100000
theorem to_bytes2 (w : World) (m : BA) : ∃ c w2, (convert 9 70 (.string (str m))).run Tryz.prog w = .ok (.slice (some ⟨w.heap.size, 0, none⟩) m.length c) w2 ∧
    (∀ k (hk : k < m.length), w2.cell? ⟨w.heap.size, k, none⟩ = some (.int .u8 ((m[k]'hk).toNat : Int))) ∧ Below w.heap.size w w2 ∧ m.length ≤ c ∧ w.heap.size < w2.heap.size ∧ ∀ cs, w2.heap[w.heap.size]? ≠ some (.cells cs 9 (0, 0)) := by
  refine ⟨_, _, run_bytes_of_string (P := Tryz.prog) w 9 70 5 (str m) Tryz.underlying9 Tryz.underlying70 Tryz.underlying5, fun k hk => ?_, (Below.refl _ _).drew.alloc (Nat.le_refl _) _, grownCap_ge _ _ _ _, by rw [World.size_alloc]; exact Nat.lt_succ_self _, fun cs e => ?_⟩
  · have hh := World.cell?_alloc_mark w.drew (bytesRow (str m) (grownCap w (str m).size 0 5)) 5 ((bytesRow (str m) (grownCap w (str m).size 0 5)).size, (bytesRow (str m) (grownCap w (str m).size 0 5)).size + 1) k
    refine hh.trans ?_
    rw [bytesRow_at (str m) _ k (by simpa [str] using hk)]
    simp [str]
  · have := (World.alloc_heap_new w.drew _).symm.trans e
    simp at this
/-- The reader at block B, whatever its rows. -/
def RdZ (n₀ : Nat) (w : World) (B : Nat) (x : Sx) (r : Rd) : Prop :=
  ∃ vr vb, Bx w B (rds x r B vr vb) 128 ∧ OwnT n₀ w vr r.out ∧ w.ownsRow n₀ 5 1 vb r.rc.length (bcs r.rc) ∧ n₀ ≤ B
theorem RdM.z {n₀ X B : Nat} {w : World} {x : Sx} {r : Rd} {vr vb : Value} (h : RdM n₀ X w B x r vr vb) : RdZ n₀ w B x r := ⟨vr, vb, h.1, h.2.1, h.2.2.1, h.2.2.2.2⟩
theorem fold_out (x : Sx) : ∀ (p : BA) (r : Rd), (foldR x r p).out.length ≤ r.out.length + p.length
  | [], r => Nat.le_refl _
  | b :: p, r => by
    have h1 := out_step x r b
    have h2 := fold_out x p (stepR x r b)
    show (foldR x (stepR x r b) p).out.length ≤ _
    rw [List.length_cons]
    omega
theorem fold_take (x : Sx) (r : Rd) (p : BA) (k : Nat) (h : k < p.length) : foldR x r (p.take (k + 1)) = stepR x (foldR x r (p.take k)) p[k] := by
  rw [List.take_succ_eq_append_getElem h]
  unfold foldR
  rw [List.foldl_append]
  rfl
theorem fn0 (B : Nat) : fnV 0 B = .func (.func 94) #[ptr B] #[] := rfl
theorem fn1 (B : Nat) : fnV 1 B = .func (.func 135) #[ptr B] #[] := rfl
theorem fn2 (B : Nat) : fnV 2 B = .func (.func 156) #[ptr B] #[] := rfl
theorem fn3 (B : Nat) : fnV 3 B = .func (.func 157) #[ptr B] #[] := rfl
/-- One byte, whatever the reader calls. -/
def RelX (r : Rd) : Prop := ∃ out op dead, Rel out op dead r
theorem RelX.step {r : Rd} (h : RelX r) (x : Sx) (b : UInt8) : RelX (stepR x r b) := by
  obtain ⟨out, op, dead, h⟩ := h
  exact ⟨_, _, _, (h.step x b).1⟩
theorem RelX.fold (x : Sx) : ∀ (p : BA) {r : Rd}, RelX r → RelX (foldR x r p)
  | [], r, h => h
  | b :: p, r, h => RelX.fold x p (h.step x b)
theorem RelX.ways {r : Rd} (h : RelX r) : r.mode = 0 ∨ (r.mode = 1 ∧ ∃ a : UInt8, r.size = (a.toNat : Int) * 256) ∨ (r.mode = 2 ∧ (r.rc.length : Int) < r.size ∧ r.size ≤ 65535) ∨ r.mode = 3 := by
  obtain ⟨out, op, dead, _, h⟩ := h
  rcases h with ⟨h, _⟩ | ⟨h, _, a, _, h2⟩ | ⟨h, _, a, l, _, h2, h3⟩ | ⟨h, _⟩
  · exact .inl h
  · exact .inr (.inl ⟨h, a, h2⟩)
  · have := a.toNat_lt
    have := l.toNat_lt
    exact .inr (.inr (.inl ⟨h, by omega, by omega⟩))
  · exact .inr (.inr (.inr h))
/-- The loop's state in sector. -/
def SecI (n₀ X B : Nat) (w0 : World) (x : Sx) (r : Rd) (k : Nat) (wr : World) : Prop := ∃ vr vb, RdM n₀ X wr B x (foldR x r (x.pl.take k)) vr vb ∧ KpX n₀ X w0 wr ∧ w0.heap.size ≤ wr.heap.size
theorem SecI.next {n₀ X B : Nat} {w0 : World} {x : Sx} {r : Rd} {k : Nat} {wr w' : World} (hk : k < x.pl.length) (hK : KpX n₀ X w0 wr) (h : ∃ vr vb, RdM n₀ X w' B x (stepR x (foldR x r (x.pl.take k)) x.pl[k]) vr vb ∧ KpX n₀ X wr w') : SecI n₀ X B w0 x r (k + 1) w' := by
  obtain ⟨vr, vb, h1, h2⟩ := h
  unfold SecI
  rw [fold_take x r x.pl k hk]
  exact ⟨vr, vb, h1, hK.trans h2, (hK.trans h2).1.1.size⟩
theorem step0 {x : Sx} {r : Rd} {b : UInt8} (h : r.mode = 0) : stepR x r b = hiR r b := by unfold stepR; rw [if_pos h]
theorem step1 {x : Sx} {r : Rd} {b : UInt8} (h : r.mode = 1) : stepR x r b = loR r b := by unfold stepR; rw [if_neg (by omega), if_pos h]
theorem step2 {x : Sx} {r : Rd} {b : UInt8} (h : r.mode = 2) : stepR x r b = boR x r b := by unfold stepR; rw [if_neg (by omega), if_neg (by omega), if_pos h]
theorem step3 {x : Sx} {r : Rd} {b : UInt8} (h : r.mode = 3) : stepR x r b = r := by unfold stepR; rw [if_neg (by omega), if_neg (by omega), if_neg (by omega)]
theorem Bx.other4' {w : World} {B C : Nat} {cs : Array Value} {t : TypeId} (h : Bx w B cs t) (hne : B ≠ C) (v0 v1 v2 v3 : Value) : Bx ((((w.setCell ⟨C, 3, none⟩ v0).setCell ⟨C, 4, none⟩ v1).setCell ⟨C, 5, none⟩ v2).setCell ⟨C, 6, none⟩ v3) B cs t := (((h.other hne 3 v0).other hne 4 v1).other hne 5 v2).other hne 6 v3
/-- What sector leaves. -/
def SecP (n₀ : Nat) (w : World) (B : Nat) (x : Sx) (q : Rd) (e : Ending) (w' : World) : Prop := e = .returned (.tuple #[]) ∧ RdZ n₀ w' B x q ∧ KpS n₀ w w'
set_option maxHeartbeats 4000000 in
theorem sector_any {n₀ B : Nat} {w : World} {x y : Sx} {r : Rd} (h : RdZ n₀ w B y r) (hx : okX x = true) (hr : RelX (startR x r)) (ho : r.out.length ≤ 900000) : Calls Tryz.prog 74 #[ptr B, sv x] w fun e w' => SecP n₀ w B x (foldR x (startR x r) x.pl) e w' := by
  obtain ⟨vr, vb, h1, h2, h3, h4⟩ := h
  obtain ⟨k1, k2, k3, k4, k5, k6⟩ := okX_iff.1 hx
  have HX := Lib.hid hx
  have HR := Lib.hid hr
  have hn0 : n₀ ≤ w.heap.size := by have := h1.lt; omega
  have hne : B ≠ w.heap.size := Nat.ne_of_lt h1.lt
  have HBL := Lib.hid h1.lt
  have H1 := Lib.hid (h1.alloc (.cells (svs x) 125))
  have H2 := Lib.hid (h2.kept ((Below.refl w.heap.size w).alloc (Nat.le_refl _) (.cells (svs x) 125)))
  have H3 := Lib.hid (h3.alloc (.cells (svs x) 125))
  have HB := Lib.hid (KpS.of_below hn0 ((Below.refl w.heap.size w).alloc (Nat.le_refl _) (.cells (svs x) 125)))
  have HS := Lib.hid (Sb.new w x)
  obtain ⟨d0, d1, d2, d3⟩ := HS.out.cells
  have c3 : (w.alloc (.cells (svs x) 125)).cell? ⟨B, 3, none⟩ = some (.int .i64 y.ep) := H1.out.cell 3
  have c4 : (w.alloc (.cells (svs x) 125)).cell? ⟨B, 4, none⟩ = some (.int .i64 y.ix) := H1.out.cell 4
  have c5 : (w.alloc (.cells (svs x) 125)).cell? ⟨B, 5, none⟩ = some (.bool y.fr) := H1.out.cell 5
  have c6 : (w.alloc (.cells (svs x) 125)).cell? ⟨B, 6, none⟩ = some (.string (str y.pl)) := H1.out.cell 6
  have f3 := H1.out.free 3
  have f4 := H1.out.free 4
  have f5 := H1.out.free 5
  have f6 := H1.out.free 6
  rw [show svs x = #[.int .i64 x.ep, .int .i64 x.ix, .bool x.fr, .string (str x.pl)] from rfl] at *
  clear h1 h2 h3 hx hr
  unfold sv
  go_enter Tryz.func74, Tryz.ntmps74
  go_upto_region 2 with fail
  clear c3 c4 c5 c6 f3 f4 f5 f6 d0 d1 d2 d3
  have hbut := ((((But.refl B (w.alloc (.cells #[.int .i64 x.ep, .int .i64 x.ix, .bool x.fr, .string (str x.pl)] 125))).set 3 (.int .i64 x.ep)).set 4 (.int .i64 x.ix)).set 5 (.bool x.fr)).set 6 (.string (str x.pl))
  have hBx : Bx _ B (rds x r B vr vb) 128 := (((H1.out.set 3 (.int .i64 x.ep)).set 4 (.int .i64 x.ix)).set 5 (.bool x.fr)).set 6 (.string (str x.pl))
  have HS2 := Lib.hid (show Sb _ w.heap.size x from Bx.other4' HS.out hne.symm (.int .i64 x.ep) (.int .i64 x.ix) (.bool x.fr) (.string (str x.pl)))
  have HM := Lib.hid (show _ ∧ _ from ⟨owns_kept2 H2.out fun g hg => hbut.block g (row_other H2.out H1.out (by decide) g hg), owns_kept2 H3.out fun g hg => hbut.block g (row_other H3.out H1.out (by decide) g hg)⟩)
  have HBX := Lib.hid hBx
  have HB2 := Lib.hid (HB.out.trans (hbut.kps h4 H1.out))
  have HSZ := Lib.hid (show B < _ from hBx.lt)
  clear hbut hBx H1 H2 H3 HB HS
  generalize ((((w.alloc (.cells #[.int .i64 x.ep, .int .i64 x.ix, .bool x.fr, .string (str x.pl)] 125)).setCell ⟨B, 3, none⟩ (.int .i64 x.ep)).setCell ⟨B, 4, none⟩ (.int .i64 x.ix)).setCell ⟨B, 5, none⟩ (.bool x.fr)).setCell ⟨B, 6, none⟩ (.string (str x.pl)) = V at *
  obtain ⟨d0, d1, d2, d3⟩ := HS2.out.cells
  have c7 : V.cell? ⟨B, 7, none⟩ = some (fnV r.mode B) := HBX.out.cell 7
  have f7 := HBX.out.free 7
  obtain ⟨f', hf'⟩ : ∃ f', f' = x.fr := ⟨_, rfl⟩
  rw [← hf'] at d2
  have HFE := Lib.hid hf'
  clear hf'
  go_upto_if 11 with fail
  go_cut [12] (fun s wx => s = s ∧ Hid (RdZ n₀ wx B x (startR x r) ∧ Sb wx w.heap.size x ∧ KpS n₀ w wx))
  case first =>
    cases f' with
    | true =>
      have hf : x.fr = true := HFE.out.symm
      have HST := Lib.hid (show RdZ n₀ (V.setCell ⟨B, 7, none⟩ (.func (.func 94) #[ptr B] #[])) B x (startR x r) ∧ Sb (V.setCell ⟨B, 7, none⟩ (.func (.func 94) #[ptr B] #[])) w.heap.size x ∧ KpS n₀ w (V.setCell ⟨B, 7, none⟩ (.func (.func 94) #[ptr B] #[])) from by
        have hb := (But.refl B V).set 7 (.func (.func 94) #[ptr B] #[])
        unfold startR
        rw [hf, if_pos rfl]
        exact ⟨⟨vr, vb, HBX.out.set 7 _, owns_kept2 HM.out.1 fun g hg => hb.block g (row_other HM.out.1 HBX.out (by decide) g hg), owns_kept2 HM.out.2 fun g hg => hb.block g (row_other HM.out.2 HBX.out (by decide) g hg), h4⟩, Bx.other HS2.out hne.symm 7 _, HB2.out.trans (hb.kps h4 HBX.out)⟩)
      clear hf
      go_wp2_with fail
      go_meet
      exact ⟨trivial, HST.out⟩
    | false =>
      have hf : x.fr = false := HFE.out.symm
      have HST := Lib.hid (show RdZ n₀ V B x (startR x r) ∧ Sb V w.heap.size x ∧ KpS n₀ w V from by
        unfold startR
        rw [hf]
        exact ⟨⟨vr, vb, HBX.out, HM.out.1, HM.out.2, h4⟩, HS2.out, HB2.out⟩)
      clear hf
      go_wp2_with fail
      go_meet
      exact ⟨trivial, HST.out⟩
  case rest =>
    obtain ⟨-, hq⟩ := hcut
    have HZ := Lib.hid hq.out.1
    have HS3 := Lib.hid hq.out.2.1
    have HB3 := Lib.hid hq.out.2.2
    clear hq HBX HS2 HB2 HM HSZ d0 d1 d2 d3 c7 f7
    obtain ⟨d0, d1, d2, d3⟩ := HS3.out.cells
    obtain ⟨c, w2, hcv, hcell, hb2, hc2, hs2, hty⟩ := to_bytes2 wc x.pl
    have HC := Lib.hid hcell
    have HT := Lib.hid hty
    have hsl : (x.pl.length : Int) ≤ 56 := by omega
    have hstart : ∃ vr vb, RdM n₀ wc.heap.size w2 B x (startR x r) vr vb ∧ KpS n₀ w w2 := by
      obtain ⟨vr', vb', z1, z2, z3, z4⟩ := HZ.out
      refine ⟨vr', vb', ⟨z1.held hb2, z2.kept hb2, owns_kept2 z3 fun g hg => hb2.block g (z3.lt g hg).2, ?_, z4⟩, HB3.out.trans (KpS.of_below (Nat.le_trans hn0 HB3.out.1.size) hb2)⟩
      intro e
      have := (z3.lt _ e).2
      omega
    have hBlt : B < wc.heap.size := by obtain ⟨vr', vb', z1, _⟩ := HZ.out; exact z1.lt
    have HST := Lib.hid hstart
    have HB2 := Lib.hid hb2
    clear hcell hty hstart hb2 HZ HS3 HB3
    go_wp2_with fail
    clear d0 d1 d2 d3 hcv
    go_loopw [21] (fun i wr => ∃ k : Nat, k ≤ x.pl.length ∧ i = .int .i64 k ∧ Hid (SecI n₀ wc.heap.size B w2 x (startR x r) k wr)) (fun i _ => x.pl.length - (intOf i).toNat)
    case atStart =>
      refine ⟨0, Nat.zero_le _, rfl, ?_⟩
      obtain ⟨vr', vb', z, _⟩ := HST.out
      exact ⟨vr', vb', z, KpX.refl _ _ _, Nat.le_refl _⟩
    case round =>
      obtain ⟨k, hk, rfl, hq⟩ := hrel
      obtain ⟨vr1, vb1, hR, hK, hsz⟩ := hq.out
      have b0 : (0 : Int) ≤ (k : Int) := by omega
      by_cases hlt : k < x.pl.length
      · have b1 : (k : Int) < (x.pl.length : Int) := by omega
        have hce : wr.cell? ⟨wc.heap.size, k, none⟩ = some (.int .u8 ((x.pl[k]'hlt).toNat : Int)) := (World.cell?_of_block (a := ⟨wc.heap.size, k, none⟩) hK.2).trans (HC.out k hlt)
        have hm7 := hR.cells.2.2.2.2.2.2.2.1
        have HRX := (HR.out.fold x (x.pl.take k)).ways
        have hol := fold_out x (x.pl.take k) (startR x r)
        have hso : (startR x r).out = r.out := by unfold startR; split <;> rfl
        rw [List.length_take, hso] at hol
        have HNX := Lib.hid (fun w' (h : ∃ vr vb, RdM n₀ wc.heap.size w' B x (stepR x (foldR x (startR x r) (x.pl.take k)) x.pl[k]) vr vb ∧ KpX n₀ wc.heap.size wr w') => SecI.next hlt hK h)
        have HRR := Lib.hid hR
        have HTY := Lib.hid (show ∀ cs, wr.heap[wc.heap.size]? ≠ some (.cells cs 9 (0, 0)) from fun cs e => HT.out cs (hK.2.symm.trans e))
        have HXL := Lib.hid (show wc.heap.size < wr.heap.size by omega)
        have hne2 : wc.heap.size ≠ B := by omega
        clear hq hR hK hso
        generalize hb : x.pl[k] = b at *
        clear hb
        generalize foldR x (startR x r) (x.pl.take k) = q at *
        have hol2 : q.out.length ≤ 1000000 := by omega
        rcases HRX with hm | ⟨hm, a, ha⟩ | ⟨hm, hm1, hm2⟩ | hm
        · have CA := Lib.hid (high_any (n₀ := n₀) (X := wc.heap.size) (w := wr) (x := x) b HRR.out hne2)
          rw [hm, fn0] at hm7
          rw [step0 hm] at HNX
          clear hol hol2
          go_wp2_with fail
          refine CA.out.mono ?_; rintro e w5 ⟨rfl, hst⟩
          have HN := Lib.hid (HNX.out _ hst)
          clear hst HNX CA HRR
          go_wp2_with fail
          go_roundw
          case rel => exact ⟨k + 1, by omega, by go_num, HN.out⟩
          case measure => simp [intOf] <;> omega
        · have CA := Lib.hid (low_any (n₀ := n₀) (X := wc.heap.size) (w := wr) (x := x) a b HRR.out hne2 ha)
          rw [hm, fn1] at hm7
          rw [step1 hm] at HNX
          clear hol hol2
          go_wp2_with fail
          refine CA.out.mono ?_; rintro e w5 ⟨rfl, hst⟩
          have HN := Lib.hid (HNX.out _ hst)
          clear hst HNX CA HRR
          go_wp2_with fail
          go_roundw
          case rel => exact ⟨k + 1, by omega, by go_num, HN.out⟩
          case measure => simp [intOf] <;> omega
        · have CA := Lib.hid (body_any (n₀ := n₀) (X := wc.heap.size) (w := wr) (x := x) b HRR.out HXL.out hne2 HTY.out hm hm1 hm2 hol2 ⟨k3, k4⟩)
          rw [hm, fn2] at hm7
          rw [step2 hm] at HNX
          clear hol hol2
          go_wp2_with fail
          refine CA.out.mono ?_; rintro e w5 ⟨rfl, hst⟩
          have HN := Lib.hid (HNX.out _ hst)
          clear hst HNX CA HRR
          go_wp2_with fail
          go_roundw
          case rel => exact ⟨k + 1, by omega, by go_num, HN.out⟩
          case measure => simp [intOf] <;> omega
        · have CA := Lib.hid (ended_any (n₀ := n₀) (X := wc.heap.size) (w := wr) (x := x) b HRR.out)
          rw [hm, fn3] at hm7
          rw [step3 hm] at HNX
          clear hol hol2
          go_wp2_with fail
          refine CA.out.mono ?_; rintro e w5 ⟨rfl, hst⟩
          have HN := Lib.hid (HNX.out _ hst)
          clear hst HNX CA HRR
          go_wp2_with fail
          go_roundw
          case rel => exact ⟨k + 1, by omega, by go_num, HN.out⟩
          case measure => simp [intOf] <;> omega
      · obtain rfl : k = x.pl.length := by omega
        have b1 : ¬ (x.pl.length : Int) < (x.pl.length : Int) := by omega
        have HF := Lib.hid (show SecP n₀ w B x (foldR x (startR x r) x.pl) (.returned (.tuple #[])) wr from by
          obtain ⟨_, _, _, hbw⟩ := HST.out
          have := hR.z
          rw [List.take_of_length_le (Nat.le_refl _)] at this
          exact ⟨rfl, this, hbw.trans hK.1⟩)
        clear hq hR hK
        go_wp2_with fail
        go_end0
        exact HF.out
end Go.Proofs.YtnjggoeahaglbaaGreat.Fr

/- The contracts of eachSector and of Scan. -/
namespace Go.Proofs.YtnjggoeahaglbaaGreat.Fr
open Go.ChangeShapes Go.WideShapes Go.ChangeAt Go.RowKit
set_option linter.unusedVariables false
set_option linter.unusedSimpArgs false
set_option maxRecDepth 100000
theorem RelS.relx {s : Sc} {r : Rd} {x : Sx} (h : RelS s r) (hf : x.fr = true ∨ s ≠ sc0) : RelX (startR x r) := by
  cases hfr : x.fr with
  | true =>
    unfold startR
    rw [hfr, if_pos rfl]
    exact ⟨r.out, [], false, rfl, .inl ⟨rfl, rfl, rfl⟩⟩
  | false =>
    unfold startR
    rw [hfr, if_neg (by simp)]
    rcases hf with hf | hf
    · rw [hfr] at hf; cases hf
    · rcases h.2.2 with ⟨h0, _⟩ | h0
      · exact absurd h0 hf
      · exact ⟨_, _, _, h0⟩
theorem RelS.out {s : Sc} {r : Rd} (h : RelS s r) : r.out = s.out := by
  rcases h.2.2 with ⟨rfl, rfl⟩ | h
  · rfl
  · exact h.1
theorem RdZ.held {n₀ B : Nat} {w w' : World} {x : Sx} {r : Rd} (h : RdZ n₀ w B x r) (hb : Below w.heap.size w w') : RdZ n₀ w' B x r := by
  obtain ⟨vr, vb, h1, h2, h3, h4⟩ := h
  exact ⟨vr, vb, h1.held hb, h2.kept hb, owns_kept2 h3 fun g hg => hb.block g (h3.lt g hg).2, h4⟩
theorem RdZ.lt {n₀ B : Nat} {w : World} {x : Sx} {r : Rd} (h : RdZ n₀ w B x r) : B < w.heap.size := by
  obtain ⟨vr, vb, h1, _⟩ := h
  exact h1.lt
theorem RdZ.other {n₀ B L : Nat} {w w' : World} {x p : Sx} {r : Rd} (h : RdZ n₀ w B x r) (hl : Sb w L p) (hb : But L w w') : RdZ n₀ w' B x r := by
  obtain ⟨vr, vb, h1, h2, h3, h4⟩ := h
  refine ⟨vr, vb, (hb.block B ?_).trans h1, owns_kept2 h2 fun g hg => hb.block g (row_other h2 hl (by decide) g hg), owns_kept2 h3 fun g hg => hb.block g (row_other h3 hl (by decide) g hg), h4⟩
  rintro rfl
  unfold Bx at h1
  unfold Sb Bx at hl
  rw [h1] at hl
  simp at hl
/-- Between two sectors. -/
def ScI (n₀ B L : Nat) (w : World) (l : List BA) (k : Nat) (wr : World) : Prop :=
  ∃ y r p, RdZ n₀ wr B y r ∧ RelS (scanX 0 sc0 (l.take k)) r ∧ AccTo 0 sc0 l k ∧ Sb wr L p ∧ p.ep = (scanX 0 sc0 (l.take k)).last ∧ r.out.length ≤ 56 * k ∧ Below n₀ w wr ∧ (0 < k → 1 ≤ (scanX 0 sc0 (l.take k)).last)
def EachP (n₀ B : Nat) (w : World) (l : List BA) (e : Ending) (w' : World) : Prop := e = .returned (.tuple #[]) ∧ ∃ y r, RdZ n₀ w' B y r ∧ RelS (scan l) r ∧ Below n₀ w w'
theorem EachP.stop {n₀ B L : Nat} {w wr w' : World} {l : List BA} {k : Nat} (h : ScI n₀ B L w l k wr) (hk : k < l.length) (ha : accX k (scanX 0 sc0 (l.take k)).last (l.getD k []) = false) (hb : Below wr.heap.size wr w') : EachP n₀ B w l (.returned (.tuple #[])) w' := by
  obtain ⟨y, r, p, h1, h2, h3, h4, h5, h6, h7, h8⟩ := h
  have e : scan l = scanX 0 sc0 (l.take k) := by
    have hs : scanX 0 sc0 (l.take k ++ l.drop k) = scanX (0 + (l.take k).length) (scanX 0 sc0 (l.take k)) (l.drop k) := scan_to (take_acc h3 (by omega))
    rw [List.take_append_drop] at hs
    unfold scan
    rw [hs, List.length_take, Nat.min_eq_left (by omega), Nat.zero_add]
    have hd : l.drop k = l.getD k [] :: l.drop (k + 1) := by
      rw [getD_at hk, List.drop_eq_getElem_cons hk]
    rw [hd]
    exact acc_stop ha
  refine ⟨rfl, y, r, h1.held hb, by rw [e]; exact h2, h7.trans (hb.mono ?_)⟩
  have := h1.lt
  obtain ⟨_, _, _, _, _, h9⟩ := h1
  omega
theorem EachP.fin {n₀ B L : Nat} {w wr : World} {l : List BA} (h : ScI n₀ B L w l l.length wr) : EachP n₀ B w l (.returned (.tuple #[])) wr := by
  obtain ⟨y, r, p, h1, h2, h3, h4, h5, h6, h7, h8⟩ := h
  rw [List.take_of_length_le (Nat.le_refl _)] at h2
  exact ⟨rfl, y, r, h1, h2, h7⟩
theorem ok_got {b : BA} (h : getOkX b = true) : okX (gotX b) = true := by
  unfold gotX
  rw [if_pos h]
  exact (getOkX_iff.1 h).1
theorem ScI.next {n₀ B L : Nat} {w wr w5 : World} {l : List BA} {k : Nat} {r : Rd} {p : Sx} (hk : k < l.length) (h2 : RelS (scanX 0 sc0 (l.take k)) r) (h3 : AccTo 0 sc0 l k) (h6 : r.out.length ≤ 56 * k)
    (ha : accX k (scanX 0 sc0 (l.take k)).last (l.getD k []) = true) (hf : (gotX (l.getD k [])).fr = true ∨ scanX 0 sc0 (l.take k) ≠ sc0) (hz : RdZ n₀ w5 B (gotX (l.getD k [])) (foldR (gotX (l.getD k [])) (startR (gotX (l.getD k [])) r) (gotX (l.getD k [])).pl)) (hs : Sb w5 L p) (hL : n₀ ≤ L) (hb : Below n₀ w w5) :
    ScI n₀ B L w l (k + 1) ((((w5.setCell ⟨L, 0, none⟩ (.int .i64 (gotX (l.getD k [])).ep)).setCell ⟨L, 1, none⟩ (.int .i64 (gotX (l.getD k [])).ix)).setCell ⟨L, 2, none⟩ (.bool (gotX (l.getD k [])).fr)).setCell ⟨L, 3, none⟩ (.string (str (gotX (l.getD k [])).pl))) := by
  have hacc : accX (0 + k) (scanX 0 sc0 (l.take k)).last (l.getD k []) = true := by rw [Nat.zero_add]; exact ha
  have e := scan_snoc h3 hk hacc
  have hg : getOkX (l.getD k []) = true := by unfold accX at ha; rw [Bool.and_eq_true] at ha; exact ha.1
  have hix : (gotX (l.getD k [])).ix = ((0 + k : Nat) : Int) := by
    unfold accX at ha
    simp only [Bool.and_eq_true, decide_eq_true_eq] at ha
    rw [Nat.zero_add]; exact ha.2.1
  have hx := okX_iff.1 (ok_got hg)
  generalize hbe : l.getD k [] = b at *
  have hbut := ((((But.refl L w5).set 0 (.int .i64 (gotX b).ep)).set 1 (.int .i64 (gotX b).ix)).set 2 (.bool (gotX b).fr)).set 3 (.string (str (gotX b).pl))
  refine ⟨gotX b, _, gotX b, hz.other hs hbut, by rw [e]; exact h2.feed hix hf, ?_, Bx.set4 hs _ _ _ _, by rw [e]; rfl, ?_, hb.trans (hbut.below hL), fun _ => by rw [e]; exact hx.1⟩
  · intro j hj
    by_cases hjk : j < k
    · exact h3 j hjk
    · obtain rfl : j = k := by omega
      rw [hbe]; exact hacc
  · have h9 := fold_out (gotX b) (gotX b).pl (startR (gotX b) r)
    have hso : (startR (gotX b) r).out = r.out := by unfold startR; split <;> rfl
    rw [hso] at h9
    have := hx.2.2.2.2.2
    omega
theorem acc_iff (k : Nat) (p : Sx) (s : Sc) (b : BA) (hp : p.ep = s.last) : accX k s.last b = (getOkX b && (decide ((gotX b).ix = k) && folB (gotX b) p)) := by
  unfold accX folB
  rw [hp]
  cases getOkX b <;> cases decide ((gotX b).ix = (k : Int)) <;> cases decide (s.last ≤ (gotX b).ep) <;> cases decide ((gotX b).ep = s.last) <;> cases (gotX b).fr <;> rfl
set_option maxHeartbeats 8000000 in
theorem each_any {C n₀ B n c : Nat} {A : Option Addr} {l : List BA} {w : World} {y : Sx} (h : Txt C w A n l) (hC : C ≤ n₀) (hn : n ≤ 10000) (hz : RdZ n₀ w B y rd0) : Calls Tryz.prog 73 #[.slice A n c, .func (.func 74) #[ptr B] #[]] w fun e w' => EachP n₀ B w l e w' := by
  have H1 := Lib.hid h
  have HN := Lib.hid h.1
  have hBl := hz.lt
  have hB : n₀ ≤ B := by obtain ⟨_, _, _, _, _, h9⟩ := hz; exact h9
  have HST := Lib.hid (show ScI n₀ B w.heap.size w l 0 (w.alloc (.cells (svs nilX) 125)) from ⟨y, rd0, nilX, hz.held ((Below.refl _ _).alloc (Nat.le_refl _) _), RelS.zero, fun j hj => absurd hj (Nat.not_lt_zero _), Sb.new w nilX, rfl, Nat.zero_le _, (Below.refl _ _).alloc (by omega) _, fun h => absurd h (Nat.lt_irrefl _)⟩)
  have HL := Lib.hid (show n₀ ≤ w.heap.size by omega)
  clear h hz
  go_enter Tryz.func73, Tryz.ntmps73
  go_wp2_with fail
  go_loopw [11] (fun i wr => ∃ k : Nat, k ≤ n ∧ i = .int .i64 k ∧ Hid (ScI n₀ B w.heap.size w l k wr)) (fun i _ => n - (intOf i).toNat)
  case atStart => exact ⟨0, Nat.zero_le _, rfl, HST.out⟩
  case round =>
    obtain ⟨k, hk, rfl, hq⟩ := hrel
    have HQ := Lib.hid hq.out
    clear hq HST
    have b0 : (0 : Int) ≤ (k : Int) := by omega
    by_cases hlt : k < n
    · have hkl : k < l.length := by rw [HN.out]; exact hlt
      have b1 : (k : Int) < (n : Int) := by omega
      obtain ⟨b, off, rfl, hbC, c00, hmx⟩ := H1.out.2.2 k hlt
      have HSTOP := Lib.hid (fun w' ha (hb : Below wr.heap.size wr w') => EachP.stop HQ.out hkl ha hb)
      obtain ⟨y1, r, p, q1, q2, q3, q4, q5, q6, q7, q8⟩ := HQ.out
      have c0 : wr.cell? ⟨b, off + k, none⟩ = _ := cell_kept q7 (by omega) c00
      have HACC := Lib.hid (acc_iff k p (scanX 0 sc0 (l.take k)) (l.getD k []) q5)
      have HNX := Lib.hid (fun w5 ha hf hz hs hb => ScI.next (w := w) (wr := wr) (B := B) (w5 := w5) (p := p) hkl q2 q3 q6 ha hf hz hs HL.out hb)
      have HFR := Lib.hid (show accX k (scanX 0 sc0 (l.take k)).last (l.getD k []) = true → (gotX (l.getD k [])).fr = true ∨ scanX 0 sc0 (l.take k) ≠ sc0 from fun ha => by
        by_cases h0 : 0 < k
        · right
          intro e
          have := q8 h0
          rw [e] at this
          exact absurd this (by decide)
        · left
          have hk0 : k = 0 := by omega
          subst hk0
          have hg : getOkX (l.getD 0 []) = true := by unfold accX at ha; rw [Bool.and_eq_true] at ha; exact ha.1
          have hx := okX_iff.1 (ok_got hg)
          unfold accX at ha
          simp only [Bool.and_eq_true, Bool.or_eq_true, decide_eq_true_eq] at ha
          rcases ha.2.2.2 with h | h
          · have e0 : (scanX 0 sc0 (l.take 0)).last = 0 := rfl
            omega
          · exact h)
      have HRX := Lib.hid (fun hf => RelS.relx (x := gotX (l.getD k [])) q2 hf)
      have HGO := Lib.hid (ok_got (b := l.getD k []))
      have hrl : r.out.length ≤ 900000 := by omega
      have GE := Lib.hid (fun w => get_any (l.getD k []) hmx w)
      have HZ := Lib.hid q1
      have HS := Lib.hid q4
      have HBW := Lib.hid q7
      unfold GetP at GE
      have FO := Lib.hid (follows_any (gotX (l.getD k [])) p)
      clear q1 q2 q3 q4 q5 q6 q7 q8 HQ c00 hmx
      generalize hbb : l.getD k [] = bb at *
      generalize hx : gotX bb = x at *
      generalize getOkX bb = ok at *
      generalize hsx : str bb = sbb at *
      have hne : wr.heap.size ≠ w.heap.size := by have := HS.out; have := Bx.lt this; omega
      have HSA := Lib.hid (show ∀ w3, Below wr.heap.size wr w3 → Sb w3 w.heap.size p from fun w3 hb => HS.out.held hb)
      unfold sv at GE FO
      cases ok with
      | false =>
        have HD := Lib.hid (fun w' hb => HSTOP.out w' (by rw [HACC.out]; rfl) hb)
        clear HSTOP HACC HNX HFR HRX HGO FO HZ HBW HSA hne
        go_wp2_with fail
        refine (GE.out _).mono ?_; rintro e w3 ⟨rfl, hb3⟩
        have HB3 := Lib.hid hb3
        clear hb3
        have HF := Lib.hid (fun w' (hb : Below w3.heap.size w3 w') => HD.out w' (HB3.out.trans (hb.mono HB3.out.size)))
        clear GE HD
        go_wp2_with fail
        refine bodyPost_ret (results_none rfl _ _ _) rfl ?_
        exact HF.out _ ((Below.refl _ _).alloc (Nat.le_refl _) _)
      | true =>
        rw [Bool.true_and] at HACC
        by_cases hix : x.ix = (k : Int)
        · rw [decide_eq_true hix, Bool.true_and] at HACC
          have HXC := Lib.hid (show svs x = #[.int .i64 x.ep, .int .i64 (k : Int), .bool x.fr, .string (str x.pl)] by unfold svs; rw [hix])
          rw [hix] at GE FO
          cases hf : folB x p with
          | false =>
            rw [hf] at FO
            have HD := Lib.hid (fun w' hb => HSTOP.out w' (by rw [HACC.out, hf]) hb)
            clear HSTOP HACC HNX HFR HRX HGO HZ HBW hne hf
            go_wp2_with fail
            refine (GE.out _).mono ?_; rintro e w3 ⟨rfl, hb3⟩
            have HS3 := Lib.hid (HSA.out w3 hb3)
            have HB3 := Lib.hid hb3
            clear hb3
            obtain ⟨d0, d1, d2, d3⟩ := Sb.cells (show Sb (w3.alloc (.cells #[.int .i64 x.ep, .int .i64 (k : Int), .bool x.fr, .string (str x.pl)] 125)) w.heap.size p from Bx.alloc HS3.out (.cells #[.int .i64 x.ep, .int .i64 (k : Int), .bool x.fr, .string (str x.pl)] 125))
            have HNE := Lib.hid (show Sb (w3.alloc (.cells #[.int .i64 x.ep, .int .i64 (k : Int), .bool x.fr, .string (str x.pl)] 125)) w3.heap.size x from by rw [← HXC.out]; exact Sb.new w3 x)
            have HPA := Lib.hid (show Sb (w3.alloc (.cells #[.int .i64 x.ep, .int .i64 (k : Int), .bool x.fr, .string (str x.pl)] 125)) w.heap.size p from Bx.alloc HS3.out (.cells #[.int .i64 x.ep, .int .i64 (k : Int), .bool x.fr, .string (str x.pl)] 125))
            have HB4 := Lib.hid (HB3.out.trans ((Below.refl w3.heap.size w3).alloc (Nat.le_refl _) (.cells #[.int .i64 x.ep, .int .i64 (k : Int), .bool x.fr, .string (str x.pl)] 125) |>.mono HB3.out.size))
            clear GE HS3
            go_wp2_with fail
            refine (FO.out _).mono ?_; rintro e w4 ⟨rfl, hb4⟩
            have HF := Lib.hid (HD.out w4 (HB4.out.trans (hb4.mono HB4.out.size)))
            clear d0 d1 d2 d3 hb4 HB4 HPA HNE HD FO HSA
            go_wp2_with fail
            refine bodyPost_ret (results_none rfl _ _ _) rfl ?_
            exact HF.out
          | true =>
            rw [hf] at FO
            have ha := HACC.out.trans hf
            have HNN := Lib.hid (fun w5 hz hs hb => HNX.out w5 ha (HFR.out ha) hz hs hb)
            have HRX2 := Lib.hid (HRX.out (HFR.out ha))
            have hxk := HGO.out rfl
            have SE := Lib.hid (fun wA (hz : RdZ n₀ wA B y1 r) => sector_any hz hxk HRX2.out hrl)
            unfold SecP sv at SE
            rw [hix] at SE
            clear HSTOP HACC HNX HFR HRX HGO hf ha
            go_wp2_with fail
            refine (GE.out _).mono ?_; rintro e w3 ⟨rfl, hb3⟩
            have HS3 := Lib.hid (HSA.out w3 hb3)
            have HB3 := Lib.hid hb3
            clear hb3
            obtain ⟨d0, d1, d2, d3⟩ := Sb.cells (show Sb (w3.alloc (.cells #[.int .i64 x.ep, .int .i64 (k : Int), .bool x.fr, .string (str x.pl)] 125)) w.heap.size p from Bx.alloc HS3.out (.cells #[.int .i64 x.ep, .int .i64 (k : Int), .bool x.fr, .string (str x.pl)] 125))
            have HNE := Lib.hid (show Sb (w3.alloc (.cells #[.int .i64 x.ep, .int .i64 (k : Int), .bool x.fr, .string (str x.pl)] 125)) w3.heap.size x from by rw [← HXC.out]; exact Sb.new w3 x)
            have HPA := Lib.hid (show Sb (w3.alloc (.cells #[.int .i64 x.ep, .int .i64 (k : Int), .bool x.fr, .string (str x.pl)] 125)) w.heap.size p from Bx.alloc HS3.out (.cells #[.int .i64 x.ep, .int .i64 (k : Int), .bool x.fr, .string (str x.pl)] 125))
            have HB4 := Lib.hid (HB3.out.trans ((Below.refl w3.heap.size w3).alloc (Nat.le_refl _) (.cells #[.int .i64 x.ep, .int .i64 (k : Int), .bool x.fr, .string (str x.pl)] 125) |>.mono HB3.out.size))
            clear GE HS3
            go_wp2_with fail
            refine (FO.out _).mono ?_; rintro e w4 ⟨rfl, hb4⟩
            have HB5 := Lib.hid (HB4.out.trans (hb4.mono HB4.out.size))
            have HN5 := Lib.hid (Sb.held HNE.out hb4)
            have HP5 := Lib.hid (Sb.held HPA.out hb4)
            clear d0 d1 d2 d3 hb4 HB4 HPA HNE FO HSA HB3
            obtain ⟨e0, e1, e2, e3⟩ := HN5.out.cells
            go_wp2_with fail
            refine (SE.out w4 (HZ.out.held HB5.out)).mono ?_; rintro e w5 ⟨rfl, hz5, hk5⟩
            have HN6 := Lib.hid (show Sb w5 w3.heap.size x from hk5.2 _ _ HN5.out)
            have HP6 := Lib.hid (show Sb w5 w.heap.size p from hk5.2 _ _ HP5.out)
            have HNEXT := Lib.hid (HNN.out w5 hz5 HP6.out (HBW.out.trans ((HB5.out.mono (Nat.le_trans HL.out HBW.out.size)).trans hk5.1)))
            rw [hix] at HNEXT
            clear e0 e1 e2 e3 SE HNN hz5 hk5 HN5 HP5 HB5 HBW HZ
            obtain ⟨e0, e1, e2, e3⟩ := HN6.out.cells
            obtain ⟨g0, g1, g2, g3⟩ := HP6.out.cells
            obtain ⟨t0, t1, t2, t3⟩ := HP6.out.free
            go_wp2_with fail
            go_roundw
            case rel => exact ⟨k + 1, by omega, by go_num, HNEXT.out⟩
            case measure => simp [intOf] <;> omega
        · rw [decide_eq_false hix, Bool.false_and] at HACC
          have HD := Lib.hid (fun w' hb => HSTOP.out w' HACC.out hb)
          have hixb : (x.ix == (k : Int)) = false := by rw [beq_eq_false_iff_ne]; exact hix
          clear HSTOP HACC HNX HFR HRX HGO FO HZ HBW HSA hne
          go_wp2_with fail
          refine (GE.out _).mono ?_; rintro e w3 ⟨rfl, hb3⟩
          have HB3 := Lib.hid hb3
          clear hb3
          have HF := Lib.hid (fun w' (hb : Below w3.heap.size w3 w') => HD.out w' (HB3.out.trans (hb.mono HB3.out.size)))
          clear GE HD
          go_wp2_with fail
          refine bodyPost_ret (results_none rfl _ _ _) rfl ?_
          exact HF.out _ ((Below.refl _ _).alloc (Nat.le_refl _) _)
    · obtain rfl : k = n := by omega
      have b1 : ¬ (k : Int) < (k : Int) := by omega
      have HE := Lib.hid (show EachP n₀ B w l (.returned (.tuple #[])) wr from by
        have := HQ.out
        rw [← HN.out] at this
        exact EachP.fin this)
      clear HQ
      go_wp2_with fail
      go_end0
      exact HE.out
/-- What Scan hands back. -/
def ScanP (w : World) (l : List BA) (e : Ending) (w' : World) : Prop := ∃ v, e = .returned (.tuple #[v, .int .i64 ((scan l).next : Nat), .int .i64 (scan l).ep]) ∧ OwnT w.heap.size w' v (scan l).out ∧ Below w.heap.size w w'
set_option maxHeartbeats 4000000 in
theorem scan_any {C n c : Nat} {A : Option Addr} {l : List BA} {w : World} (h : Txt C w A n l) (hC : C ≤ w.heap.size) (hn : n ≤ 10000) : Calls Tryz.prog 41 #[.slice A n c] w fun e w' => ScanP w l e w' := by
  have HZ : RdZ w.heap.size (w.alloc (.cells (rds nilX rd0 w.heap.size (.slice none 0 0) (.slice none 0 0)) 128)) w.heap.size nilX rd0 :=
    ⟨.slice none 0 0, .slice none 0 0, Bx.new _ _ _, OwnT.nil _ _, World.ownsRow_nil _ _ _ _, Nat.le_refl _⟩
  have HB := Lib.hid ((Below.refl w.heap.size w).alloc (Nat.le_refl _) (.cells (rds nilX rd0 w.heap.size (.slice none 0 0) (.slice none 0 0)) 128))
  have EA := Lib.hid (each_any (c := c) (h.kept ((Below.refl C w).alloc hC _)) hC hn HZ)
  have HR := Lib.hid (show ∀ w' vr ep, Below w.heap.size w w' → OwnT w.heap.size w' vr (scan l).out → ep = (scan l).ep → ScanP w l (.returned (.tuple #[vr, .int .i64 ((scan l).next : Nat), .int .i64 ep])) w' from fun w' vr ep hb ho he => ⟨vr, by rw [he], ho, hb⟩)
  rw [show rds nilX rd0 w.heap.size (.slice none 0 0) (.slice none 0 0) = #[.int .i64 0, .int .i64 0, .slice none 0 0, .int .i64 0, .int .i64 0, .bool false, .string ⟨#[]⟩, .nilFunc, .int .i64 0, .slice none 0 0] from rfl] at HB EA
  clear HZ h
  generalize ScanP w l = PP at *
  go_enter Tryz.func41, Tryz.ntmps41
  go_wp2_with fail
  refine EA.out.mono ?_; rintro e w2 ⟨rfl, y, r, hz, hrel, hb2⟩
  obtain ⟨vr, vb, h1, h2, h3, h4⟩ := hz
  have c0 : w2.cell? ⟨w.heap.size, 0, none⟩ = some (.int .i64 r.next) := h1.cell 0
  have c1 : w2.cell? ⟨w.heap.size, 1, none⟩ = some (.int .i64 r.ep) := h1.cell 1
  have c2 : w2.cell? ⟨w.heap.size, 2, none⟩ = some vr := h1.cell 2
  rw [hrel.1] at c0
  rw [hrel.out] at h2
  have HF := Lib.hid (fun q => HR.out (w2.drewN q) vr r.ep (below_drewN (HB.out.trans (hb2.mono (Nat.le_refl _))) q) h2 hrel.2.1)
  clear h1 h2 h3 h4 hrel hb2 HB HR EA
  go_wp2_with fail
  go_quiet (fail)
  go_wp2_with fail
  refine bodyPost_ret (v := .tuple #[vr, .int .i64 ((scan l).next : Nat), .int .i64 r.ep]) (by simp [results, Tryz.results41, go_sem]) rfl (HF.out nq)
end Go.Proofs.YtnjggoeahaglbaaGreat.Fr

/- slices.Chunk over bytes: its iterator's contract. -/
namespace Go.Proofs.YtnjggoeahaglbaaGreat.Fr
open Go.ChangeShapes Go.WideShapes Go.ChangeAt Go.RowKit Go.Shelf
attribute [local go_sem] Oper.semAt_some
set_option linter.unusedVariables false
set_option linter.unusedSimpArgs false
set_option maxRecDepth 100000
/-- A world below n₀, but for block s, as it was. -/
def KeepBut (n₀ s : Nat) (w w' : World) : Prop := w.heap.size ≤ w'.heap.size ∧ ∀ k, k < n₀ → k ≠ s → w'.heap[k]? = w.heap[k]?
theorem KeepBut.refl (n₀ s : Nat) (w : World) : KeepBut n₀ s w w := ⟨Nat.le_refl _, fun _ _ _ => rfl⟩
theorem KeepBut.trans {n₀ s : Nat} {a b c : World} (h : KeepBut n₀ s a b) (k : KeepBut n₀ s b c) : KeepBut n₀ s a c := ⟨Nat.le_trans h.1 k.1, fun i h1 h2 => (k.2 i h1 h2).trans (h.2 i h1 h2)⟩
theorem KeepBut.drewN {n₀ s : Nat} {a b : World} (h : KeepBut n₀ s a b) (q : Nat) : KeepBut n₀ s a (b.drewN q) := h
theorem KeepBut.cell {n₀ s : Nat} {a b : World} (h : KeepBut n₀ s a b) {x : Addr} (hx : x.block < n₀) (hs : x.block ≠ s) : b.cell? x = a.cell? x := World.cell?_of_block (w := a) (h.2 _ hx hs)
theorem keepBut_b {n₀ s : Nat} {w : World} (hn : n₀ ≤ w.heap.size) (W : World) (l : Nat) (o o' : Obj) (hl : w.heap.size ≤ l) (h : W.heap[l]? = some o) (_ : o.isCells = false) (_ : o.isWalk = false) : KeepBut n₀ s W (W.putObj l o') :=
  ⟨by simp, fun k hk _ => World.putObj_heap_other (by omega)⟩
/-- How many pieces. -/
def npL (n : Nat) : Nat := (n + 55) / 56
theorem npL_lt {n k : Nat} : k < npL n ↔ 56 * k < n := by unfold npL; omega
/-- What the iterator hands over: piece k. -/
def pcV (b len k : Nat) : Value := .slice (some ⟨b, 56 * k, none⟩) (min 56 (len - 56 * k)) (min 56 (len - 56 * k))
def pcA (b len : Nat) (x : { i : Nat // i < npL len }) : Array Value := #[pcV b len x.1]
theorem sizeU8 (w : World) : (sizeOf 5).run Tryz.prog w = .ok 1 w := by
  first | exact Tryz.sizeOf5 w | simp [go_sem]
theorem elemB : Tryz.prog.elem 70 = 5 := by kernel_rfl
theorem cut3 (b len cap i m : Nat) (h1 : i < len) (h2 : 0 < m) (h3 : i + m ≤ len) (hc : len ≤ cap) (w : World) : (Instr.slice 70 (.slice (some ⟨b, 0, none⟩) len cap) (some (.int .i64 (i : Int))) (some (.int .i64 ((i : Int) + (m : Int)))) (some (.int .i64 ((i : Int) + (m : Int))))).run Tryz.prog w = .ok (.slice (some ⟨b, i, none⟩) m m) w := by
  rw [run_slice_lhm (P := Tryz.prog) w 70 (some ⟨b, 0, none⟩) len cap (by rw [elemB]; exact Tryz.underlying70) .i64 .i64 .i64 _ _ _ (by omega) (by omega) (by omega) (by omega), elemB, sizeU8]
  simp only [Result.andThen, sliced, slicedAt]
  rw [show ((i : Int) + (m : Int)).toNat = i + m by omega, Int.toNat_natCast, if_neg (by omega), Nat.add_sub_cancel_left, Nat.mul_one, Option.map_some, add_plain, Nat.zero_add]
theorem cut1 (b len cap i : Nat) (h1 : i < len) (hc : len ≤ cap) (w : World) : (Instr.slice 70 (.slice (some ⟨b, 0, none⟩) len cap) (some (.int .i64 (i : Int))) none none).run Tryz.prog w = .ok (.slice (some ⟨b, i, none⟩) (len - i) (cap - i)) w := by
  rw [run_slice_l (P := Tryz.prog) w 70 (some ⟨b, 0, none⟩) len cap (by rw [elemB]; exact Tryz.underlying70) .i64 _ (by omega) (by omega), elemB, sizeU8]
  simp only [Result.andThen, sliced, slicedAt]
  rw [Int.toNat_natCast, if_neg (by omega), Nat.mul_one, Option.map_some, add_plain, Nat.zero_add]
set_option maxHeartbeats 2000000 in
theorem chunk1_in (n : Nat) (hn : 1 ≤ n) (l Bs Bn n₀ s b len cap : Nat) (hlen : len ≤ 1000000) (hcap : len ≤ cap) (hBn : Bs < n₀) (hBs' : Bs ≠ s) (hBn2 : Bn < n₀) (hBn' : Bn ≠ s) (J Jx : List { i : Nat // i < npL len } → World → Prop)
    (hY : ∀ pre x W, J pre W → pre.length < npL len → YieldAt Fence.wide (n - 1) Tryz.prog l (pcA b len x) W fun e W' =>
      (e = .returned (.bool true) ∧ J (pre ++ [x]) W' ∧ KeepBut n₀ s W W') ∨ (e = .returned (.bool false) ∧ Jx (pre ++ [x]) W'))
    (hJd : ∀ pre W q, J pre W → J pre (W.drewN q))
    (W : World) (hBs : W.cell? ⟨Bs, 0, none⟩ = some (.slice (some ⟨b, 0, none⟩) len cap)) (hB2 : W.cell? ⟨Bn, 0, none⟩ = some (.int .i64 56)) (h0 : J [] W) :
    CallsIn Fence.wide n Tryz.prog 119 #[.func (.yield l) #[] #[], .pointer (some ⟨Bs, 0, none⟩), .pointer (some ⟨Bn, 0, none⟩)] W fun e W' => (∃ v, e = .returned v) ∧
      ((∃ ys, ys.map (·.1) = List.range (npL len) ∧ J ys W') ∨ (∃ pre, True ∧ Jx pre W')) := by
  refine callsIn_of_wp Tryz.func119 rfl trivial ?_ rfl
  simp only [Tryz.ntmps119, List.size_toArray, List.length_cons, List.length_nil, Nat.reduceAdd, Nat.reduceSub, Array.replicate_succ, Array.replicate_zero, List.push_toArray, List.append_toArray, List.nil_append, List.cons_append]
  gi_wp2
  gi_loopw [4] (fun i wr => ∃ k : Nat, k ≤ npL len ∧ i = .int .i64 ((56 * k : Nat) : Int) ∧ ∃ pre, pre.map (·.1) = List.range k ∧ J pre wr ∧ KeepBut n₀ s W wr)
    (fun i _ => (len + 56 - intOf i).toNat)
  case atStart => exact ⟨0, Nat.zero_le _, rfl, [], rfl, h0, KeepBut.refl _ _ _⟩
  case round =>
    obtain ⟨k, hk, rfl, pre, hpre, hJs, hnx⟩ := hrel
    have hBx : wr.cell? ⟨Bs, 0, none⟩ = some (.slice (some ⟨b, 0, none⟩) len cap) := (hnx.cell (x := ⟨Bs, 0, none⟩) hBn hBs').trans hBs
    have hBy : wr.cell? ⟨Bn, 0, none⟩ = some (.int .i64 56) := (hnx.cell (x := ⟨Bn, 0, none⟩) hBn2 hBn').trans hB2
    have HP := Lib.hid hpre
    have hpl : pre.length = k := by have := congrArg List.length hpre; simpa using this
    have hNX := Lib.hid hnx
    clear hpre hnx
    by_cases hlt : k < npL len
    · have h56 := npL_lt.1 hlt
      obtain ⟨i, hi⟩ : ∃ i, i = 56 * k := ⟨_, rfl⟩
      obtain ⟨m, hm⟩ : ∃ m, m = min 56 (len - i) := ⟨_, rfl⟩
      have c1 := cut1 b len cap i (by omega) hcap
      have c3 := cut3 b len cap i m (by omega) (by omega) (by omega) hcap
      have hY1 := Lib.hid (fun W q (h : J pre W) => hY pre ⟨k, hlt⟩ (W.drewN q) (hJd pre W q h) (by omega))
      unfold pcA pcV at hY1
      dsimp only at hY1
      rw [← hi, ← hm] at hY1
      rw [← hi]
      have b0 : (0 : Int) ≤ (i : Int) := by omega
      have b1 : (i : Int) < (len : Int) := by omega
      have hmin : min (56 : Int) ((len - i : Nat) : Int) = (m : Int) := by omega
      have hmin2 : min ((len - i : Nat) : Int) (56 : Int) = (m : Int) := by omega
      have hs1 : IntKind.i64.wrap ((i : Int) + (m : Int)) = (i : Int) + (m : Int) := IntWalk.i64_in _ (by omega)
      have hs2 : IntKind.i64.wrap ((i : Int) + 56) = (i : Int) + 56 := IntWalk.i64_in _ (by omega)
      have HI := Lib.hid hi
      have HM := Lib.hid hm
      clear hi hm
      gi_wp2
      refine wpIn_wide.2 ?_
      go_quiet (fail)
      simp only [Exit.then]
      obtain ⟨fn, tmps, assign, body, hy, hR⟩ := hY1.out wr nq hJs
      have hBx2 : (wr.drewN nq).cell? ⟨Bs, 0, none⟩ = some (.slice (some ⟨b, 0, none⟩) len cap) := hBx
      clear hY1
      generalize hW : wr.drewN nq = wq at *
      gi_wp2
      refine hR.mono ?_
      rintro e W3 (⟨rfl, hJ3, hk3⟩ | ⟨rfl, hJx3⟩)
      · have hk4 : KeepBut n₀ s wr W3 := (show KeepBut n₀ s wr wq from by rw [← hW]; exact (KeepBut.refl _ _ _).drewN nq).trans hk3
        have hBy3 : W3.cell? ⟨Bn, 0, none⟩ = some (.int .i64 56) := (hk4.cell (x := ⟨Bn, 0, none⟩) hBn2 hBn').trans hBy
        have HK := Lib.hid (hNX.out.trans hk4)
        clear hk4 hk3
        gi_wp2
        go_roundw
        case rel => exact ⟨k + 1, by omega, by rw [HI.out]; exact congrArg (Value.int .i64) (by omega), pre ++ [⟨k, hlt⟩], by rw [List.map_append, HP.out, List.range_succ]; rfl, hJ3, HK.out⟩
        case measure => simp [intOf]; omega
      · gi_wp2
        refine bodyPost_ret (results_none rfl _ _ _) rfl ?_
        exact ⟨⟨_, rfl⟩, .inr ⟨_, trivial, hJx3⟩⟩
    · have hneg : ¬ ((56 * k : Nat) : Int) < (len : Int) := by have := mt npL_lt.2 hlt; omega
      obtain rfl : k = npL len := by omega
      gi_wp2
      go_end0
      exact ⟨⟨_, rfl⟩, .inl ⟨pre, HP.out, hJs⟩⟩
set_option maxHeartbeats 1000000 in
theorem chunk_in (n : Nat) (a : Option Addr) (len cap : Nat) (w : World) :
    CallsIn Fence.wide n Tryz.prog 82 #[.slice a len cap, .int .i64 56] w fun e w' => e = .returned (.func (.func 119) #[] #[.pointer (some ⟨w.heap.size, 0, none⟩), .pointer (some ⟨w.heap.size + 1, 0, none⟩)]) ∧ w' = (w.alloc (.cells #[.slice a len cap] 70)).alloc (.cells #[.int .i64 56] 3) := by
  refine callsIn_of_wp Tryz.func82 rfl trivial ?_ rfl
  simp only [Tryz.ntmps82, List.size_toArray, List.length_cons, List.length_nil, Nat.reduceAdd, Nat.reduceSub, Array.replicate_succ, Array.replicate_zero, List.push_toArray, List.append_toArray, List.nil_append, List.cons_append]
  gi_wp2
  go_ret
  exact ⟨rfl, rfl⟩
theorem chunk_stops (n : Nat) (hn : 1 ≤ n) (Bs Bn n₀ s b len cap : Nat) (hlen : len ≤ 1000000) (hcap : len ≤ cap) (w : World) (hn₀ : n₀ ≤ w.heap.size) (hBn : Bs < n₀) (hBs' : Bs ≠ s) (hBn2 : Bn < n₀) (hBn' : Bn ≠ s)
    (hBs : w.cell? ⟨Bs, 0, none⟩ = some (.slice (some ⟨b, 0, none⟩) len cap)) (hB2 : w.cell? ⟨Bn, 0, none⟩ = some (.int .i64 56)) :
    SeqStopsK Fence.wide n Tryz.prog 119 #[.pointer (some ⟨Bs, 0, none⟩), .pointer (some ⟨Bn, 0, none⟩)] (pcA b len) (KeepBut n₀ s) (fun ys => ys.map (·.1) = List.range (npL len)) (fun _ => True) (npL len) w := fun l J Jx W hW hJ _ hY h0 => by
  refine (chunk1_in n hn l Bs Bn n₀ s b len cap hlen hcap hBn hBs' hBn2 hBn' J Jx hY ?_ W ((hW.cell (p := ⟨Bs, 0, none⟩) (show Bs < _ by omega)).trans hBs) ((hW.cell (p := ⟨Bn, 0, none⟩) (show Bn < _ by omega)).trans hB2) h0).mono ?_
  · intro pre X q hx
    exact hJ pre X (X.drewN q) none hx ⟨rfl, rfl, rfl, Nat.le_refl _, fun _ _ _ => rfl⟩ (fun r e => by cases e)
  · rintro e W' ⟨he, h⟩
    exact ⟨he, h⟩
end Go.Proofs.YtnjggoeahaglbaaGreat.Fr

/- The contract of Batch. -/
namespace Go.Proofs.YtnjggoeahaglbaaGreat.Fr
open Go.ChangeShapes Go.WideShapes Go.ChangeAt Go.RowKit Go.Shelf
attribute [local go_sem] Oper.semAt_some
set_option linter.unusedVariables false
set_option linter.unusedSimpArgs false
set_option maxRecDepth 100000
theorem cnt_pos {l : List BA} (h : strmOk l = true) : 1 ≤ cntB l := by
  have := strm_pos h
  unfold cntB
  rw [if_pos h]; omega
theorem cnt_np {l : List BA} (h : strmOk l = true) : cntB l = npX (strmB l) := by
  unfold cntB npX
  rw [if_pos h]
/-- A batch has its place if its first and its last sector have. -/
theorem bat_place {e i : Int} {l : List BA} (h : strmOk l = true) : batOk e i l = (placeB e i && placeB e (i + (cntB l : Nat) - 1)) := by
  have hn := cnt_pos h
  have hnp := cnt_np h
  cases hb : batOk e i l with
  | true =>
    obtain ⟨_, hk⟩ := batOk_iff.1 hb
    have h0 := okX_iff.1 (hk 0 (by omega))
    have h1 := okX_iff.1 (hk (cntB l - 1) (by omega))
    unfold secX at h0 h1
    dsimp only at h0 h1
    unfold placeB
    rw [decide_eq_true (by omega), decide_eq_true (by omega)]; rfl
  | false =>
    cases hp : (placeB e i && placeB e (i + (cntB l : Nat) - 1)) with
    | false => rfl
    | true =>
      exfalso
      unfold placeB at hp
      simp only [Bool.and_eq_true, decide_eq_true_eq] at hp
      have := bat_in (e := e) (i := i) h ⟨by omega, by omega⟩ (by omega) (by omega)
      rw [this] at hb; cases hb
def BatP (e i : Int) (l : List BA) (w : World) (r : Ending) (w' : World) : Prop := ∃ v, r = .returned (.tuple #[v, .bool (batOk e i l)]) ∧ OwnT w.heap.size w' v (batB e i l) ∧ Below w.heap.size w w'
theorem BatP.no {e i : Int} {l : List BA} {w w' : World} (h : batOk e i l = false) (hb : Below w.heap.size w w') : BatP e i l w (.returned (.tuple #[.slice none 0 0, .bool false])) w' := by
  unfold BatP
  rw [h, show batB e i l = [] by unfold batB; rw [if_neg (by rw [h]; simp)]]
  exact ⟨_, rfl, OwnT.nil _ _, hb⟩
set_option maxHeartbeats 2000000 in
/-- The place asked for is no place. -/
theorem bat_none {C n c : Nat} {A : Option Addr} {l : List BA} {w : World} (e i : Int) (he : rng e) (hi : rng i) (h : Txt C w A n l) (hC : C ≤ w.heap.size) (hn : n ≤ 1000000) (hc : cntB l ≤ 1000000) (hno : batOk e i l = false) : Calls Tryz.prog 51 #[.int .i64 e, .int .i64 i, .slice A n c] w fun r w' => BatP e i l w r w' := by
  have HN := Lib.hid (fun w' (hb : Below w.heap.size w w') => BatP.no hno hb)
  have HB := Lib.hid (fun q => below_drewN (((Below.refl w.heap.size w).alloc (Nat.le_refl _) (.cells #[.int .i64 e] 3)).alloc (by simp) (.cells #[.int .i64 i] 3)) q)
  have CO := Lib.hid (count_any (c := c) ((w.alloc (.cells #[.int .i64 e] 3)).alloc (.cells #[.int .i64 i] 3)) (h.kept (((Below.refl w.heap.size w).alloc (Nat.le_refl _) (.cells #[.int .i64 e] 3)).alloc (by simp) (.cells #[.int .i64 i] 3) |>.mono hC)) hn)
  have P1 := Lib.hid (place_any e i he)
  have P2 := Lib.hid (place_any e (i + (cntB l : Nat) - 1) he)
  have h3 : strmOk l = false ∨ (strmOk l = true ∧ placeB e i = false) ∨ (strmOk l = true ∧ placeB e i = true ∧ placeB e (i + (cntB l : Nat) - 1) = false) := by
    cases hs : strmOk l with
    | false => exact .inl rfl
    | true =>
      rw [bat_place hs] at hno
      cases hp : placeB e i with
      | false => exact .inr (.inl ⟨rfl, rfl⟩)
      | true => rw [hp, Bool.true_and] at hno; exact .inr (.inr ⟨rfl, rfl, hno⟩)
  generalize BatP e i l w = PP at *
  clear h hno he
  rcases h3 with hs | ⟨hs, hp⟩ | ⟨hs, hp, hp2⟩
  · have hc0 : cntB l = 0 := by unfold cntB; rw [hs]; rfl
    rw [hc0] at CO
    clear hc0 hs hc P1 P2
    go_enter Tryz.func51, Tryz.ntmps51
    go_wp2_with fail
    refine CO.out.mono ?_; rintro r w1 ⟨rfl, q, rfl⟩
    go_wp2_with fail
    exact HN.out _ (HB.out q)
  · have hc1 := cnt_pos hs
    rw [hp] at P1
    generalize cntB l = N at *
    have hN0 : ((N : Int) == 0) = false := by rw [beq_eq_false_iff_ne]; omega
    clear hs hp P2
    go_enter Tryz.func51, Tryz.ntmps51
    go_wp2_with fail
    refine CO.out.mono ?_; rintro r w1 ⟨rfl, q, rfl⟩
    go_wp2_with fail
    refine (P1.out _).mono ?_; rintro r w1 ⟨rfl, rfl⟩
    go_wp2_with fail
    exact HN.out _ (HB.out q)
  · have hc1 := cnt_pos hs
    rw [hp] at P1
    rw [hp2] at P2
    unfold placeB at hp
    simp only [decide_eq_true_eq] at hp
    generalize cntB l = N at *
    have hN0 : ((N : Int) == 0) = false := by rw [beq_eq_false_iff_ne]; omega
    have e1 : IntKind.i64.wrap (i + (N : Int)) = i + (N : Int) := IntWalk.i64_in _ (by omega)
    have e2 : IntKind.i64.wrap (i + (N : Int) - 1) = i + (N : Int) - 1 := IntWalk.i64_in _ (by omega)
    clear hs hp hp2
    go_enter Tryz.func51, Tryz.ntmps51
    go_wp2_with fail
    refine CO.out.mono ?_; rintro r w1 ⟨rfl, q, rfl⟩
    go_wp2_with fail
    refine (P1.out _).mono ?_; rintro r w1 ⟨rfl, rfl⟩
    go_wp2_with fail
    refine (P2.out _).mono ?_; rintro r w1 ⟨rfl, rfl⟩
    go_wp2_with fail
    exact HN.out _ (HB.out q)
/-- The sectors of the pieces that have come. -/
def outB (e i : Int) (s : BA) (pre : List { k : Nat // k < npL s.length }) : List BA := (List.range pre.length).map fun (j : Nat) => encX ⟨e, i + j, decide (j = 0), pieceX s ((pre.map (·.1)).getD j 0)⟩
theorem outB_length (e i : Int) (s : BA) (pre : List { k : Nat // k < npL s.length }) : (outB e i s pre).length = pre.length := by simp [outB]
theorem outB_snoc (e i : Int) (s : BA) (pre : List { k : Nat // k < npL s.length }) (x : { k : Nat // k < npL s.length }) : outB e i s (pre ++ [x]) = outB e i s pre ++ [encX ⟨e, i + pre.length, decide (pre.length = 0), pieceX s x.1⟩] := by
  unfold outB
  rw [List.length_append, List.length_singleton, List.range_succ, List.map_append, List.map_singleton]
  congr 1
  · refine List.map_congr_left fun j hj => ?_
    rw [List.map_append, List.getD_eq_getElem?_getD, List.getElem?_append_left (by rw [List.length_map]; exact List.mem_range.1 hj), ← List.getD_eq_getElem?_getD]
  · rw [List.map_append, List.getD_eq_getElem?_getD, List.getElem?_append_right (by simp)]
    simp
theorem outB_all {e i : Int} {l : List BA} (h : batOk e i l = true) {ys : List { k : Nat // k < npL (strmB l).length }} (hy : ys.map (·.1) = List.range (npL (strmB l).length)) : outB e i (strmB l) ys = batB e i l := by
  have hl : ys.length = npX (strmB l) := by have h2 := congrArg List.length hy; rw [List.length_map, List.length_range] at h2; exact h2
  unfold outB batB
  rw [if_pos h, hl, hy]
  refine List.map_congr_left fun j hj => ?_
  have hj' := List.mem_range.1 hj
  rw [List.getD_eq_getElem?_getD, List.getElem?_range (show j < npL (strmB l).length from hj')]
  rfl
theorem row_other' {w : World} {b e s n B : Nat} {v : Value} {xs : List Value} {cs : Array Value} {t : TypeId} (h : w.ownsRow b e s v n xs) (hb : Bx w B cs t) (ht : t ≠ e) : ∀ g, v.ownBlock = some g → g ≠ B := by
  rintro g hg rfl
  rcases h.2 with ⟨rfl, _⟩ | ⟨g', cap, cur, rfl, _, h2, _⟩
  · simp [Value.ownBlock] at hg
  · simp [Value.ownBlock] at hg
    subst hg
    unfold Bx at hb
    rw [hb] at h2
    simp at h2
    exact ht h2.2
/-- Below n₀ nothing has turned but block s. -/
structure ButS (n₀ s : Nat) (w W : World) : Prop where
  os : W.os = w.os
  tape : W.tape = w.tape
  output : W.output = w.output
  size : w.heap.size ≤ W.heap.size
  block : ∀ k, k < n₀ → k ≠ s → W.heap[k]? = w.heap[k]?
theorem ButS.refl (n₀ s : Nat) (w : World) : ButS n₀ s w w := ⟨rfl, rfl, rfl, Nat.le_refl _, fun _ _ _ => rfl⟩
theorem ButS.trans {n₀ s : Nat} {a b c : World} (h : ButS n₀ s a b) (k : ButS n₀ s b c) : ButS n₀ s a c := ⟨k.os.trans h.os, k.tape.trans h.tape, k.output.trans h.output, Nat.le_trans h.size k.size, fun i h1 h2 => (k.block i h1 h2).trans (h.block i h1 h2)⟩
theorem ButS.cell {n₀ s : Nat} {a b : World} (h : ButS n₀ s a b) {x : Addr} (hx : x.block < n₀) (hs : x.block ≠ s) : b.cell? x = a.cell? x := World.cell?_of_block (w := a) (h.block _ hx hs)
theorem ButS.keep {n₀ s : Nat} {a b : World} (h : ButS n₀ s a b) : KeepBut n₀ s a b := ⟨h.size, h.block⟩
theorem butS_ownFrom {β : Type} {n₀ B s : Nat} {w₀ : World} (hn : n₀ ≤ w₀.heap.size) (hB : n₀ ≤ B) : OwnFrom B (fun (_ : β) W => ButS n₀ s w₀ W) :=
  fun _ X Y row hs hg hr => ⟨hg.os.trans hs.os, hg.tape.trans hs.tape, hg.output.trans hs.output, Nat.le_trans hs.size hg.size, fun k hk hks => (hg.block k (by have := hs.size; omega) (fun e => by have := (hr k e.symm).1; omega)).trans (hs.block k hk hks)⟩
/-- What a round leaves: the row longer, nothing else turned. -/
theorem bat_round {N₀ B9 : Nat} {w3 W w4 w5 : World} {v v5 : Value} {oo no : List BA} {tmp : Obj} (hv : Boxed W B9 50 v) (hrow : W.ownsRow N₀ 9 1 v oo.length (tcs oo)) (hB : ButS N₀ B9 w3 W) (hn : N₀ ≤ W.heap.size) (hb4 : Below W.heap.size W w4)
    (hown5 : w5.ownsRow N₀ 9 1 v5 no.length (tcs no)) (hg : (w4.alloc tmp).grownBy w5 v.ownBlock) :
    Boxed w5 B9 50 v ∧ KeepsFrom N₀ W (w5.setCell ⟨B9, 0, none⟩ v5) ∧ KeepBut N₀ B9 W (w5.setCell ⟨B9, 0, none⟩ v5) ∧ ((∃ u, Boxed (w5.setCell ⟨B9, 0, none⟩ v5) B9 50 u ∧ (w5.setCell ⟨B9, 0, none⟩ v5).ownsRow N₀ 9 1 u no.length (tcs no) ∧ True) ∧ ButS N₀ B9 w3 (w5.setCell ⟨B9, 0, none⟩ v5)) := by
  have hv4 : Boxed w4 B9 50 v := (hb4.block B9 hv.lt).trans hv
  have hr4 : w4.ownsRow N₀ 9 1 v oo.length (tcs oo) := owns_kept2 hrow fun g hg' => hb4.block g (hrow.lt g hg').2
  obtain ⟨q1, q2, q3, q4, q5⟩ := hv4.appended (n₀ := 0) (by decide) (own_base hr4 (Nat.zero_le _)) (Nat.zero_le _) (Nat.zero_le _) (own_base hown5 (Nat.zero_le _)) hg
  have hs4 := hb4.size
  have hbut : ButS N₀ B9 W (w5.setCell ⟨B9, 0, none⟩ v5) := by
    refine ⟨q5.os.trans hb4.os, q5.tape.trans hb4.tape, q5.output.trans hb4.output, Nat.le_trans hb4.size q5.size, fun k hk hks => ?_⟩
    rw [Below.heap_setCell w5 ⟨B9, 0, none⟩ v5 k hks, hg.block k (by rw [World.size_alloc]; omega) (fun e => by have := (hr4.lt k e.symm).1; omega), Below.heap_alloc _ _ _ (by omega)]
    exact hb4.block k (by omega)
  refine ⟨q1, ?_, hbut.keep, ⟨v5, q2, ?_, trivial⟩, hB.trans hbut⟩
  · refine (KeepsOthers.from ?_ N₀)
    exact KeepsOthers.trans ⟨hb4.size, fun k o hk ho => (hb4.block k (Array.getElem?_eq_some_iff.1 hk).1).trans hk⟩ q4
  · have hb5 : Bx w5 B9 #[v] 50 := q1
    exact owns_kept2 hown5 fun g hg' => Below.heap_setCell w5 ⟨B9, 0, none⟩ v5 g (row_other' hown5 hb5 (by decide) g hg')
set_option maxHeartbeats 4000000 in
theorem bat_yes {C n c : Nat} {A : Option Addr} {l : List BA} {w : World} (e i : Int) (h : Txt C w A n l) (hC : C ≤ w.heap.size) (hn : n ≤ 1000000) (hm : (strmB l).length ≤ 1000000) (hyes : batOk e i l = true) : Calls Tryz.prog 51 #[.int .i64 e, .int .i64 i, .slice A n c] w fun r w' => BatP e i l w r w' := by
  obtain ⟨hs, hok⟩ := batOk_iff.1 hyes
  have hpl := bat_place (e := e) (i := i) hs
  rw [hyes] at hpl
  obtain ⟨hp1, hp2⟩ : placeB e i = true ∧ placeB e (i + (cntB l : Nat) - 1) = true := by simpa [Bool.and_eq_true] using hpl.symm
  have hx := hp1
  unfold placeB at hx
  simp only [decide_eq_true_eq] at hx
  have hrg : rng e := by unfold rng; omega
  have hB0 : Below w.heap.size w ((w.alloc (.cells #[.int .i64 e] 3)).alloc (.cells #[.int .i64 i] 3)) := ((Below.refl w.heap.size w).alloc (Nat.le_refl _) _).alloc (by simp) _
  have CO := Lib.hid (count_any (c := c) ((w.alloc (.cells #[.int .i64 e] 3)).alloc (.cells #[.int .i64 i] 3)) (h.kept (hB0.mono hC)) hn)
  have P1 := Lib.hid (place_any e i hrg)
  have P2 := Lib.hid (place_any e (i + (cntB l : Nat) - 1) hrg)
  rw [hp1] at P1
  rw [hp2] at P2
  have hc1 := cnt_pos hs
  have hcn := cnt_np hs
  have hc2 : cntB l ≤ 1000000 := by rw [hcn]; unfold npX; omega
  have ST := Lib.hid (fun W (hb : Below C w W) (hz : C ≤ W.heap.size) => stream_any (c := c) W (h.kept hb) hz hn (fun x hx => ((strmOk_iff.1 hs).2 x hx).2) hm)
  have HOK := Lib.hid hok
  have HYES := Lib.hid hyes
  have HCN := Lib.hid hcn
  clear hpl hp1 hp2 hyes hok h hcn
  generalize cntB l = N at *
  have hN0 : ((N : Int) == 0) = false := by rw [beq_eq_false_iff_ne]; omega
  have e1 : IntKind.i64.wrap (i + (N : Int)) = i + (N : Int) := IntWalk.i64_in _ (by omega)
  have e2 : IntKind.i64.wrap (i + (N : Int) - 1) = i + (N : Int) - 1 := IntWalk.i64_in _ (by omega)
  refine (callsIn_wide (n := 5)).1 ?_
  refine callsIn_of_wp_marks Tryz.func51 rfl trivial ?_ rfl
  simp only [Tryz.ntmps51, List.size_toArray, List.length_cons, List.length_nil, Nat.reduceAdd, Nat.reduceSub, Array.replicate_succ, Array.replicate_zero, List.push_toArray, List.append_toArray, List.nil_append, List.cons_append]
  refine wpIn_wide.2 ?_
  go_wp2_with fail
  refine CO.out.mono ?_; rintro r w1 ⟨rfl, q, rfl⟩
  go_wp2_with fail
  refine (P1.out _).mono ?_; rintro r w1 ⟨rfl, rfl⟩
  go_wp2_with fail
  refine (P2.out _).mono ?_; rintro r w1 ⟨rfl, rfl⟩
  go_wp2_with fail
  refine (ST.out _ ?_ ?_).mono ?_
  · exact (below_drewN (hB0.mono hC) q).alloc (by simp; omega) _
  · simp; omega
  rintro r w2 ⟨vs, rfl, hown, hb2⟩
  obtain ⟨Av, cap, rfl⟩ := own_shape hown
  have hsp := strm_pos hs
  have hcap : (strmB l).length ≤ cap ∧ ∃ b, Av = some ⟨b, 0, none⟩ ∧ w.heap.size + 3 ≤ b ∧ b < w2.heap.size := by
    rcases hown.2 with ⟨h1, h2⟩ | ⟨g, cp, cur, h1, h2, h3, h4, _⟩
    · omega
    · simp only [Value.slice.injEq] at h1
      obtain ⟨rfl, _, rfl⟩ := h1
      exact ⟨h4, g, rfl, by simpa using h2, (Array.getElem?_eq_some_iff.1 h3).1⟩
  obtain ⟨hcp, b, rfl, hb3, hbl⟩ := hcap
  have hX3 : w.heap.size + 3 ≤ w2.heap.size := by have := hb2.size; simpa using this
  have k3 : w2.heap[w.heap.size]? = some (.cells #[.int .i64 e] 3 (0, 0)) := by
    rw [hb2.block _ (by simp; omega), Below.heap_alloc _ _ _ (by simp; omega)]
    exact (Below.heap_alloc _ _ _ (by simp)).trans (heap_alloc_new w _)
  have k4 : w2.heap[w.heap.size + 1]? = some (.cells #[.int .i64 i] 3 (0, 0)) := by
    rw [hb2.block _ (by simp), Below.heap_alloc _ _ _ (by simp)]
    have := heap_alloc_new (w.alloc (.cells #[.int .i64 e] 3)) (.cells #[.int .i64 i] 3)
    rw [World.size_alloc] at this
    exact this
  have k9 : w2.heap[w.heap.size + 1 + 1]? = some (.cells #[.slice none 0 0] 50 (0, 0)) := by
    rw [hb2.block _ (by simp)]
    have := heap_alloc_new (((w.alloc (.cells #[.int .i64 e] 3)).alloc (.cells #[.int .i64 i] 3)).drewN q) (.cells #[.slice none 0 0] 50)
    simpa using this
  have HB2 := Lib.hid (show Below w.heap.size w w2 from (((below_drewN hB0 q).alloc (by simp; omega) _).trans (hb2.mono (by simp; omega))))
  have HOW := Lib.hid hown
  have K3 := Lib.hid k3
  have K4 := Lib.hid k4
  have K9 := Lib.hid k9
  clear hb2 hown k3 k4 k9 ST CO P1 P2 hB0
  go_wp2_with fail
  refine (callsIn_wide.1 (chunk_in 1 _ _ _ _)).mono ?_; rintro r w3 ⟨rfl, rfl⟩
  go_wp2_with fail
  refine (wpIn_wide (n := 5)).1 ?_
  obtain ⟨w3, hw3⟩ : ∃ w3, w3 = (w2.alloc (.cells #[.slice (some ⟨b, 0, none⟩) (strmB l).length cap] 70)).alloc (.cells #[.int .i64 56] 3) := ⟨_, rfl⟩
  rw [← hw3]
  have hz3 : w3.heap.size = w2.heap.size + 2 := by rw [hw3]; simp
  have hb23 : Below w2.heap.size w2 w3 := by rw [hw3]; exact ((Below.refl _ _).alloc (Nat.le_refl _) _).alloc (by simp) _
  have m1 : w3.cell? ⟨w2.heap.size, 0, none⟩ = some (.slice (some ⟨b, 0, none⟩) (strmB l).length cap) := by
    rw [hw3]
    exact (Bx.alloc (Bx.new w2 #[.slice (some ⟨b, 0, none⟩) (strmB l).length cap] 70) _).cell 0
  have m2 : w3.cell? ⟨w2.heap.size + 1, 0, none⟩ = some (.int .i64 56) := by
    rw [hw3]
    have := (Bx.new (w2.alloc (.cells #[.slice (some ⟨b, 0, none⟩) (strmB l).length cap] 70)) #[.int .i64 56] 3).cell 0
    rw [World.size_alloc] at this
    exact this
  have HW := Lib.hid (show w3.ownsRow 0 5 1 (.slice (some ⟨b, 0, none⟩) (strmB l).length cap) (strmB l).length (bcs (strmB l)) from owns_kept2 (own_base HOW.out (Nat.zero_le _)) fun g hg => hb23.block g (HOW.out.lt g hg).2)
  have H3 := Lib.hid (show w3.heap[w.heap.size]? = _ from (hb23.block _ (by omega)).trans K3.out)
  have H4 := Lib.hid (show w3.heap[w.heap.size + 1]? = _ from (hb23.block _ (by omega)).trans K4.out)
  have H9 := Lib.hid (show w3.heap[w.heap.size + 1 + 1]? = _ from (hb23.block _ (by omega)).trans K9.out)
  have HB3 := Lib.hid (HB2.out.trans (hb23.mono (by omega)))
  obtain ⟨j0, hj0, hy0, hy1, hy2⟩ := info_parts info_s
  clear hw3 hb23 K3 K4 K9 HOW HB2
  refine wpIn_rangeFunc_ownG (gf := 119) (lb := #[.pointer (some ⟨w2.heap.size, 0, none⟩), .pointer (some ⟨w2.heap.size + 1, 0, none⟩)]) (encs := pcA b (strmB l).length) (Kp := KeepBut w3.heap.size (w.heap.size + 1 + 1)) (w0 := w3) rfl (by omega) rfl trivial (enters_of Tryz.func119 (by kernel_rfl) rfl)
    (chunk_stops (5 - 1) (by omega) w2.heap.size (w2.heap.size + 1) w3.heap.size (w.heap.size + 1 + 1) b (strmB l).length cap (by omega) hcp w3 (Nat.le_refl _) (by omega) (by omega) (by omega) (by omega) m1 m2)
    KeepBut.trans (keepBut_b (Nat.le_refl _)) (Below.refl _ _) (fun _ => rfl)
    (fun pre W => (∃ v, Boxed W (w.heap.size + 1 + 1) 50 v ∧ W.ownsRow w3.heap.size 9 1 v (outB e i (strmB l) pre).length (tcs (outB e i (strmB l) pre)) ∧ True) ∧ ButS w3.heap.size (w.heap.size + 1 + 1) w3 W)
    (fun _ _ _ => False)
    (OwnFrom.and (Own.from (holdsRow_own w3.heap.size (w.heap.size + 1 + 1) 50 9 1 (fun pre => (outB e i (strmB l) pre).length) (fun pre => tcs (outB e i (strmB l) pre)) (fun _ _ => True)) _) (butS_ownFrom (Nat.le_refl _) (Nat.le_refl _)))
    (fun _ _ _ _ _ hs _ _ => hs)
    ⟨⟨_, H9.out, World.ownsRow_nil _ _ _ _, trivial⟩, ButS.refl _ _ _⟩
    (fun x => { tmps := #[.int .i64 e, .int .i64 i, .slice A n c, .pointer (some ⟨w.heap.size, 0, none⟩), .pointer (some ⟨w.heap.size + 1, 0, none⟩), undef, .slice none 0 0, .bool false, .int .i64 N, .pointer (some ⟨w.heap.size + 1 + 1, 0, none⟩), pcV b (strmB l).length x.1, undef, undef, undef, .slice A n c, .int .i64 N, .int .i64 N, .bool false, .bool false, .int .i64 e, .int .i64 i, .bool true, .bool false, .bool false, .bool false, .int .i64 e, .int .i64 i, .int .i64 N, .int .i64 (i + (N : Int)), .int .i64 (i + (N : Int) - 1), .bool true, .bool false, .bool false, .slice A n c, .slice (some ⟨b, 0, none⟩) (strmB l).length cap, .func (.func 119) #[] #[.pointer (some ⟨w2.heap.size, 0, none⟩), .pointer (some ⟨w2.heap.size + 1, 0, none⟩)], pcV b (strmB l).length x.1, undef, undef, undef, undef, undef, undef, undef, undef, undef, undef, undef, undef, undef, undef, undef, undef, undef, undef, undef, undef], defers := [] }) ?assign ?body ?done ?stop
  case assign =>
    intro l' x W K hK
    unfold pcA
    gi_wp2
    exact hK
  case body =>
    rintro l' pre ⟨k, hk⟩ W ⟨⟨v, hv, hrow, -⟩, hB⟩ hlt
    obtain ⟨Av, cv, rfl⟩ := own_shape hrow
    have HSN := Lib.hid (outB_snoc e i (strmB l) pre ⟨k, hk⟩)
    have HOL := outB_length e i (strmB l) pre
    have hpl2 : i + (pre.length : Int) ≤ 65535 := by
      have := okX_iff.1 (HOK.out pre.length hlt)
      unfold secX at this
      dsimp only at this
      omega
    have hpc := piece_ok (s := strmB l) (k := k) hk
    have hX0 : okX ⟨e, i + pre.length, decide (pre.length = 0), pieceX (strmB l) k⟩ = true := okX_iff.2 ⟨hx.1, hx.2.1, by dsimp only; omega, hpl2, hpc.1, hpc.2⟩
    have PU := Lib.hid (fun w => put_ok ⟨e, i + pre.length, decide (pre.length = 0), pieceX (strmB l) k⟩ hrg hX0 w)
    unfold PutP sv at PU
    rw [hX0, putX_yes hX0] at PU
    dsimp only at PU HSN
    have hcv : (convert 70 9 (pcV b (strmB l).length k)).run Tryz.prog W = .ok (.string (str (pieceX (strmB l) k))) W := by
      have e0 : pcV b (strmB l).length k = .slice (some ⟨b, 56 * k, none⟩) (pieceX (strmB l) k).length (pieceX (strmB l) k).length := by unfold pcV; rw [piece_length]
      rw [e0]
      refine run_convert_bytes_back W 70 9 5 ⟨b, 56 * k, none⟩ _ (pieceX (strmB l) k) Tryz.underlying70 Tryz.underlying5 Tryz.underlying9 fun j hj => ?_
      have hj2 : 56 * k + j < (strmB l).length := by rw [piece_length] at hj; omega
      rw [add_plain, hB.cell (x := ⟨b, 56 * k + j, none⟩) (show b < _ by omega) (show b ≠ _ by omega), HW.out.cellAt (56 * k + j) (by omega)]
      simp only [bcs, pieceX, List.getElem?_map, List.getElem_take, List.getElem_drop, List.getElem?_eq_getElem hj2, Option.map_some]
    have c3 : W.cell? ⟨w.heap.size, 0, none⟩ = some (.int .i64 e) := (hB.cell (x := ⟨w.heap.size, 0, none⟩) (show w.heap.size < _ by omega) (show w.heap.size ≠ _ by omega)).trans (cell_of_row _ _ 0 _ _ _ H3.out)
    have c4 : W.cell? ⟨w.heap.size + 1, 0, none⟩ = some (.int .i64 i) := (hB.cell (x := ⟨w.heap.size + 1, 0, none⟩) (show w.heap.size + 1 < _ by omega) (show w.heap.size + 1 ≠ _ by omega)).trans (cell_of_row _ _ 0 _ _ _ H4.out)
    have c9 := hv.cell
    have e3 : IntKind.i64.wrap (i + (pre.length : Int)) = i + (pre.length : Int) := IntWalk.i64_in _ (by omega)
    have HV := Lib.hid hv
    have HR := Lib.hid hrow
    have HBS := Lib.hid hB
    have HN0 := Lib.hid hrow.lt
    have hpre : pre.length ≤ 1000000 := by have : npL (strmB l).length ≤ 1000000 := by unfold npL; omega
                                           omega
    obtain ⟨fr, hfr⟩ : ∃ fr, fr = decide (pre.length = 0) := ⟨_, rfl⟩
    have hq1 : ((pre.length : Int) == 0) = fr := by rw [hfr]; by_cases h0 : pre.length = 0 <;> simp [h0]
    have hq2 : decide ((pre.length : Int) = 0) = fr := by rw [hfr]; by_cases h0 : pre.length = 0 <;> simp [h0]
    rw [← hfr] at PU HSN
    clear hfr hv hrow hB
    generalize hoo : outB e i (strmB l) pre = oo at *
    generalize hno : outB e i (strmB l) (pre ++ [⟨k, hk⟩]) = no at *
    rw [HOL] at c9
    have HOL2 := Lib.hid HOL
    clear HOL
    generalize pre.length = pn at *
    generalize encX ⟨e, i + (pn : Int), fr, pieceX (strmB l) k⟩ = enc at *
    generalize pieceX (strmB l) k = pc at *
    generalize pcV b (strmB l).length k = pv at *
    gi_wp2_with (first
      | (refine ⟨trivial, ?_⟩; gi_at_call 84; refine (CallsIn.inRound l' (callsIn_wide.2 (PU.out _))).mono ?_; rintro r w4 ⟨rfl, hb4⟩; have c94 : w4.cell? ⟨w.heap.size + 1 + 1, 0, none⟩ = some (.slice Av pn cv) := (hb4.cell (p := ⟨w.heap.size + 1 + 1, 0, none⟩) HV.out.lt).trans c9; have hr4 : w4.ownsRow w3.heap.size 9 1 (.slice Av pn cv) pn (tcs oo) := by have hr := owns_kept2 HR.out (fun g hg => hb4.block g (HR.out.lt g hg).2); rw [HOL2.out] at hr; exact hr
         have hs4 : w3.heap.size ≤ w4.heap.size := Nat.le_trans HBS.out.size hb4.size)
      | (gi_at_builtin; refine wpListIn_append_own _ rfl _ _ 50 rfl w3.heap.size 9 j0 (.string ⟨#[]⟩) 1 16 Tryz.underlying50 hj0 hy0 hy1 hy2 rfl (by decide) _ _ _ rfl (hr4.alloc _) ⟨w4.heap.size, 0, none⟩ 1 1 [.string (str enc)] rfl rfl (cell_one_new _ _ _) (by simp [Value.oneCell']) (by unfold maxLen; omega) (by omega) (by rw [World.size_alloc]; omega) ?_; intro v5 w5 hown5 hgrow5 _; obtain ⟨g5, cap5, rfl⟩ := ownsRow_succ hown5
         have hown6 : w5.ownsRow w3.heap.size 9 1 (.slice (some ⟨g5, 0, none⟩) (pn + 1) cap5) no.length (tcs no) := by
           rw [HSN.out, tcs_append, List.length_append, HOL2.out]; exact hown5
         have hg6 : (w4.alloc (.cells #[.string (str enc)] 9)).grownBy w5 (Value.slice Av oo.length cv).ownBlock := by rw [HOL2.out]; exact hgrow5
         obtain ⟨z1, z2, z3, z4⟩ := bat_round HV.out HR.out HBS.out HBS.out.size hb4 hown6 hg6
         rw [HOL2.out] at z1
         have z5 := z1.cell
         have z6 := z1.frozen))
    refine ⟨z2, z3, ?_⟩
    dsimp only
    rw [hno]
    exact z4
  case done =>
    rintro D ys W hD hS ⟨⟨v, hv, hrow, -⟩, hB⟩ hK
    rw [outB_all HYES.out hS] at hrow
    have c9 := hv.cell
    have HF := Lib.hid (show BatP e i l w (.returned (.tuple #[v, .bool true])) (W.putObj D (.deferred none)) from by
      refine ⟨v, by rw [HYES.out], own_base (ownsRow_putObj hrow _ hK rfl) (by omega), ?_⟩
      have hb : Below w.heap.size w W := HB3.out.trans ⟨hB.os, hB.tape, hB.output, hB.size, fun k hk => hB.block k (by omega) (by omega)⟩
      exact hb.trans (belowK_b (w := w) (Nat.le_refl _) W D _ _ (by omega) hK rfl rfl))
    clear hS hrow hv hB
    simp only [Exit.inBlock, Exit.then]
    go_wp2_with fail
    refine ⟨by simp, .inl ⟨_, _, rfl, run_takeDeferred hK, ?_⟩⟩
    exact ⟨.tuple #[v, .bool true], by simp [results, Tryz.results51, go_sem], HF.out⟩
  case stop =>
    rintro D c pre W _ _ h _
    exact h.elim
theorem bat_any {C n c : Nat} {A : Option Addr} {l : List BA} {w : World} (e i : Int) (he : rng e) (hi : rng i) (h : Txt C w A n l) (hC : C ≤ w.heap.size) (hn : n ≤ 1000000) (hm : (strmB l).length ≤ 1000000) : Calls Tryz.prog 51 #[.int .i64 e, .int .i64 i, .slice A n c] w fun r w' => BatP e i l w r w' := by
  cases hb : batOk e i l with
  | true => exact bat_yes e i h hC hn hm hb
  | false => exact bat_none e i he hi h hC hn (by unfold cntB; split <;> omega) hb
end Go.Proofs.YtnjggoeahaglbaaGreat.Fr
