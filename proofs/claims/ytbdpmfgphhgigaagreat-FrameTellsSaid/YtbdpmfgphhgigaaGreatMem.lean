/- Blocks; lists of texts in memory: as handed in, as rows of a call's own; rows of bytes. -/
import Derived.Test.YtbdpmfgphhgigaaGreatPlain
import Derived.Test.YtbdpmfgphhgigaaGreatChecked
import Derived.Test.YtbdpmfgphhgigaaGreatRows
import Derived.WalkKit
import Derived.ProofKit
import Derived.IntWalk
import Derived.Below
import Derived.Carry
import Derived.OneCell
import Derived.LoopTactic
import Derived.BigQuiet
import Derived.RegionTactic
import Derived.Deep.QuietTactic
import Derived.Deep.OwnRows
import Derived.Deep.AppendLies
import Derived.Laws.BytesArg
import Derived.Laws.MakeOwn
import Derived.Laws.IdiomStrings
import Derived.SliceStrings
import Derived.Maps.AppendAt
import Derived.OwnWalk
import Derived.Laws.AppendOwn
import Derived.Deep.MidRow
import Derived.RangeFuncBox
import Derived.Lib.Hide
import Derived.Lib.AppendStr
import Derived.Lib.Strings
import Derived.StillTailTactics
import Derived.Laws.BitsAllLaws
import Derived.Laws.Entries
namespace Go.Proofs.YtbdpmfgphhgigaaGreat
open Go.ChangeShapes Go.WideShapes Go.ChangeAt Go.RowKit
set_option linter.unusedVariables false
set_option linter.unusedSimpArgs false
set_option maxRecDepth 100000
abbrev ptr (p : Nat) : Value := .pointer (some ⟨p, 0, none⟩)
def rng (v : Int) : Prop := -9223372036854775808 ≤ v ∧ v ≤ 9223372036854775807
theorem block_of_heap {w : World} {p : Nat} {o : Obj} (h : w.heap[p]? = some o) : p < w.heap.size := (Array.getElem?_eq_some_iff.1 h).1
theorem frozen_of_heap (w : World) (p i : Nat) (cs : Array Value) (t : TypeId) (h : w.heap[p]? = some (.cells cs t (0, 0))) : w.frozen? ⟨p, i, none⟩ = false := by
  simp [World.frozen?, h]
/-! A block, as it is. -/
def Bx (w : World) (B : Nat) (cs : Array Value) (t : TypeId) : Prop := w.heap[B]? = some (.cells cs t (0, 0))
theorem Bx.new (w : World) (cs : Array Value) (t : TypeId) : Bx (w.alloc (.cells cs t)) w.heap.size cs t := heap_alloc_new w _
theorem Bx.lt {w : World} {B : Nat} {cs : Array Value} {t : TypeId} (h : Bx w B cs t) : B < w.heap.size := block_of_heap h
theorem Bx.kept {w w' : World} {B C : Nat} {cs : Array Value} {t : TypeId} (h : Bx w B cs t) (hb : Below C w w') (hB : B < C) : Bx w' B cs t := (hb.block B hB).trans h
theorem Bx.held {w w' : World} {B : Nat} {cs : Array Value} {t : TypeId} (h : Bx w B cs t) (hb : Below w.heap.size w w') : Bx w' B cs t := h.kept hb h.lt
theorem Bx.cell {w : World} {B : Nat} {cs : Array Value} {t : TypeId} (h : Bx w B cs t) (i : Nat) : w.cell? ⟨B, i, none⟩ = cs[i]? := cell_of_row _ _ _ _ _ _ h
theorem Bx.free {w : World} {B : Nat} {cs : Array Value} {t : TypeId} (h : Bx w B cs t) (i : Nat) : w.frozen? ⟨B, i, none⟩ = false := frozen_of_heap _ _ _ _ _ h
theorem Bx.alloc {w : World} {B : Nat} {cs : Array Value} {t : TypeId} (h : Bx w B cs t) (o : Obj) : Bx (w.alloc o) B cs t := (Below.heap_alloc w o B h.lt).trans h
/-! append of a whole slice onto a row of the call's own; the source may be nil or empty. -/
def Src (w : World) (size : Nat) (A : Option Addr) (m : Nat) (news : List Value) : Prop :=
  news.length = m * size ∧ (0 < m → ∃ ad, A = some ad ∧ ∀ j u, news[j]? = some u → w.cell? (ad.add j) = some u)
section
variable {P : Program} (w : World)
theorem run_append_src (t ty e : TypeId) (i : TypeInfo) (z : Value) (size bytes : Nat) (ht : P.underlying t = some (.slice e)) (hi : P.info? e = some i) (hz : i.zero = some z)
    (hsize : i.size = size) (hby : i.bytes = bytes) (hzs : z.cells.size = size) (hsz : 0 < size) (base : Nat)
    (v : Value) (n : Nat) (xs : List Value) (hown : w.ownsRow base e size v n xs)
    (A : Option Addr) (m c : Nat) (news : List Value) (hs : Src w size A m news) (h1 : ∀ u ∈ news, u.oneCell' = true)
    (h63 : n + m ≤ maxLen) (hbytes : (n + m) * bytes ≤ 140737488355328) (hbase : base ≤ w.heap.size) :
    ∃ v' w', (Builtin.append_ #[t, t] ty #[v, .slice A m c]).run P w = .ok v' w' ∧ w'.ownsRow base e size v' (n + m) (xs ++ news) ∧ w.grownBy w' v.ownBlock ∧ (v'.ownBlock = v.ownBlock ∨ v'.ownBlock = some w.heap.size) := by
  cases A with
  | some ad =>
    have hc : ∀ j u, news[j]? = some u → w.cell? (ad.add j) = some u := by
      intro j u hu
      by_cases h0 : m = 0
      · subst h0
        have : news = [] := List.eq_nil_of_length_eq_zero (by simpa using hs.1)
        subst this
        simp at hu
      · obtain ⟨ad', h, hc⟩ := hs.2 (by omega)
        simp only [Option.some.injEq] at h
        subst h
        exact hc j u hu
    obtain ⟨v', w', r1, r2, r3, _, r5⟩ := run_append_own_at (P := P) w base t ty e i z size bytes ht hi hz hsize hby hzs hsz v n xs hown ad m c news hs.1 hc h1 h63 hbytes hbase
    exact ⟨v', w', r1, r2, r3, r5⟩
  | none =>
    have h0 : m = 0 := by
      by_cases h : 0 < m
      · obtain ⟨_, h, _⟩ := hs.2 h
        cases h
      · omega
    subst h0
    have hn : news = [] := List.eq_nil_of_length_eq_zero (by simpa using hs.1)
    subst hn
    refine ⟨v, w, ?_, by simpa using hown, ⟨rfl, rfl, rfl, Nat.le_refl _, fun _ _ _ => rfl⟩, .inl rfl⟩
    rcases hown.2 with ⟨rfl, rfl⟩ | ⟨g, cap, cur, rfl, _, _, hle, _⟩
    · simp [Builtin.append_, run_underlying ht, sizeOf, typeInfo, hi, Builtin.lenOf, Builtin.firstCells]
    · simp [Builtin.append_, run_underlying ht, sizeOf, typeInfo, hi, Builtin.lenOf, Builtin.firstCells, hle, storeCells]
theorem wp_append_src {o : Oper} {a : Act} {K : Act → World → Prop} {Q : Exit → Act → World → Prop} (s x : Operand) (t : TypeId) (ho : o.op = .call { callee := .builtin .append, args := #[s, x], argTypes := #[t, t] })
    (e : TypeId) (i : TypeInfo) (z : Value) (size bytes : Nat) (ht : P.underlying t = some (.slice e)) (hi : P.info? e = some i) (hz : i.zero = some z)
    (hsize : i.size = size) (hby : i.bytes = bytes) (hzs : z.cells.size = size) (hsz : 0 < size) (base : Nat)
    (v : Value) (n : Nat) (xs : List Value) (hv : a.eval s = v) (hown : w.ownsRow base e size v n xs)
    (A : Option Addr) (m c : Nat) (news : List Value) (hx : a.eval x = .slice A m c) (hs : Src w size A m news) (h1 : ∀ u ∈ news, u.oneCell' = true)
    (h63 : n + m ≤ maxLen) (hbytes : (n + m) * bytes ≤ 140737488355328) (hbase : base ≤ w.heap.size)
    (h : ∀ v' w', w'.ownsRow base e size v' (n + m) (xs ++ news) → w.grownBy w' v.ownBlock → (v'.ownBlock = v.ownBlock ∨ v'.ownBlock = some w.heap.size) → K (a.put o.dst v') w') : o.wp P a w K Q := by
  obtain ⟨v', w', r1, r2, r3, r4⟩ := run_append_src (P := P) w t o.type e i z size bytes ht hi hz hsize hby hzs hsz base v n xs hown A m c news hs h1 h63 hbytes hbase
  unfold Oper.wp execOp
  simp only [ho, resolve, invoke, builtin, Sem.run_bind, Sem.run_pure, Result.andThen_ok, List.map_toArray, List.map_cons, List.map_nil, hv, hx, r1]
  exact h v' w' r2 r3 r4
theorem wpList_append_src {ops : Array Oper} {rest : List Oper} {o : Oper} {a : Act} {Q : Exit → Act → World → Prop} (hg : o.guard = none) (s x : Operand) (t : TypeId) (ho : o.op = .call { callee := .builtin .append, args := #[s, x], argTypes := #[t, t] })
    (e : TypeId) (i : TypeInfo) (z : Value) (size bytes : Nat) (ht : P.underlying t = some (.slice e)) (hi : P.info? e = some i) (hz : i.zero = some z)
    (hsize : i.size = size) (hby : i.bytes = bytes) (hzs : z.cells.size = size) (hsz : 0 < size) (base : Nat)
    (v : Value) (n : Nat) (xs : List Value) (hv : a.eval s = v) (hown : w.ownsRow base e size v n xs)
    (A : Option Addr) (m c : Nat) (news : List Value) (hx : a.eval x = .slice A m c) (hs : Src w size A m news) (h1 : ∀ u ∈ news, u.oneCell' = true)
    (h63 : n + m ≤ maxLen) (hbytes : (n + m) * bytes ≤ 140737488355328) (hbase : base ≤ w.heap.size)
    (h : ∀ v' w', w'.ownsRow base e size v' (n + m) (xs ++ news) → w.grownBy w' v.ownBlock → (v'.ownBlock = v.ownBlock ∨ v'.ownBlock = some w.heap.size) → wpList P ops Q rest (a.put o.dst v') w') : wpList P ops Q (o :: rest) a w :=
  wpList_plain hg fun _ hK => wp_append_src w s x t ho e i z size bytes ht hi hz hsize hby hzs hsz base v n xs hv hown A m c news hx hs h1 h63 hbytes hbase fun v' w' a b c => hK _ _ (h v' w' a b c)
end

theorem own_shape {w : World} {B e s n : Nat} {v : Value} {xs : List Value} (h : w.ownsRow B e s v n xs) : ∃ A c, v = .slice A n c := by
  rcases h.2 with ⟨rfl, rfl⟩ | ⟨g, cap, cur, rfl, _⟩
  · exact ⟨_, _, rfl⟩
  · exact ⟨_, _, rfl⟩
theorem own_base {w : World} {B D e s n : Nat} {v : Value} {xs : List Value} (h : w.ownsRow B e s v n xs) (hD : D ≤ B) : w.ownsRow D e s v n xs := by
  refine ⟨h.1, ?_⟩
  rcases h.2 with h | ⟨g, cap, cur, h1, h2, h3⟩
  · exact .inl h
  · exact .inr ⟨g, cap, cur, h1, Nat.le_trans hD h2, h3⟩
theorem owns_kept2 {w w' : World} {B e s n : Nat} {v : Value} {xs : List Value} (h : w.ownsRow B e s v n xs) (hk : ∀ g, v.ownBlock = some g → w'.heap[g]? = w.heap[g]?) : w'.ownsRow B e s v n xs := by
  refine ⟨h.1, ?_⟩
  rcases h.2 with h1 | ⟨g', cap, cur, rfl, h1, h2, h3⟩
  · exact .inl h1
  · exact .inr ⟨g', cap, cur, rfl, h1, (hk g' rfl).trans h2, h3⟩
theorem lent_cap {w : World} {B e s n g c m : Nat} {xs : List Value} (h : w.ownsRow B e s (.slice (some ⟨g, 0, none⟩) n c) m xs) : (m : Int) ≤ (c : Int) ∧ B ≤ g := by
  rcases h.2 with ⟨h2, _⟩ | ⟨g', cap, cur, h2, h3, h4, h5, _⟩
  · simp at h2
  · simp at h2
    obtain ⟨rfl, _, rfl⟩ := h2
    exact ⟨by omega, h3⟩

section
variable {P : Program} (w : World)
theorem step_append_src {ops : Array Oper} {o : Oper} {a : Act} {K : Act → World → Prop} {Q : Exit → Act → World → Prop} {E : Prop} (hg : o.guard = none) (s x : Operand) (t : TypeId) (ho : o.op = .call { callee := .builtin .append, args := #[s, x], argTypes := #[t, t] })
    (e : TypeId) (i : TypeInfo) (z : Value) (size bytes : Nat) (ht : P.underlying t = some (.slice e)) (hi : P.info? e = some i) (hz : i.zero = some z)
    (hsize : i.size = size) (hby : i.bytes = bytes) (hzs : z.cells.size = size) (hsz : 0 < size) (base : Nat)
    (v : Value) (n : Nat) (xs : List Value) (hv : a.eval s = v) (hown : w.ownsRow base e size v n xs)
    (A : Option Addr) (m c : Nat) (news : List Value) (hx : a.eval x = .slice A m c) (hs : Src w size A m news) (h1 : ∀ u ∈ news, u.oneCell' = true)
    (h63 : n + m ≤ maxLen) (hbytes : (n + m) * bytes ≤ 140737488355328) (hbase : base ≤ w.heap.size)
    (h : ∀ v' w', w'.ownsRow base e size v' (n + m) (xs ++ news) → w.grownBy w' v.ownBlock → (v'.ownBlock = v.ownBlock ∨ v'.ownBlock = some w.heap.size) → K (a.put o.dst v') w') :
    if Region.wanted o (yielded ops a.tmps) = true then Oper.wp P o a w K Q else E := by
  have hw : Region.wanted o (yielded ops a.tmps) = true := by simp [Region.wanted, hg]
  rw [if_pos hw]
  exact wp_append_src w s x t ho e i z size bytes ht hi hz hsize hby hzs hsz base v n xs hv hown A m c news hx hs h1 h63 hbytes hbase h
end
theorem getD_mem' {α : Type} {l : List α} {k : Nat} (d : α) (h : k < l.length) : l.getD k d ∈ l := by
  rw [List.getD_eq_getElem?_getD, List.getElem?_eq_getElem h]; exact List.getElem_mem h
theorem getD_at {α : Type} {l : List α} {k : Nat} {d : α} (h : k < l.length) : l.getD k d = l[k] := by simp [List.getD, h]
theorem take_snoc {α : Type} (l : List α) (k : Nat) (d : α) (h : k < l.length) : l.take (k + 1) = l.take k ++ [l.getD k d] := by
  rw [getD_at h, List.take_succ_eq_append_getElem h]
theorem cell_kept {C : Nat} {w w' : World} (hb : Below C w w') {b off : Nat} (hC : b < C) {v : Value} (h : w.cell? ⟨b, off, none⟩ = some v) : w'.cell? ⟨b, off, none⟩ = some v := (hb.cell (p := ⟨b, off, none⟩) hC).trans h
/-! Lists of texts. -/
def Txt (C : Nat) (w : World) (A : Option Addr) (n : Nat) (l : List BA) : Prop :=
  l.length = n ∧ n ≤ maxLen ∧ ∀ k, k < n → ∃ b off, A = some ⟨b, off, none⟩ ∧ b < C ∧ w.cell? ⟨b, off + k, none⟩ = some (.string (str (l.getD k []))) ∧ (l.getD k []).length ≤ maxLen
theorem Txt.kept {C : Nat} {w w' : World} {A : Option Addr} {n : Nat} {l : List BA} (h : Txt C w A n l) (hb : Below C w w') : Txt C w' A n l :=
  ⟨h.1, h.2.1, fun k hk => by
    obtain ⟨b, off, h1, h2, h3, h4⟩ := h.2.2 k hk
    exact ⟨b, off, h1, h2, cell_kept hb h2 h3, h4⟩⟩
theorem Txt.more {C D : Nat} {w : World} {A : Option Addr} {n : Nat} {l : List BA} (h : Txt C w A n l) (hD : C ≤ D) : Txt D w A n l :=
  ⟨h.1, h.2.1, fun k hk => by
    obtain ⟨b, off, h1, h2, h3⟩ := h.2.2 k hk
    exact ⟨b, off, h1, Nat.lt_of_lt_of_le h2 hD, h3⟩⟩
theorem Txt.nil (C : Nat) (w : World) (A : Option Addr) : Txt C w A 0 [] := ⟨rfl, Nat.zero_le _, fun k hk => absurd hk (Nat.not_lt_zero _)⟩
theorem Txt.len {C : Nat} {w : World} {A : Option Addr} {n : Nat} {l : List BA} (h : Txt C w A n l) : l.length = n := h.1
/-- The cells of a row of texts. -/
def tcs (l : List BA) : List Value := l.map fun x => Value.string (str x)
theorem tcs_length (l : List BA) : (tcs l).length = l.length := by simp [tcs]
theorem tcs_append (l m : List BA) : tcs (l ++ m) = tcs l ++ tcs m := by simp [tcs]
theorem tcs_one (l : List BA) : ∀ u ∈ tcs l, u.oneCell' = true := by
  intro u hu
  obtain ⟨x, _, rfl⟩ := List.mem_map.1 hu
  rfl
theorem tcs_get {l : List BA} {k : Nat} (h : k < l.length) : (tcs l)[k]? = some (.string (str (l.getD k []))) := by
  simp [tcs, List.getD, h]
/-- A row of texts of a call's own. -/
def OwnT (B : Nat) (w : World) (v : Value) (l : List BA) : Prop := w.ownsRow B 9 1 v l.length (tcs l)
theorem OwnT.nil (B : Nat) (w : World) : OwnT B w (.slice none 0 0) [] := World.ownsRow_nil _ _ _ _
theorem OwnT.kept {B : Nat} {w w' : World} {v : Value} {l : List BA} (h : OwnT B w v l) (hb : Below w.heap.size w w') : OwnT B w' v l := owns_kept2 h fun g hg => hb.block g (h.lt g hg).2
theorem OwnT.base {B D : Nat} {w : World} {v : Value} {l : List BA} (h : OwnT B w v l) (hD : D ≤ B) : OwnT D w v l := own_base h hD
theorem OwnT.shape {B : Nat} {w : World} {v : Value} {l : List BA} (h : OwnT B w v l) : ∃ A c, v = .slice A l.length c := own_shape h
theorem OwnT.txt {B : Nat} {w : World} {A : Option Addr} {n c : Nat} {l : List BA} (h : OwnT B w (.slice A n c) l) (hs : ∀ x ∈ l, x.length ≤ maxLen) (hm : l.length ≤ maxLen) : n = l.length ∧ Txt w.heap.size w A n l := by
  have hn : n = l.length := by
    rcases h.2 with ⟨h1, h2⟩ | ⟨g, cap, cur, h1, _⟩
    · simp only [Value.slice.injEq] at h1; omega
    · simp only [Value.slice.injEq] at h1; omega
  subst hn
  refine ⟨rfl, rfl, hm, fun k hk => ?_⟩
  rcases h.2 with ⟨h1, h2⟩ | ⟨g, cap, cur, h1, h2, h3, h4⟩
  · omega
  · simp only [Value.slice.injEq] at h1
    obtain ⟨rfl, _, rfl⟩ := h1
    have hc := h.cells (g := g) rfl _ _ (tcs_get hk)
    rw [add_plain] at hc
    exact ⟨g, 0, rfl, block_of_heap h3, hc, hs _ (getD_mem' _ hk)⟩
theorem OwnT.cap {B : Nat} {w : World} {A : Option Addr} {n c : Nat} {l : List BA} (h : OwnT B w (.slice A n c) l) : n ≤ c := by
  rcases h.2 with ⟨h1, h2⟩ | ⟨g, cap, cur, h1, h2, h3, h4, _⟩
  · simp only [Value.slice.injEq] at h1; omega
  · simp only [Value.slice.injEq] at h1; omega
theorem info_s : (Tryz.prog.info? 9).map (fun i => (i.zero, i.size, i.bytes)) = some (some (.string ⟨#[]⟩), 1, 16) := by kernel_rfl
theorem info_b : (Tryz.prog.info? 5).map (fun i => (i.zero, i.size, i.bytes)) = some (some (.int .u8 0), 1, 1) := by kernel_rfl
theorem str_toList (l : BA) : (str l).data.toList = l := rfl
theorem str_append (a b : BA) : str (a ++ b) = str a ++ str b := by
  apply ByteArray.ext
  simp [str, ByteArray.data_append]
theorem str_inj {a b : BA} (h : str a = str b) : a = b := by
  have := congrArg (fun s : ByteArray => s.data.toList) h
  exact this
theorem str_empty : str [] = ⟨#[]⟩ := rfl
/-- A text to bytes: a new block. -/
theorem to_bytes (w : World) (m : BA) : ∃ c w2, (convert 9 64 (.string (str m))).run Tryz.prog w = .ok (.slice (some ⟨w.heap.size, 0, none⟩) m.length c) w2 ∧
    (∀ k (hk : k < m.length), w2.cell? ⟨w.heap.size, k, none⟩ = some (.int .u8 ((m[k]'hk).toNat : Int))) ∧ Below w.heap.size w w2 ∧ m.length ≤ c ∧ w.heap.size < w2.heap.size := by
  refine ⟨_, _, run_bytes_of_string (P := Tryz.prog) w 9 64 5 (str m) Tryz.underlying9 Tryz.underlying64 Tryz.underlying5, fun k hk => ?_, (Below.refl _ _).drew.alloc (Nat.le_refl _) _, grownCap_ge _ _ _ _, by rw [World.size_alloc]; exact Nat.lt_succ_self _⟩
  have hh := World.cell?_alloc_mark w.drew (bytesRow (str m) (grownCap w (str m).size 0 5)) 5 ((bytesRow (str m) (grownCap w (str m).size 0 5)).size, (bytesRow (str m) (grownCap w (str m).size 0 5)).size + 1) k
  refine hh.trans ?_
  rw [bytesRow_at (str m) _ k (by simpa [str] using hk)]
  simp [str]
/-- A row of bytes of the call's own, as a string. -/
theorem own_string {w : World} {base n : Nat} {v : Value} {l : BA} (h : w.ownsRow base 5 1 v n (bcs l)) (hl : l.length = n) :
    (convert 64 9 v).run Tryz.prog w = .ok (.string (str l)) w := by
  subst hl
  rcases h.2 with ⟨rfl, hn⟩ | ⟨g, cap, cur, rfl, _⟩
  · have : l = [] := List.eq_nil_of_length_eq_zero hn
    subst this
    exact run_convert_bytes_nil w 64 5 Tryz.underlying64 Tryz.underlying5 0 0 9 Tryz.underlying9
  · exact run_convert_bytes_back w 64 9 5 ⟨g, 0, none⟩ cap l Tryz.underlying64 Tryz.underlying5 Tryz.underlying9 fun j hj => h.cells rfl j _ (by simp [bcs, List.getElem?_eq_getElem hj])
end Go.Proofs.YtbdpmfgphhgigaaGreat
