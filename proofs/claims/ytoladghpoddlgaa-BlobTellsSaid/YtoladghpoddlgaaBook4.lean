/- The book: its lists grown. -/
import Derived.Test.YtoladghpoddlgaaBook3
namespace Go.Proofs.Ytoladghpoddlgaa
open Go.ChangeShapes Go.WideShapes Go.ChangeAt Go.RowKit
set_option linter.unusedVariables false
set_option maxRecDepth 100000

/-! append: in its own place, or in a new one, and then nothing old has turned. -/
section
variable {P : Program} (w : World)
theorem run_append_parts (t ty e : TypeId) (i : TypeInfo) (z : Value) (size bytes : Nat) (ht : P.underlying t = some (.slice e)) (hi : P.info? e = some i) (hz : i.zero = some z)
    (hsize : i.size = size) (hby : i.bytes = bytes) (hzs : z.cells.size = size) (hsz : 0 < size) (base : Nat)
    (v : Value) (n : Nat) (xs : List Value) (hown : w.ownsRow base e size v n xs)
    (ad : Addr) (m c : Nat) (news : List Value) (hl : news.length = m * size) (hnews : ∀ j u, news[j]? = some u → w.cell? (ad.add j) = some u) (h1 : ∀ u ∈ news, u.oneCell' = true)
    (hm : 0 < m) (h63 : n + m ≤ maxLen) (hbytes : (n + m) * bytes ≤ 140737488355328) (hbase : base ≤ w.heap.size) :
    ∃ v' w', (Builtin.append_ #[t, t] ty #[v, .slice (some ad) m c]).run P w = .ok v' w' ∧ w'.ownsRow base e size v' (n + m) (xs ++ news) ∧
      ((v'.ownBlock = v.ownBlock ∧ w.grownBy w' v.ownBlock) ∨ (v'.ownBlock = some w.heap.size ∧ w.grownBy w' none)) := by
  obtain ⟨v', w', r1, r2, r3, _, r5⟩ := run_append_own_at (P := P) w base t ty e i z size bytes ht hi hz hsize hby hzs hsz v n xs hown ad m c news hl hnews h1 h63 hbytes hbase
  refine ⟨v', w', r1, r2, ?_⟩
  rcases r5 with r5 | r5
  · exact .inl ⟨r5, r3⟩
  · have grown : ∀ o, w.grownBy (w.drew.alloc o) none := fun o => ⟨rfl, rfl, rfl, by rw [World.size_alloc]; exact Nat.le_succ _, fun k hk _ => Below.heap_alloc w.drew o k hk⟩
    have h63' : n + m ≤ 9223372036854775807 := by simp only [maxLen] at h63; omega
    subst hsize hby
    rcases hown.2 with ⟨rfl, rfl⟩ | ⟨g, cap, cur, rfl, hbg, hg, hnc, hcm, hcs, htake⟩
    · have hr := run_append_nil (P := P) w t ty e i z ht hi hz ad m c news hl hnews hm (by omega) (by have := hbytes; simp only [Nat.zero_add] at this; omega)
      rw [r1] at hr
      simp only [Result.ok.injEq] at hr
      exact .inr ⟨r5, by rw [hr.2]; exact grown _⟩
    · by_cases hroom : n + m ≤ cap
      · have hfit : n * i.size + news.length ≤ cur.size := by rw [hl, hcs, ← Nat.add_mul]; exact Nat.mul_le_mul_right _ hroom
        have hr := run_append_room (P := P) w t ty e i ht hi g n cap cur hg ad m c news hl hnews h1 hroom hfit
        rw [r1] at hr
        simp only [Result.ok.injEq] at hr
        exact .inl ⟨by rw [hr.1]; rfl, r3⟩
      · have holds : ∀ j u, xs[j]? = some u → w.cell? ((⟨g, 0, none⟩ : Addr).add j) = some u := hown.cells (g := g) rfl
        have hr := run_append_grow (P := P) w t ty e i z ht hi hz ⟨g, 0, none⟩ n cap xs hown.1 holds ad m c news hl hnews (by omega) (by omega) (growslice_fits (by omega) hbytes)
        rw [r1] at hr
        simp only [Result.ok.injEq] at hr
        exact .inr ⟨r5, by rw [hr.2]; exact grown _⟩
theorem wpList_append_parts {ops : Array Oper} {rest : List Oper} {o : Oper} {a : Act} {Q : Exit → Act → World → Prop} (hgd : o.guard = none) (s x : Operand) (t : TypeId) (ho : o.op = .call { callee := .builtin .append, args := #[s, x], argTypes := #[t, t] })
    (e : TypeId) (i : TypeInfo) (z : Value) (size bytes : Nat) (ht : P.underlying t = some (.slice e)) (hi : P.info? e = some i) (hz : i.zero = some z)
    (hsize : i.size = size) (hby : i.bytes = bytes) (hzs : z.cells.size = size) (hsz : 0 < size) (base : Nat)
    (v : Value) (n : Nat) (xs : List Value) (hv : a.eval s = v) (hown : w.ownsRow base e size v n xs)
    (ad : Addr) (m c : Nat) (news : List Value) (hx : a.eval x = .slice (some ad) m c) (hl : news.length = m * size) (hnews : ∀ j u, news[j]? = some u → w.cell? (ad.add j) = some u) (h1 : ∀ u ∈ news, u.oneCell' = true)
    (hm : 0 < m) (h63 : n + m ≤ maxLen) (hbytes : (n + m) * bytes ≤ 140737488355328) (hbase : base ≤ w.heap.size)
    (h : ∀ v' w', w'.ownsRow base e size v' (n + m) (xs ++ news) → ((v'.ownBlock = v.ownBlock ∧ w.grownBy w' v.ownBlock) ∨ (v'.ownBlock = some w.heap.size ∧ w.grownBy w' none)) → wpList P ops Q rest (a.put o.dst v') w') : wpList P ops Q (o :: rest) a w :=
  wpList_plain hgd fun _ hK => by
    obtain ⟨v', w', r1, r2, r3⟩ := run_append_parts (P := P) w t o.type e i z size bytes ht hi hz hsize hby hzs hsz base v n xs hown ad m c news hl hnews h1 hm h63 hbytes hbase
    unfold Oper.wp execOp
    simp only [ho, resolve, invoke, builtin, Sem.run_bind, Sem.run_pure, Result.andThen_ok, List.map_toArray, List.map_cons, List.map_nil, hv, hx, r1]
    exact hK _ _ (h v' w' r2 r3)
end

/-- A list, read. -/
def RdL (w : World) (e : E) (l : List Pg) : Prop := e.n = l.length ∧ ∀ s, s < e.n → ∃ g, e.A = some ⟨g, 0, none⟩ ∧ g < w.heap.size ∧ PgAt w g (s * 4) (l.getD s nilP)
theorem Row.rd {w : World} {e : E} {l : List Pg} (h : Row w e.A e.n e.c l) : RdL w e l := ⟨h.1, fun s hs => by
  obtain ⟨g, h1, h2⟩ := h.at hs
  exact ⟨g, h1, World.block_lt_of_cell? w _ h2.1, h2⟩⟩
theorem RdL.kept {w w' : World} {e : E} {l : List Pg} (h : RdL w e l) (hz : w.heap.size ≤ w'.heap.size) (hk : ∀ g, e.own = some g → g < w.heap.size → w'.heap[g]? = w.heap[g]?) : RdL w' e l := ⟨h.1, fun s hs => by
  obtain ⟨g, h1, h2, h3⟩ := h.2 s hs
  exact ⟨g, h1, Nat.lt_of_lt_of_le h2 hz, by
    have hh := hk g (by unfold E.own E.val; rw [h1]; rfl) h2
    exact ⟨(World.cell?_of_block (w := w) hh).trans h3.1, (World.cell?_of_block (w := w) hh).trans h3.2.1, (World.cell?_of_block (w := w) hh).trans h3.2.2.1, (World.cell?_of_block (w := w) hh).trans h3.2.2.2⟩⟩⟩
theorem RdL.pgs {w : World} {e : E} {l : List Pg} (h : RdL w e l) (hs : Sz l) (hm : e.n ≤ maxLen) : Pgs w.heap.size w e.A l :=
  ⟨fun k hk => by
    obtain ⟨g, h1, h2, h3⟩ := h.2 k (by rw [h.1]; exact hk)
    exact ⟨g, 0, h1, h2, by rw [Nat.zero_add]; exact h3⟩, hs, by rw [← h.1]; exact hm⟩

/-- One list while it grows: v holds n + t marks; the list itself still reads as it did; all else from the round's start w0 on is as it was. -/
structure Growth (w0 : World) (e : E) (i t : Nat) (v : Value) (w : World) : Prop where
  own : w.ownsRow 0 26 4 v (e.n + t) (pcs (marks i 0 (e.n + t)))
  near : v.ownBlock = e.own ∨ ∃ g, w0.heap.size ≤ g ∧ v.ownBlock = some g
  rd : RdL w e (marks i 0 e.n)
  frame : w0.grownBy w e.own
theorem grown_trans2 {a b c : World} {o : Option Nat} (h : a.grownBy b o) (k : b.grownBy c o) : a.grownBy c o :=
  ⟨k.os.trans h.os, k.tape.trans h.tape, k.output.trans h.output, Nat.le_trans h.size k.size, fun i h1 h2 => (k.block i (Nat.lt_of_lt_of_le h1 h.size) h2).trans (h.block i h1 h2)⟩
theorem Growth.start {w0 : World} {e : E} {i : Nat} (h : Row w0 e.A e.n e.c (marks i 0 e.n)) : Growth w0 e i 0 e.val w0 := ⟨h.2, .inl rfl, h.rd, ⟨rfl, rfl, rfl, Nat.le_refl _, fun _ _ _ => rfl⟩⟩
theorem Growth.below {w0 : World} {e : E} {i t : Nat} {v : Value} {w w' : World} (h : Growth w0 e i t v w) (hb : Below w.heap.size w w') : Growth w0 e i t v w' :=
  ⟨owns_kept h.own fun g hg => hb.block g (h.own.lt g hg).2, h.near, h.rd.kept hb.size fun g _ hl => hb.block g hl, grown_trans2 h.frame ⟨hb.os, hb.tape, hb.output, hb.size, fun k hk _ => hb.block k hk⟩⟩
theorem Growth.step {w0 : World} {e : E} {i t m : Nat} {v v' : Value} {w w' : World} (h : Growth w0 e i t v w) (he : ∀ g, e.own = some g → g < w0.heap.size)
    (hown : w'.ownsRow 0 26 4 v' (e.n + t + m) (pcs (marks i 0 (e.n + t)) ++ pcs (marks i (e.n + t) m)))
    (hp : (v'.ownBlock = v.ownBlock ∧ w.grownBy w' v.ownBlock) ∨ (v'.ownBlock = some w.heap.size ∧ w.grownBy w' none)) : Growth w0 e i (t + m) v' w' := by
  have hown' : w'.ownsRow 0 26 4 v' (e.n + (t + m)) (pcs (marks i 0 (e.n + (t + m)))) := by
    rw [← Nat.add_assoc, marks_add, Nat.zero_add, pcs_append]
    exact hown
  have hsz0 : w0.heap.size ≤ w.heap.size := h.frame.size
  rcases hp with ⟨hv, hg⟩ | ⟨hv, hg⟩
  · rcases h.near with hn | ⟨g, g1, g2⟩
    · refine ⟨hown', .inl (hv.trans hn), ⟨h.rd.1, fun s hs => ?_⟩, grown_trans2 h.frame (by rw [← hn]; exact hg)⟩
      obtain ⟨g, a1, a2, _⟩ := h.rd.2 s hs
      have ho : v'.ownBlock = some g := by rw [hv, hn]; unfold E.own E.val; rw [a1]; rfl
      refine ⟨g, a1, Nat.lt_of_lt_of_le a2 hg.size, ?_⟩
      rw [marks_getD _ _ _ _ hs, Nat.zero_add]
      obtain ⟨q0, q1, q2, q3⟩ := pcs_get (marks i 0 (e.n + (t + m))) s (by rw [marks_length]; omega)
      rw [marks_getD _ _ _ _ (show s < e.n + (t + m) by omega), Nat.zero_add] at q0 q1 q2 q3
      have p0 := hown'.cells ho (s * 4) _ q0
      have p1 := hown'.cells ho (s * 4 + 1) _ q1
      have p2 := hown'.cells ho (s * 4 + 2) _ q2
      have p3 := hown'.cells ho (s * 4 + 3) _ q3
      rw [add_plain, Nat.zero_add] at p0 p1 p2 p3
      exact ⟨p0, p1, p2, p3⟩
    · have hne : e.own ≠ v.ownBlock := fun hh => by
        have := he g (hh.trans g2)
        omega
      refine ⟨hown', .inr ⟨g, g1, hv.trans g2⟩, h.rd.kept hg.size fun q hq hl => hg.block q hl (fun hh => hne (hq.trans hh)), ⟨hg.os.trans h.frame.os, hg.tape.trans h.frame.tape, hg.output.trans h.frame.output, Nat.le_trans h.frame.size hg.size, fun q h1 h2 => (hg.block q (Nat.lt_of_lt_of_le h1 hsz0) (fun hh => ?_)).trans (h.frame.block q h1 h2)⟩⟩
      rw [g2] at hh
      simp only [Option.some.injEq] at hh
      omega
  · refine ⟨hown', .inr ⟨_, hsz0, hv⟩, h.rd.kept hg.size fun q hq hl => hg.block q hl (by simp), ⟨hg.os.trans h.frame.os, hg.tape.trans h.frame.tape, hg.output.trans h.frame.output, Nat.le_trans h.frame.size hg.size, fun q h1 h2 => (hg.block q (Nat.lt_of_lt_of_le h1 hsz0) (by simp)).trans (h.frame.block q h1 h2)⟩⟩

/-- The lists while they grow: the first i have grown into gs. -/
structure Grown (es : List E) (w0 : World) (i : Nat) (out : Value) (gs : List E) (w : World) : Prop where
  len : gs.length = i
  out : w.ownsRow w0.heap.size 23 1 out i (gs.map E.val)
  new : ∀ j, j < i → (gs.getD j e0).n = (es.getD j e0).n + 72 ∧ Row w (gs.getD j e0).A (gs.getD j e0).n (gs.getD j e0).c (marks j 0 ((es.getD j e0).n + 72)) ∧ ((gs.getD j e0).own = (es.getD j e0).own ∨ ∃ g, w0.heap.size ≤ g ∧ (gs.getD j e0).own = some g)
  old : ∀ j, j < i → RdL w (es.getD j e0) (marks j 0 (es.getD j e0).n)
  rest : ∀ j, i ≤ j → j < es.length → Row w (es.getD j e0).A (es.getD j e0).n (es.getD j e0).c (marks j 0 (es.getD j e0).n)
  kept : KeptE es w0 w
theorem Grown.below {es : List E} {w0 : World} {i : Nat} {out : Value} {gs : List E} {w w' : World} (h : Grown es w0 i out gs w) (hb : Below w.heap.size w w') : Grown es w0 i out gs w' :=
  ⟨h.len, owns_kept h.out fun g hg => hb.block g (h.out.lt g hg).2, fun j hj => ⟨(h.new j hj).1, (h.new j hj).2.1.below hb, (h.new j hj).2.2⟩, fun j hj => (h.old j hj).kept hb.size fun g _ hl => hb.block g hl, fun j h1 h2 => (h.rest j h1 h2).below hb, h.kept.trans (KeptE.of_below hb)⟩
theorem grown_next {es : List E} {w0 : World} {i : Nat} {out out' : Value} {gs : List E} {wr w w' : World} {A : Option Addr} {c : Nat} {ob : Obj} (h : Grown es w0 i out gs wr) (hf : Far es) (hi : i < es.length) (hes : ∀ e ∈ es, ∀ g, e.own = some g → g < w0.heap.size)
    (hg : Growth wr (es.getD i e0) i 72 (.slice A ((es.getD i e0).n + 72) c) w) (hw : w'.ownsRow w0.heap.size 23 1 out' (i + 1) (gs.map E.val ++ [.slice A ((es.getD i e0).n + 72) c])) (hk : (w.alloc ob).grownBy w' out.ownBlock) :
    Grown es w0 (i + 1) out' (gs ++ [⟨A, (es.getD i e0).n + 72, c⟩]) w' := by
  have hsz : w0.heap.size ≤ wr.heap.size := h.kept.2.2.2.1
  have hsz1 : wr.heap.size ≤ w.heap.size := hg.frame.size
  have hsz2 : w.heap.size ≤ w'.heap.size := by have := hk.size; rw [World.size_alloc] at this; omega
  -- a block of wr, other than the list's own and out's, is as it was
  have far1 : ∀ g, g < wr.heap.size → (es.getD i e0).own ≠ some g → w.heap[g]? = wr.heap[g]? := fun g h1 h2 => hg.frame.block g h1 (fun e => h2 e.symm)
  have far2 : ∀ g, g < w.heap.size → out.ownBlock ≠ some g → w'.heap[g]? = w.heap[g]? := fun g h1 h2 => (hk.block g (by rw [World.size_alloc]; omega) (fun e => h2 e.symm)).trans (Below.heap_alloc w ob g h1)
  have outw : w.ownsRow w0.heap.size 23 1 out i (gs.map E.val) := owns_kept h.out fun g hgo => far1 g (h.out.lt g hgo).2 fun he => by
    obtain ⟨cur, hc⟩ := owns_block h.out hgo
    obtain ⟨cur', hc'⟩ := row_block (h.rest i (Nat.le_refl _) hi) he
    rw [hc] at hc'
    simp at hc'
  have low : ∀ g, g < w0.heap.size → out.ownBlock ≠ some g := fun g hg' e => by have := (h.out.lt g e).1; omega
  -- a row of numbers of w stays
  have rowst : ∀ {B : Option Addr} {n d : Nat} {l : List Pg}, Row w B n d l → Row w' B n d l := fun hr => hr.keep fun g hgo => far2 g (hr.2.lt g hgo).2 fun he => by
    obtain ⟨cur, hc⟩ := owns_block outw he
    obtain ⟨cur', hc'⟩ := row_block hr hgo
    rw [hc] at hc'
    simp at hc'
  refine ⟨by simp [h.len], by rw [List.map_append]; exact hw, fun j hj => ?_, fun j hj => ?_, fun j h1 h2 => ?_, ?_⟩
  · by_cases hji : j < i
    · rw [getD_lt _ _ _ _ (by rw [h.len]; exact hji)]
      obtain ⟨n1, n2, n3⟩ := h.new j hji
      refine ⟨n1, rowst (n2.keep fun g hgo => far1 g (n2.2.lt g hgo).2 fun he => ?_), n3⟩
      rcases n3 with n3 | ⟨q, q1, q2⟩
      · exact (hf.at (show j < es.length by omega) hi (by omega)) g (n3.symm.trans hgo) he
      · have e1 : q = g := by have := q2.symm.trans hgo; simpa using this
        have := hes _ (getE_mem hi) g he
        omega
    · have : j = i := by omega
      subst this
      have e1 := getD_last gs (⟨A, (es.getD j e0).n + 72, c⟩ : E)
      rw [h.len] at e1
      rw [e1]
      refine ⟨rfl, rowst ⟨(marks_length _ _ _).symm, hg.own⟩, ?_⟩
      rcases hg.near with hn | ⟨q, q1, q2⟩
      · exact .inl hn
      · exact .inr ⟨q, by omega, q2⟩
  · by_cases hji : j < i
    · refine ((h.old j hji).kept hsz1 fun g hgo hl => far1 g hl ?_).kept hsz2 fun g hgo hl => far2 g hl (low g (hes _ (getE_mem (by omega)) g hgo))
      exact (hf.at (show j < es.length by omega) hi (by omega)) g hgo
    · have : j = i := by omega
      subst this
      exact hg.rd.kept hsz2 fun g hgo hl => far2 g hl (low g (hes _ (getE_mem hi) g hgo))
  · have hr := h.rest j (by omega) h2
    exact rowst (hr.keep fun g hgo => far1 g (hr.2.lt g hgo).2 ((hf.at h2 hi (by omega)) g hgo))
  · obtain ⟨k1, k2, k3, k4, k5⟩ := h.kept
    refine ⟨(hk.os.trans hg.frame.os).trans k1, (hk.tape.trans hg.frame.tape).trans k2, (hk.output.trans hg.frame.output).trans k3, by omega, fun g h1 h2 => ?_⟩
    exact ((far2 g (by omega) (low g h1)).trans (far1 g (by omega) (h2 _ (getE_mem hi)))).trans (k5 g h1 h2)
theorem marks_src {w : World} {B : Nat} {A : Option Addr} {m c i a : Nat} (h : w.ownsRow B 26 4 (.slice A m c) m (pcs (marks i a m))) (hm : 0 < m) : ∃ g, A = some ⟨g, 0, none⟩ ∧ ∀ j u, (pcs (marks i a m))[j]? = some u → w.cell? ((⟨g, 0, none⟩ : Addr).add j) = some u := by
  rcases h.2 with ⟨_, h0⟩ | ⟨g, cap, cur, h1, _⟩
  · omega
  · simp only [Value.slice.injEq] at h1
    obtain ⟨rfl, _, rfl⟩ := h1
    exact ⟨g, rfl, h.cells (g := g) rfl⟩

/-- What growPages leaves. -/
def GrownAll (es : List E) (w : World) (e : Ending) (w' : World) : Prop := ∃ A c gs, e = .returned (.slice A es.length c) ∧ Grown es w es.length (.slice A es.length c) gs w'

set_option maxHeartbeats 4000000 in
theorem grow_walk (C b : Nat) (es fs : List E) (w : World) (h1 : BookAt C w b es fs) (h2 : Conts w es (fun j => marks j 0 (es.getD j e0).n)) (h4 : Far es) (hk : es.length ≤ 200) (hsz : ∀ i, i < es.length → (es.getD i e0).n ≤ 100000) :
    Calls Try.prog 56 #[ptr b] w fun e w' => GrownAll es w e w' := by
  obtain ⟨i0, hi0, hz0, hz1, hz2⟩ := info_parts info_p
  obtain ⟨j0, hj0, yz0, yz1, yz2⟩ := info_parts infoL
  have HS := Lib.hid hsz
  have H2 := Lib.hid h2
  have H4 := Lib.hid h4
  have HES : Hid (∀ e ∈ es, ∀ g, e.own = some g → g < w.heap.size) := fun e he g hg => by
    obtain ⟨i, hi, rfl⟩ := List.getElem_of_mem he
    have hr := h2 i hi
    have e1 : es.getD i e0 = es[i] := by simp [List.getD, hi]
    rw [e1] at hr
    exact row_own_lt hr hg
  have H0 : Hid (Grown es w 0 (.slice none 0 0) [] w) := ⟨rfl, World.ownsRow_nil _ _ _ _, fun j hj => by omega, fun j hj => by omega, fun j _ hj => h2 j hj, KeptE.refl _ _⟩
  obtain ⟨k, hk2⟩ : ∃ k, es.length = k := ⟨_, rfl⟩
  have HK := Lib.hid hk2
  obtain ⟨hCb, v, u, kv, ku, g1, g2, g3, g4⟩ := h1
  obtain ⟨c0, _, _⟩ := bval w g1
  have hnb := conts_type h2 g1 (by decide)
  obtain ⟨Av, cv, rfl⟩ := own_shape g2
  rw [hk2] at hk g2 c0
  have C0 := Lib.hid c0
  have HNB := Lib.hid hnb
  have G2 := Lib.hid g2
  have hN : (k : Int) ≤ 200 := by omega
  clear h2 h4 hsz hk2 hCb kv ku g1 g2 g3 g4 c0 hnb
  go_enter Try.func56, Try.ntmps56
  go_wp2_with fail
  go_loopw [3, 4] (fun o x wr => ∃ i : Nat, i ≤ k ∧ x = .int .i64 i ∧ ∃ A c gs, o = .slice A i c ∧ Grown es w i (.slice A i c) gs wr) (fun _ x _ => k - (intOf x).toNat)
  case atStart => exact ⟨0, Nat.zero_le _, rfl, _, _, _, rfl, H0.out⟩
  case round =>
    obtain ⟨i, hi, rfl, Ao, co, gs, rfl, hq⟩ := hrel
    have HQ := Lib.hid hq
    clear hq
    have c0 := HQ.out.kept.cell C0.out HNB.out
    have b0 : (0 : Int) ≤ (i : Int) := by omega
    by_cases hlt : i < k
    · have b1 : (i : Int) < (k : Int) := by omega
      obtain ⟨gv, rfl, hgv, cew⟩ := owns_entry G2.out hlt
      have hil : i < es.length := by rw [HK.out]; exact hlt
      have hz := HS.out i hil
      obtain ⟨cur, hcur⟩ := own_entry_block G2.out rfl
      have hng := conts_type H2.out hcur (by decide)
      have HST := Lib.hid (Growth.start (HQ.out.rest i (Nat.le_refl _) hil))
      have HLT := Lib.hid (fun g (hg : (es.getD i e0).own = some g) => Nat.lt_of_lt_of_le (HES.out _ (getE_mem hil) g hg) HQ.out.kept.2.2.2.1)
      have HOUT := Lib.hid HQ.out.out
      have HOF : Hid (∀ {w2 : World}, wr.grownBy w2 (es.getD i e0).own → w2.ownsRow w.heap.size 23 1 (.slice Ao i co) i (gs.map E.val)) := fun hg => owns_kept HOUT.out fun g hgo => hg.block g (HOUT.out.lt g hgo).2 fun he => by
        obtain ⟨cur, hc⟩ := owns_block HOUT.out hgo
        obtain ⟨cur', hc'⟩ := row_block (HQ.out.rest i (Nat.le_refl _) hil) he.symm
        rw [hc] at hc'
        simp at hc'
      have HNX : Hid (∀ {out' : Value} {w2 w3 : World} {A : Option Addr} {c : Nat} {ob : Obj}, Growth wr (es.getD i e0) i 72 (.slice A ((es.getD i e0).n + 72) c) w2 → w3.ownsRow w.heap.size 23 1 out' (i + 1) (gs.map E.val ++ [.slice A ((es.getD i e0).n + 72) c]) → (w2.alloc ob).grownBy w3 (Value.slice Ao i co).ownBlock → Grown es w (i + 1) out' (gs ++ [⟨A, (es.getD i e0).n + 72, c⟩]) w3) :=
        fun a b c => grown_next HQ.out H4.out hil HES.out a b c
      obtain ⟨e, hee⟩ : ∃ e, es.getD i e0 = e := ⟨_, rfl⟩
      rw [hee] at cew hz HST HLT HNX HOF
      have ce := HQ.out.kept.cell cew hng
      have hFr : Hid (∀ {w2 : World}, wr.grownBy w2 e.own → w2.cell? ⟨b, 6, none⟩ = some (.slice (some ⟨gv, 0, none⟩) k cv)) := fun hg => (World.cell?_of_block (w := wr) (hg.block b (World.block_lt_of_cell? wr _ c0) (fun hh => HNB.out e (by rw [← hee]; exact getE_mem hil) hh.symm))).trans c0
      obtain ⟨eA, eN, eC⟩ := e
      simp only at cew hz ce
      have HE0 : Hid (Growth wr ⟨eA, eN, eC⟩ i 0 (.slice eA eN eC) wr) := HST.out
      have hzz : (eN : Int) ≤ 100000 := by omega
      clear hee hil cew hcur hng HST
      go_wp2_with fail
      go_loopw [5, 6] (fun l x w2 => ∃ t : Nat, t ≤ 12 ∧ x = .int .i64 t ∧ ∃ A c, l = .slice A (eN + t) c ∧ Growth wr ⟨eA, eN, eC⟩ i t (.slice A (eN + t) c) w2) (fun _ x _ => 12 - (intOf x).toNat)
      case atStart => exact ⟨0, by omega, rfl, eA, eC, rfl, HE0.out⟩
      case round =>
        obtain ⟨t, ht, rfl, Al, cl, rfl, hq⟩ := hrel
        have HG := Lib.hid hq
        clear hq
        have t0 : (0 : Int) ≤ (t : Int) := by omega
        have t1 : (t : Int) ≤ 12 := by omega
        by_cases htl : t < 12
        · have t2 : (t : Int) < 12 := by omega
          have hc := hFr.out HG.out.frame
          have HM := Lib.hid (marks_any i 1 wr (by omega) (by omega) (eN + t) (by omega))
          have e3 : ((eN + t : Nat) : Int) = (eN : Int) + (t : Int) := by omega
          rw [e3] at HM
          clear e3
          go_wp2_with fail
          refine HM.out.mono ?_; rintro e w3 ⟨Am, cm, rfl, hm, hb2⟩
          have HG3 := Lib.hid (HG.out.below hb2)
          obtain ⟨gm, rfl, hsrc⟩ := marks_src hm (by omega)
          have HSR := Lib.hid hsrc
          clear hm hb2 hsrc
          go_wp2_with (at_builtin; refine wpList_append_parts _ rfl _ _ 23 rfl 26 i0 (.agg #[.int .i64 0, .int .i64 0, .int .i64 0, .string ⟨#[]⟩]) 4 40 Try.underlying23 hi0 hz0 hz1 hz2 rfl (by decide) 0 _ _ _ rfl HG3.out.own ⟨gm, 0, none⟩ 1 cm _ rfl (by rw [pcs_length, marks_length]) HSR.out (pcs_one _) (by omega) (by unfold maxLen; simp only; omega) (by simp only; omega) (Nat.zero_le _) ?_; intro v' w4 hown hp; obtain ⟨A4, c4, rfl⟩ := own_shape hown)
          have HN := Lib.hid (HG3.out.step HLT.out hown hp)
          clear hown hp
          go_roundw
          case rel => exact ⟨t + 1, by omega, by go_num, A4, c4, rfl, HN.out⟩
          case measure => simp [intOf]; omega
        · obtain rfl : t = 12 := by omega
          have HM := Lib.hid (marks_any i 60 wr (by omega) (by omega) (eN + 12) (by omega))
          have e3 : ((eN + 12 : Nat) : Int) = (eN : Int) + 12 := by omega
          rw [e3] at HM
          clear e3
          have hil2 : (i : Int) ≤ 200 := by omega
          go_wp2_with fail
          refine HM.out.mono ?_; rintro e w3 ⟨Am, cm, rfl, hm, hb2⟩
          have HG3 := Lib.hid (HG.out.below hb2)
          obtain ⟨gm, rfl, hsrc⟩ := marks_src hm (by omega)
          have HSR := Lib.hid hsrc
          clear hm hb2 hsrc
          go_wp2_with (first
            | (at_builtin; refine wpList_append_parts _ rfl (.tmp 34) (.tmp 38) 23 rfl 26 i0 (.agg #[.int .i64 0, .int .i64 0, .int .i64 0, .string ⟨#[]⟩]) 4 40 Try.underlying23 hi0 hz0 hz1 hz2 rfl (by decide) 0 (.slice Al (eN + 12) cl) (eN + 12) _ rfl HG3.out.own ⟨gm, 0, none⟩ 60 cm _ rfl (by rw [pcs_length, marks_length]) HSR.out (pcs_one _) (by omega) (by unfold maxLen; omega) (by omega) (Nat.zero_le _) ?_; intro v' w4 hown hp; obtain ⟨A4, c4, rfl⟩ := own_shape hown; have HN := Lib.hid (HG3.out.step HLT.out hown hp); have hout := HOF.out HN.out.frame)
            | (at_builtin; refine wpList_append_own _ rfl (.tmp 33) (.tmp 40) 39 rfl w.heap.size 23 j0 (.slice none 0 0) 1 24 Try.underlying39 hj0 yz0 yz1 yz2 rfl (by decide) (.slice Ao i co) i _ rfl (hout.alloc _) ⟨w4.heap.size, 0, none⟩ 1 1 [.slice A4 (eN + 12 + 60) c4] rfl rfl (cell_one_new _ _ _) (by intro x hx; simp at hx; subst hx; rfl) (by unfold maxLen; omega) (by omega) (by have := HQ.out.kept.2.2.2.1; have := HN.out.frame.size; simp; omega) ?_; intro v5 w5 hown5 hgrow5 _; obtain ⟨A5, c5, rfl⟩ := own_shape hown5))
          have HX := Lib.hid (HNX.out HN.out hown5 hgrow5)
          clear hout hown5 hgrow5 hown hp
          go_wp2_with fail
          go_roundw
          case rel => exact ⟨i + 1, by omega, by go_num, A5, c5, _, rfl, HX.out⟩
          case measure => simp [intOf]; omega
    · obtain rfl : i = k := by omega
      go_wp2_with fail
      go_ret
      refine ⟨Ao, co, gs, by rw [HK.out]; rfl, ?_⟩
      rw [HK.out]
      exact HQ.out
end Go.Proofs.Ytoladghpoddlgaa
