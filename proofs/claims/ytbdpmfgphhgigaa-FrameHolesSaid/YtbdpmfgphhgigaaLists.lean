/- Lists of lists of texts, numbers and flags that came in; batches one behind the other. -/
import Derived.Test.YtbdpmfgphhgigaaBase
import Derived.Deep.Slices
import Derived.Deep.Grids
import Derived.ChangeSlices
namespace Go.Proofs.Ytbdpmfgphhgigaa
open Go.ChangeShapes Go.WideShapes Go.ChangeAt Go.RowKit Go.Joins
set_option linter.unusedVariables false
set_option linter.unusedSimpArgs false
set_option maxRecDepth 100000
theorem choose_l {α : Type} (nil : α) {P : Nat → α → Prop} : ∀ {n : Nat}, (∀ k, k < n → ∃ o, P k o) → ∃ l : List α, l.length = n ∧ ∀ k, k < n → P k (l.getD k nil)
  | 0, _ => ⟨[], rfl, fun k hk => by omega⟩
  | n + 1, h => by
    obtain ⟨l, hl, hp⟩ := choose_l nil (n := n) fun k hk => h k (by omega)
    obtain ⟨o, ho⟩ := h n (by omega)
    refine ⟨l ++ [o], by simp [hl], fun k hk => ?_⟩
    by_cases e : k < n
    · have : (l ++ [o]).getD k nil = l.getD k nil := by simp [List.getD, List.getElem?_append_left (show k < l.length by omega)]
      rw [this]
      exact hp k e
    · obtain rfl : k = n := by omega
      have : (l ++ [o]).getD k nil = o := by simp [List.getD, hl]
      rw [this]
      exact ho
/-- A slice of slices of texts that came in. -/
def Tll (C : Nat) (w : World) (A : Option Addr) (n : Nat) (ls : List (List BA)) : Prop :=
  ls.length = n ∧ n ≤ maxLen ∧ ∀ k, k < n → ∃ b off, A = some ⟨b, off, none⟩ ∧ b < C ∧ ∃ A1 n1 c1, w.cell? ⟨b, off + k, none⟩ = some (.slice A1 n1 c1) ∧ Txt C w A1 n1 (ls.getD k [])
theorem Tll.kept {C : Nat} {w w' : World} {A : Option Addr} {n : Nat} {ls : List (List BA)} (h : Tll C w A n ls) (hb : Below C w w') : Tll C w' A n ls :=
  ⟨h.1, h.2.1, fun k hk => by
    obtain ⟨b, off, h1, h2, A1, n1, c1, h3, h4⟩ := h.2.2 k hk
    exact ⟨b, off, h1, h2, A1, n1, c1, cell_kept hb h2 h3, h4.kept hb⟩⟩
theorem txt_any {H : Type} {enc : TypeId × Value → H} {W : World} {v : Value} {base fuel : Nat} {sp : Nat → Bool} {hd : Bool} {d : DataW H} {ps : List MemPlace}
    (h : DataW.trod enc Try.prog W base sp hd fuel 25 [v] = some (d, ps)) (hsp : ∀ b, sp b = true) : ∃ A n c l, v = .slice A n c ∧ Txt W.heap.size W A n l ∧
      ∀ n, (∀ m ∈ DataW.weights Try.prog 25 d, m ≤ n) → ∀ s ∈ l, s.length ≤ n := by
  have hv : ∃ A n c, v = .slice A n c := by
    rcases open_strings Try.underlying25 Try.underlying9 (by kernel_rfl) h with ⟨hcs, _⟩ | ⟨a, len', cap', ss, hcs, _⟩
    · simp at hcs
      exact ⟨_, _, _, hcs⟩
    · simp at hcs
      exact ⟨_, _, _, hcs⟩
  obtain ⟨A, n, c, rfl⟩ := hv
  obtain ⟨l, h1, _, _, h2⟩ := txt_read h hsp
  exact ⟨A, n, c, l, rfl, h1, h2⟩
theorem tll_read {H : Type} {enc : TypeId × Value → H} {W : World} {A : Option Addr} {len cap base fuel : Nat} {sp : Nat → Bool} {hd : Bool} {d : DataW H} {ps : List MemPlace}
    (h : DataW.trod enc Try.prog W base sp hd fuel 22 [.slice A len cap] = some (d, ps)) (hsp : ∀ b, sp b = true) : ∃ l, Tll W.heap.size W A len l ∧ len ≤ cap ∧ cap ≤ maxLen ∧
      ∀ n, (∀ m ∈ DataW.weights Try.prog 22 d, m ≤ n) → ∀ t ∈ l, ∀ s ∈ t, s.length ≤ n := by
  have hce : Try.prog.cellsOf 25 = 1 := by kernel_rfl
  rcases Go.Deep.open_slice1 Try.underlying22 hce h with ⟨hcs, _⟩ | ⟨a, len', cap', m, n, V, D, Pl, hcs, _, hl, hm, hmm, hx, hi⟩
  · simp at hcs
    obtain ⟨rfl, rfl, rfl⟩ := hcs
    exact ⟨[], ⟨rfl, by unfold maxLen; omega, fun k hk => by omega⟩, by omega, by unfold maxLen; omega, fun _ _ t ht => by simp at ht⟩
  · simp at hcs
    obtain ⟨rfl, rfl, rfl⟩ := hcs
    have hmm' : m = cap := by rw [hmm, hsp a.block]; simp
    subst hmm'
    have each : ∀ k, k < len → ∃ o : List BA, (∃ b off, (some a : Option Addr) = some ⟨b, off, none⟩ ∧ b < W.heap.size ∧ ∃ A1 n1 c1, W.cell? ⟨b, off + k, none⟩ = some (.slice A1 n1 c1) ∧ Txt W.heap.size W A1 n1 o) ∧ ∀ n, (∀ m ∈ DataW.weights Try.prog 25 (D k), m ≤ n) → ∀ s ∈ o, s.length ≤ n := by
      intro k hk
      obtain ⟨hc, ht⟩ := hi k (by omega)
      obtain ⟨h0, _⟩ := hi 0 (by omega)
      obtain ⟨b, off, spot⟩ := a
      have hspot : spot = none := by simpa [Addr.add] using World.cell?_spot h0
      subst hspot
      rw [add_plain] at hc
      obtain ⟨A1, n1, c1, l, hv, ht1, hw⟩ := txt_any ht hsp
      rw [hv] at hc
      exact ⟨l, ⟨b, off, rfl, World.block_lt_of_cell? W _ hc, A1, n1, c1, hc, ht1⟩, hw⟩
    obtain ⟨l, hl1, hl2⟩ := choose_l [] each
    refine ⟨l, ⟨hl1, by omega, fun k hk => (hl2 k hk).1⟩, hl, hm, fun N hall t ht s hs => ?_⟩
    obtain ⟨k, hk, e⟩ := List.mem_iff_getElem.1 ht
    have hk2 : k < len := by omega
    have e2 : l.getD k [] = t := by rw [List.getD_eq_getElem?_getD, List.getElem?_eq_getElem hk, e]; rfl
    refine (hl2 k hk2).2 N (fun m hm => hall m ?_) s (by rw [e2]; exact hs)
    simp only [Prod.mk.injEq] at hx
    obtain ⟨rfl, _⟩ := hx
    simp only [DataW.weights, Try.underlying22, List.mem_cons, List.mem_append]
    exact .inr (.inl (weights_all (d := D k) (List.mem_map.2 ⟨k, List.mem_range.2 hk2, rfl⟩) _ hm))
theorem tll_sized {H : Type} {ts : List TypeId} {ds : List (DataW H)} {i : Nat} {d : DataW H} {l : List (List BA)} (hz : ∀ n, (∀ m ∈ DataW.weights Try.prog 22 d, m ≤ n) → ∀ t ∈ l, ∀ s ∈ t, s.length ≤ n)
    (hall : (DataW.weightsEach Try.prog ts ds).all (· ≤ reachBytes) = true) (ht : ts[i]? = some 22) (hd : ds[i]? = some d) : ∀ t ∈ l, ∀ s ∈ t, s.length ≤ 140737488351232 := by
  refine hz _ fun m hm => ?_
  have := List.all_eq_true.1 hall _ (DataW.weights_mem_each ht hd _ hm)
  exact of_decide_eq_true this
theorem ints_read {H : Type} {enc : TypeId × Value → H} {W : World} {A : Option Addr} {len cap base fuel : Nat} {sp : Nat → Bool} {hd : Bool} {x : DataW H × List MemPlace}
    (h : DataW.trod enc Try.prog W base sp hd fuel 23 [.slice A len cap] = some x) (hsp : ∀ b, sp b = true) : ∃ l, Ints W A len l ∧ len ≤ cap ∧ cap ≤ maxLen := by
  rcases open_ints Try.underlying23 Try.underlying3 (by kernel_rfl) h with ⟨hcs, _⟩ | ⟨a, len', cap', zs, hcs, _, hl, hm, hz, _, hcell, hwz⟩
  · simp at hcs
    obtain ⟨rfl, rfl, rfl⟩ := hcs
    exact ⟨[], ⟨rfl, fun k hk => by omega⟩, by omega, by unfold maxLen; omega⟩
  · simp at hcs
    obtain ⟨rfl, rfl, rfl⟩ := hcs
    rw [hsp] at hz
    simp only [if_true] at hz
    refine ⟨zs.take len, ⟨by rw [List.length_take]; omega, fun k hk => ?_⟩, hl, hm⟩
    have hc := hcell k (by omega)
    have h0 := hcell 0 (by omega)
    obtain ⟨b, off, spot⟩ := a
    have hspot : spot = none := by simpa [Addr.add] using World.cell?_spot h0
    subst hspot
    rw [add_plain] at hc
    have e : (zs.take len).getD k 0 = zs.getD k 0 := by
      rw [List.getD_eq_getElem?_getD, List.getD_eq_getElem?_getD, List.getElem?_take, if_pos hk]
    have hkz : k < zs.length := by omega
    have hw := int_range (hwz (zs.getD k 0) (by rw [List.getD_eq_getElem?_getD, List.getElem?_eq_getElem hkz]; exact List.getElem_mem hkz))
    refine ⟨b, off, rfl, World.block_lt_of_cell? W _ hc, ?_⟩
    rw [e]
    exact ⟨hc, hw⟩
def Bools (W : World) (A : Option Addr) (n : Nat) (l : List Bool) : Prop := l.length = n ∧ ∀ i, i < n → ∃ b off, A = some ⟨b, off, none⟩ ∧ b < W.heap.size ∧ W.cell? ⟨b, off + i, none⟩ = some (.bool (l.getD i false))
theorem bools_read {H : Type} {enc : TypeId × Value → H} {W : World} {A : Option Addr} {len cap base fuel : Nat} {sp : Nat → Bool} {hd : Bool} {x : DataW H × List MemPlace}
    (h : DataW.trod enc Try.prog W base sp hd fuel 34 [.slice A len cap] = some x) (hsp : ∀ b, sp b = true) : ∃ l, Bools W A len l ∧ len ≤ cap ∧ cap ≤ maxLen := by
  obtain rfl : sp = fun _ => true := funext hsp
  rcases Go.Deep.open_bools Try.underlying34 Try.underlying4 (by kernel_rfl) h with ⟨hcs, _⟩ | ⟨a, len', cap', B, hcs, _, hl, hm, _, hcell⟩
  · simp at hcs
    obtain ⟨rfl, rfl, rfl⟩ := hcs
    exact ⟨[], ⟨rfl, fun i hi => by omega⟩, by omega, by unfold maxLen; omega⟩
  · simp at hcs
    obtain ⟨rfl, rfl, rfl⟩ := hcs
    refine ⟨(List.range len).map B, ⟨by simp, fun i hi => ?_⟩, hl, hm⟩
    have hc := hcell i (by omega)
    have h0 := hcell 0 (by omega)
    obtain ⟨b, off, spot⟩ := a
    have hspot : spot = none := by simpa [Addr.add] using World.cell?_spot h0
    subst hspot
    rw [add_plain] at hc
    refine ⟨b, off, rfl, World.block_lt_of_cell? W _ hc, ?_⟩
    rw [hc, List.getD_eq_getElem?_getD, List.getElem?_map, List.getElem?_range hi]
    rfl
/-- Batches written one behind the other, k of them, the last of epoch e. -/
structure Wrote (D want : List BA) (e : Int) (k : Nat) : Prop where
  acc : AccTo 0 sc0 D D.length
  out : (scan D).out = want
  last : (scan D).last ≤ e
  next : (scan D).next = D.length
  ep : (scan D).ep = if k = 0 then 0 else e
  nil : want = [] ↔ k = 0
theorem Wrote.none : Wrote [] [] 1 0 := ⟨fun k hk => by simp at hk, rfl, by decide, rfl, rfl, by simp⟩
theorem Wrote.step {D want l : List BA} {e e' : Int} {k : Nat} (h : Wrote D want e k) (he : e ≤ e') (hb : batOk e' (D.length : Nat) l = true) : Wrote (D ++ batB e' (D.length : Nat) l) (want ++ l) e' (k + 1) := by
  obtain ⟨r1, r2, r3, r4, r5⟩ := bat_read (i := D.length) (s := scan D) hb (by have := h.last; omega)
  have es : ∀ m, scan (D ++ m) = scanX D.length (scan D) m := fun m => by
    have := scan_to (m := m) h.acc
    rw [Nat.zero_add] at this
    exact this
  have hl : l ≠ [] := (strmOk_iff.1 (batOk_iff.1 hb).1).1
  refine ⟨fun k hk => ?_, by rw [es, r2, h.out], by rw [es, r5]; omega, by rw [es, r3, List.length_append], by rw [es, r4, if_neg (by omega)], by simp [hl]⟩
  by_cases hkl : k < D.length
  · exact (h.acc.app (m := batB e' (D.length : Nat) l)) k hkl
  · obtain ⟨j, rfl⟩ : ∃ j, k = D.length + j := ⟨k - D.length, by omega⟩
    rw [List.length_append] at hk
    rw [List.take_length_add_append, List.getD_eq_getElem?_getD, List.getElem?_append_right (by omega), Nat.add_sub_cancel_left, ← List.getD_eq_getElem?_getD, Nat.zero_add]
    have := es ((batB e' (D.length : Nat) l).take j)
    unfold scan at this
    rw [this]
    exact r1 j (by omega)
/-- A row that no other's growth touches. -/
theorem OwnT.grown {B : Nat} {w w' : World} {u v : Value} {l : List BA} (h : OwnT B w v l) (hg : w.grownBy w' u.ownBlock) (ha : ∀ g, u.ownBlock = some g → v.ownBlock ≠ some g) : OwnT B w' v l :=
  owns_kept2 h fun g hv => hg.block g (h.lt g hv).2 fun e => ha g e.symm hv
theorem app_one {B : Nat} {w w' : World} {u v u' : Value} {D bt want : List BA} (hu : OwnT B w u D) (hv : OwnT B w v want) (ap : ∀ g, u.ownBlock = some g → v.ownBlock ≠ some g)
    (hown : w'.ownsRow B 9 1 u' (D.length + bt.length) (tcs D ++ tcs bt)) (hg : w.grownBy w' u.ownBlock) (hk : u'.ownBlock = u.ownBlock ∨ u'.ownBlock = some w.heap.size) :
    OwnT B w' u' (D ++ bt) ∧ OwnT B w' v want ∧ (∀ g, u'.ownBlock = some g → v.ownBlock ≠ some g) ∧ (∀ g, v.ownBlock = some g → u'.ownBlock ≠ some g) := by
  have h1 : OwnT B w' u' (D ++ bt) := by
    unfold OwnT
    rw [tcs_append, List.length_append]
    exact hown
  have h3 : ∀ g, u'.ownBlock = some g → v.ownBlock ≠ some g := fun g e1 e2 => by
    rcases hk with hk | hk
    · exact ap g (hk.symm.trans e1) e2
    · rw [hk] at e1
      have := (hv.lt g e2).2
      simp only [Option.some.injEq] at e1
      omega
  exact ⟨h1, hv.grown hg ap, h3, fun g e1 e2 => h3 g e2 e1⟩
/-- The law's loop over the batches: what stands at a round's start. -/
structure BackI (w wr : World) (D want : List BA) (e : Int) (k : Nat) (va vw : Value) : Prop where
  wrote : Wrote D want e k
  e1 : 1 ≤ e
  e2 : e ≤ 1 + 3 * k
  d1 : D.length ≤ 28 * k
  d2 : ∀ x ∈ D, x.length = 64
  x1 : want.length ≤ 20 * k
  x2 : ∀ x ∈ want, x.length ≤ 1500
  oa : OwnT w.heap.size wr va D
  ow : OwnT w.heap.size wr vw want
  apart : ∀ g, va.ownBlock = some g → vw.ownBlock ≠ some g
  bel : Below w.heap.size w wr
theorem BackI.start (w wr : World) (h : Below w.heap.size w wr) : BackI w wr [] [] 1 0 (.slice none 0 0) (.slice none 0 0) :=
  ⟨Wrote.none, by omega, by omega, by simp, by simp, by simp, by simp, OwnT.nil _ _, OwnT.nil _ _, fun g hg => by simp [Value.ownBlock] at hg, h⟩
theorem i64_mask2 (v : Int) (h0 : -9223372036854775808 ≤ v) (h1 : v ≤ 9223372036854775807) : bits .and .i64 v 3 = v % 4 := by
  have e : ∀ a : Int, (BitVec.ofInt 64 a).toNat = (a % 18446744073709551616).toNat := fun a => by
    rw [BitVec.toNat_ofInt]; rfl
  show IntKind.i64.wrap ((BitVec.ofInt 64 v &&& BitVec.ofInt 64 3).toNat : Int) = _
  rw [BitVec.toNat_and, e, e, show ((3 : Int) % 18446744073709551616).toNat = 2 ^ 2 - 1 from rfl, Nat.and_two_pow_sub_one_eq_mod, IntKind.wrap_i64]
  omega
theorem mask_r (v : Int) (h0 : -9223372036854775808 ≤ v) (h1 : v ≤ 9223372036854775807) : ∃ r, bits .and .i64 v 3 = r ∧ 0 ≤ r ∧ r ≤ 3 := ⟨_, i64_mask2 v h0 h1, by omega, by omega⟩
theorem back_bat {D want lk : List BA} {e e' : Int} {k : Nat} (h : Wrote D want e k) (he : e ≤ e') (h1 : 1 ≤ e') (h2 : e' ≤ 100) (hd : D.length ≤ 1000) (hf : fewB lk = true) :
    ∃ (bt : List BA) (ok : Bool), bt = batB e' (D.length : Nat) lk ∧ ok = batOk e' (D.length : Nat) lk ∧ bt.length ≤ 28 ∧ (∀ x ∈ bt, x.length = 64) ∧ (ok = true → Wrote (D ++ bt) (want ++ lk) e' (k + 1) ∧ cntB lk = bt.length) ∧
      (ok = false → lk = [] ∨ ∃ j, j < lk.length ∧ (lk.getD j []).length = 0) := by
  have hb := few_bat (e := e') (i := (D.length : Nat)) hf
  refine ⟨_, _, rfl, rfl, hb.1, hb.2, fun hok => ⟨h.step he hok, ?_⟩, fun hno => ?_⟩
  · rw [batB_length hok, cnt_np (batOk_iff.1 hok).1]
  · by_cases hs : strmOk lk = true
    · exfalso
      have := bat_in (e := e') (i := (D.length : Nat)) hs ⟨by omega, by omega⟩ (by omega) (by have := (few_strm hf).2.2; unfold npX; omega)
      rw [this] at hno
      cases hno
    · by_cases hl : lk = []
      · exact .inl hl
      · right
        have hs2 : ¬ ∀ x ∈ lk, 1 ≤ x.length ∧ x.length ≤ 65535 := fun h => hs (strmOk_iff.2 ⟨hl, h⟩)
        have : ∃ x ∈ lk, x.length = 0 := by
          apply Classical.byContradiction
          intro hno2
          apply hs2
          intro x hx
          have h15 := few_size hf x hx
          have : x.length ≠ 0 := fun h0 => hno2 ⟨x, hx, h0⟩
          omega
        obtain ⟨x, hx, h0⟩ := this
        obtain ⟨j, hj, e0⟩ := List.mem_iff_getElem.1 hx
        exact ⟨j, hj, by rw [List.getD_eq_getElem?_getD, List.getElem?_eq_getElem hj, e0]; exact h0⟩
theorem BackI.next {w wr y6 : World} {D want bt lk : List BA} {e e' : Int} {k : Nat} {va vw v5 v6 : Value} (h : BackI w wr D want e k va vw) (he : e ≤ e') (he3 : e' ≤ e + 3) (hW : Wrote (D ++ bt) (want ++ lk) e' (k + 1))
    (hb28 : bt.length ≤ 28) (hb64 : ∀ x ∈ bt, x.length = 64) (hf : fewB lk = true) (a1 : OwnT w.heap.size y6 v5 (D ++ bt)) (a2 : OwnT w.heap.size y6 v6 (want ++ lk)) (ap : ∀ g, v5.ownBlock = some g → v6.ownBlock ≠ some g) (hb : Below w.heap.size w y6) : BackI w y6 (D ++ bt) (want ++ lk) e' (k + 1) v5 v6 := by
  have h20 := (few_strm hf).1
  have i1 := h.e1
  have i2 := h.e2
  have i3 := h.d1
  have i4 := h.x1
  refine ⟨hW, by omega, by omega, by rw [List.length_append]; omega, fun x hx => ?_, by rw [List.length_append]; omega, fun x hx => ?_, a1, a2, ap, hb⟩
  · rcases List.mem_append.1 hx with hx | hx
    · exact h.d2 x hx
    · exact hb64 x hx
  · rcases List.mem_append.1 hx with hx | hx
    · exact h.x2 x hx
    · exact few_size hf x hx
end Go.Proofs.Ytbdpmfgphhgigaa
