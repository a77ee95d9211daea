/- slices.Backward over the pending writes: its iterator's contract. -/
import Derived.Test.YtnkhfgfiifadhaaWrite
import Derived.Test.YtnkhfgfiifadhaaRound
import Derived.RangeFuncNested
import Derived.RangeFuncBound
import Derived.RangeFuncCalls
import Derived.RangeFuncLeaves
import Derived.Shelf.Abstract
import Derived.Shelf.RegionOpen
import Derived.WalkKit
import Derived.OwnWalkIn
import Derived.TacticsInMore
import Derived.LoopNIn
import Derived.LoopIn
import Derived.IntWalk
namespace Go.Proofs.Ytnkhfgfiifadhaa
open Go.RowKit Go.Shelf
attribute [local go_sem] Oper.semAt_some
set_option linter.unusedVariables false
set_option linter.unusedSimpArgs false

/-- A world below n₀, but for block s, as it was. -/
def KeepBut (n₀ s : Nat) (w w' : World) : Prop := w.heap.size ≤ w'.heap.size ∧ ∀ k, k < n₀ → k ≠ s → w'.heap[k]? = w.heap[k]?
theorem KeepBut.refl (n₀ s : Nat) (w : World) : KeepBut n₀ s w w := ⟨Nat.le_refl _, fun _ _ _ => rfl⟩
theorem KeepBut.trans {n₀ s : Nat} {a b c : World} (h : KeepBut n₀ s a b) (k : KeepBut n₀ s b c) : KeepBut n₀ s a c := ⟨Nat.le_trans h.1 k.1, fun i h1 h2 => (k.2 i h1 h2).trans (h.2 i h1 h2)⟩
theorem KeepBut.cell {n₀ s : Nat} {a b : World} (h : KeepBut n₀ s a b) {x : Addr} (hx : x.block < n₀) (hs : x.block ≠ s) : b.cell? x = a.cell? x := World.cell?_of_block (w := a) (h.2 _ hx hs)
theorem keepBut_b {n₀ s : Nat} {w : World} (hn : n₀ ≤ w.heap.size) (W : World) (l : Nat) (o o' : Obj) (hl : w.heap.size ≤ l) (h : W.heap[l]? = some o) (_ : o.isCells = false) (_ : o.isWalk = false) : KeepBut n₀ s W (W.putObj l o') :=
  ⟨by simp, fun k hk _ => World.putObj_heap_other (by omega)⟩
theorem KeepBut.below {n₀ s : Nat} {a b : World} (h : Below n₀ a b) : KeepBut n₀ s a b := ⟨h.size, fun k hk _ => h.block k hk⟩

theorem wpListIn_load_mid {F : Fence} {n : Nat} {P : Program} {ops : Array Oper} {rest : List Oper} {op : Oper} {a : Act} {w : World} {Q : Exit → Act → World → Prop} (hgd : op.guard = none) (ty : TypeId) (x : Operand) (ho : op.op = .load ty x)
    (b o : Nat) (hx : a.eval x = .pointer (some ⟨b, o, none⟩)) (cs : List Value) (d : TypeDesc) (hc : w.rangeAt b o cs)
    (hu : P.underlying ty = some d) (hd : d.isRow = true) (hi : (P.info? ty).map (·.size) = some cs.length)
    (h : wpListIn F n P ops Q rest (a.put op.dst (.agg cs.toArray)) w) : wpListIn F n P ops Q (op :: rest) a w := by
  refine wpListIn_plain hgd fun K hK => ?_
  unfold Oper.wpIn
  refine ⟨?_, ?_⟩
  · simp [Oper.about, ho]
  · rw [Oper.semAt_eq _ _ _ (by rw [ho]; intro c hc'; cases hc')]
    unfold execOp
    simp only [ho, hx, Instr.loadAt, Instr.sureAddr, Sem.run_bind, Sem.run_pure, Result.andThen_ok, run_loadVar_mid w b o ty cs d hc hu hd hi]
    exact hK _ _ h

/-- The writes one by one, the last first: their numbers. -/
def down (m k : Nat) : List Nat := (List.range k).map fun j => m - 1 - j
theorem down_succ (m k : Nat) : down m (k + 1) = down m k ++ [m - 1 - k] := by simp [down, List.range_succ]
theorem down_length (m k : Nat) : (down m k).length = k := by simp [down]
/-- What the iterator hands over. -/
def wargs (cell : Nat → List Value) (m : Nat) (x : { i : Nat // i < m }) : Array Value := #[.int .i64 (x.1 : Int), .agg (cell x.1).toArray]

set_option maxRecDepth 100000 in
set_option maxHeartbeats 2000000 in
theorem back1_in (n : Nat) (hn : 1 ≤ n) (l Bs n₀ s b m cap : Nat) (cell : Nat → List Value) (hm : m ≤ 1000000) (hbn : b < n₀) (hbs : b ≠ s) (hBn : Bs < n₀) (hBs' : Bs ≠ s) (hlen : ∀ i, i < m → (cell i).length = 129) (J Jx : List { i : Nat // i < m } → World → Prop)
    (hY : ∀ pre x W, J pre W → pre.length < m → YieldAt Fence.wide (n - 1) Try.prog l (wargs cell m x) W fun e W' =>
      (e = .returned (.bool true) ∧ J (pre ++ [x]) W' ∧ KeepBut n₀ s W W') ∨ (e = .returned (.bool false) ∧ Jx (pre ++ [x]) W'))
    (W : World) (hBs : W.cell? ⟨Bs, 0, none⟩ = some (.slice (some ⟨b, 0, none⟩) m cap)) (hc : ∀ i, i < m → W.rangeAt b (i * 129) (cell i)) (h0 : J [] W) :
    CallsIn Fence.wide n Try.prog 35 #[.func (.yield l) #[] #[], .pointer (some ⟨Bs, 0, none⟩)] W fun e W' => (∃ v, e = .returned v) ∧
      ((∃ ys, ys.map (·.1) = down m m ∧ J ys W') ∨ (∃ pre, True ∧ Jx pre W')) := by
  have hN : (m : Int) ≤ 1000000 := by omega
  have hu := Try.underlying63
  refine callsIn_of_wp Try.func35 rfl trivial ?_ rfl
  simp only [Try.ntmps35, List.size_toArray, List.length_cons, List.length_nil, Nat.reduceAdd, Nat.reduceSub, Array.replicate_succ, Array.replicate_zero, List.push_toArray, List.append_toArray, List.nil_append, List.cons_append]
  have HC := Lib.hid hc
  have HL := Lib.hid hlen
  clear hc hlen
  gi_wp2
  gi_loopw [3] (fun i wr => ∃ k : Nat, k ≤ m ∧ i = .int .i64 ((m : Int) - 1 - k) ∧ ∃ pre, pre.map (·.1) = down m k ∧ J pre wr ∧ KeepBut n₀ s W wr)
    (fun i _ => (intOf i + 1).toNat)
  case atStart => exact ⟨0, Nat.zero_le _, by simp, [], rfl, h0, KeepBut.refl _ _ _⟩
  case round =>
    obtain ⟨k, hk, rfl, pre, hpre, hJs, hnx⟩ := hrel
    have hBx : wr.cell? ⟨Bs, 0, none⟩ = some (.slice (some ⟨b, 0, none⟩) m cap) := (hnx.cell (x := ⟨Bs, 0, none⟩) hBn hBs').trans hBs
    have HP := Lib.hid hpre
    have hpl : pre.length = k := by have := congrArg List.length hpre; simpa [down_length] using this
    clear hpre
    by_cases hlt : k < m
    · obtain ⟨fn, tmps, assign, body, hy, hR⟩ := hY pre ⟨m - 1 - k, by omega⟩ wr hJs (by omega)
      have hr : wr.rangeAt b ((m - 1 - k) * 129) (cell (m - 1 - k)) := fun j v hv => (hnx.cell (x := ⟨b, (m - 1 - k) * 129 + j, none⟩) hbn hbs).trans (HC.out (m - 1 - k) (by omega) j v hv)
      have hi : (Try.prog.info? 63).map (·.size) = some (cell (m - 1 - k)).length := by rw [HL.out _ (by omega)]; exact size_wr
      unfold wargs at hy
      dsimp only at hy
      have hi0 : (0 : Int) ≤ (m : Int) - 1 - k := by omega
      have hi1 : (m : Int) - 1 - k < m := by omega
      have hi2 : ((m : Int) - 1 - k).toNat = m - 1 - k := by omega
      have hi3 : ((m - 1 - k : Nat) : Int) = (m : Int) - 1 - k := by omega
      rw [hi3] at hy
      have hsum : IntKind.i64.wrap ((m : Int) - 1 - k - 1) = (m : Int) - 1 - k - 1 := IntWalk.i64_in _ (by omega)
      have HPL := Lib.hid hpl
      have HU := Lib.hid hu
      have HR := Lib.hid hr
      have HI := Lib.hid hi
      clear hu hr hi hi3
      gi_wp2_with (refine wpListIn_load_mid rfl 63 (.tmp 15) rfl b ((m - 1 - k) * 129) rfl (cell (m - 1 - k)) _ HR.out HU.out rfl HI.out ?_)
      refine hR.mono ?_
      rintro e W3 (⟨rfl, hJ3, hk3⟩ | ⟨rfl, hJx3⟩)
      · gi_wp2
        go_roundw
        case rel => exact ⟨k + 1, by omega, by go_num, pre ++ [⟨m - 1 - k, by omega⟩], by rw [List.map_append, HP.out, down_succ]; rfl, hJ3, hnx.trans hk3⟩
        case measure => simp [intOf]; omega
      · gi_wp2
        refine bodyPost_ret (results_none rfl _ _ _) rfl ?_
        exact ⟨⟨_, rfl⟩, .inr ⟨_, trivial, hJx3⟩⟩
    · obtain rfl : k = m := by omega
      have hneg : ¬ (0 : Int) ≤ (k : Int) - 1 - k := by omega
      gi_wp2
      go_end0
      exact ⟨⟨_, rfl⟩, .inl ⟨pre, HP.out, hJs⟩⟩
set_option maxRecDepth 100000 in
set_option maxHeartbeats 1000000 in
/-- .. at the nil slice: no round. -/
theorem back1_nil_in (n : Nat) (l Bs : Nat) (J : List { i : Nat // i < 0 } → World → Prop) (W : World) (hBs : W.cell? ⟨Bs, 0, none⟩ = some (.slice none 0 0)) (h0 : J [] W) :
    CallsIn Fence.wide n Try.prog 35 #[.func (.yield l) #[] #[], .pointer (some ⟨Bs, 0, none⟩)] W fun e W' => (∃ v, e = .returned v) ∧ J [] W' := by
  refine callsIn_of_wp Try.func35 rfl trivial ?_ rfl
  simp only [Try.ntmps35, List.size_toArray, List.length_cons, List.length_nil, Nat.reduceAdd, Nat.reduceSub, Array.replicate_succ, Array.replicate_zero, List.push_toArray, List.append_toArray, List.nil_append, List.cons_append]
  gi_wp2
  gi_loopw [3] (fun i wr => i = .int .i64 (-1) ∧ J [] wr) (fun _ _ => 0)
  case atStart => exact ⟨rfl, h0⟩
  case round =>
    obtain ⟨rfl, hJs⟩ := hrel
    gi_wp2
    go_end0
    exact ⟨⟨_, rfl⟩, hJs⟩
set_option maxHeartbeats 1000000 in
theorem back_in (n : Nat) (v : Value) (hv : ∃ a len cap, v = .slice a len cap) (w : World) :
    CallsIn Fence.wide n Try.prog 32 #[v] w fun e w' => e = .returned (.func (.func 35) #[] #[.pointer (some ⟨w.heap.size, 0, none⟩)]) ∧ w' = w.alloc (.cells #[v] 55) := by
  obtain ⟨a, len, cap, rfl⟩ := hv
  refine callsIn_of_wp Try.func32 rfl trivial ?_ rfl
  simp only [Try.ntmps32, List.size_toArray, List.length_cons, List.length_nil, Nat.reduceAdd, Nat.reduceSub, Array.replicate_succ, Array.replicate_zero, List.push_toArray, List.append_toArray, List.nil_append, List.cons_append]
  gi_wp2
  go_ret
  exact ⟨rfl, rfl⟩
variable {C p s c : Nat} {pv : Value} {A : St} {w : World}
/-- The cells of pending write i. -/
def cellOf (A : St) (i : Nat) : List Value := wcs (A.pend.getD i (0, [])).1 ((appl A.last (A.pend.take i)).getD (A.pend.getD i (0, [])).1 []) (A.pend.getD i (0, [])).2
theorem getD_lt {α : Type} {l : List α} {i : Nat} {d : α} (h : i < l.length) : l.getD i d = l[i] := by rw [List.getD_eq_getElem?_getD, List.getElem?_eq_getElem h]; rfl
theorem Own.oldLen (h : Own C p s c pv A w) {i : Nat} (hi : i < A.pend.length) : ((appl A.last (A.pend.take i)).getD (A.pend.getD i (0, [])).1 []).length = 64 := by
  refine ((h.fits.take i).whole h.whole).getD ?_
  rw [appl_length, getD_lt hi]
  exact (h.fits _ (List.getElem_mem hi)).1
theorem Own.newLen (h : Own C p s c pv A w) {i : Nat} (hi : i < A.pend.length) : (A.pend.getD i (0, [])).2.length = 64 := by
  rw [getD_lt hi]; exact (h.fits _ (List.getElem_mem hi)).2
theorem Own.atLt (h : Own C p s c pv A w) {i : Nat} (hi : i < A.pend.length) : (A.pend.getD i (0, [])).1 < A.last.length := by
  rw [getD_lt hi]; exact (h.fits _ (List.getElem_mem hi)).1
theorem Own.cellLen (h : Own C p s c pv A w) {i : Nat} (hi : i < A.pend.length) : (cellOf A i).length = 129 := wcs_length _ (h.oldLen hi) (h.newLen hi)
theorem Own.write (h : Own C p s c pv A w) {b cp : Nat} (hv : pv = .slice (some ⟨b, 0, none⟩) A.pend.length cp) {W : World} (hW : W.heap[b]? = w.heap[b]?) {i : Nat} (hi : i < A.pend.length) : W.rangeAt b (i * 129) (cellOf A i) := fun j v hj => by
  rcases h.row.2 with ⟨h1, _⟩ | ⟨g, cap, cur, h1, h2, h3, h4, h5, h6, h7⟩
  · rw [hv] at h1; simp at h1
  · rw [hv] at h1
    simp only [Value.slice.injEq, Option.some.injEq, Addr.mk.injEq, and_true, true_and] at h1
    obtain ⟨rfl, rfl⟩ := h1
    rw [cell_of_row W b _ _ _ _ (hW.trans h3)]
    have hx := pcells_at h.whole rfl h.fits hi j v (by unfold cellOf at hj; rw [getD_lt hi] at hj; exact hj)
    rw [← h7, List.getElem?_take] at hx
    split at hx
    · simpa using hx
    · cases hx
theorem back_stops (h : Own C p s c pv A w) (hm : A.pend.length ≤ 1000000) (n : Nat) (hn : 1 ≤ n) (Bs n₀ : Nat) (w1 : World) (hB : Bs < n₀) (hBs : Bs ≠ s) (hn0 : n₀ ≤ w1.heap.size) (hw : w.heap.size ≤ n₀) (h1 : ∀ k, k < w.heap.size → w1.heap[k]? = w.heap[k]?)
    (hc : w1.cell? ⟨Bs, 0, none⟩ = some pv) :
    SeqStopsK Fence.wide n Try.prog 35 #[.pointer (some ⟨Bs, 0, none⟩)] (wargs (cellOf A) A.pend.length) (KeepBut n₀ s) (fun ys => ys.map (·.1) = down A.pend.length A.pend.length) (fun _ => True) A.pend.length w1 := fun l J Jx W hW _ _ hY h0 => by
  have hc' := (hW.cell (p := ⟨Bs, 0, none⟩) (show Bs < w1.heap.size by omega)).trans hc
  rcases h.row.2 with ⟨h2, h3⟩ | ⟨g, cap, cur, h2, h3, h4, _⟩
  · rw [h2] at hc'
    generalize A.pend.length = m at *
    subst h3
    exact (back1_nil_in n l Bs J W hc' h0).mono fun e W' ⟨he, hj⟩ => ⟨he, .inl ⟨[], rfl, hj⟩⟩
  · have hg : g < w.heap.size := (Array.getElem?_eq_some_iff.1 h4).1
    rw [h2] at hc'
    exact back1_in n hn l Bs n₀ s g A.pend.length cap (cellOf A) hm (by omega) (fun e => h.vs (by rw [h2, ← e]; rfl)) hB hBs (fun i hi => h.cellLen hi) J Jx hY W hc'
      (fun i hi => h.write h2 ((hW.block g (by omega)).trans (h1 g hg)) hi) h0
end Go.Proofs.Ytnkhfgfiifadhaa
