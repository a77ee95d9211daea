/- slices.Chunk over bytes: its iterator's contract. -/
import Derived.Test.YtbdpmfgphhgigaaGreatPut
import Derived.RangeFuncNested
import Derived.RangeFuncBound
import Derived.RangeFuncCalls
import Derived.RangeFuncLeaves
import Derived.Shelf.Abstract
import Derived.Shelf.RegionOpen
import Derived.OwnWalkIn
import Derived.TacticsInMore
import Derived.LoopNIn
import Derived.LoopIn
import Derived.BigQuiet
import Derived.Deep.QuietTactic
namespace Go.Proofs.YtbdpmfgphhgigaaGreat
open Go.ChangeShapes Go.WideShapes Go.ChangeAt Go.RowKit Go.Shelf
attribute [local go_sem] Oper.semAt_some
set_option linter.unusedVariables false
set_option linter.unusedSimpArgs false
set_option maxRecDepth 100000
/-- A world below n₀, but for block s, as it was. -/
def KeepBut (n₀ s : Nat) (w w' : World) : Prop := w.heap.size ≤ w'.heap.size ∧ ∀ k, k < n₀ → k ≠ s → w'.heap[k]? = w.heap[k]?
theorem KeepBut.refl (n₀ s : Nat) (w : World) : KeepBut n₀ s w w := ⟨Nat.le_refl _, fun _ _ _ => rfl⟩
theorem KeepBut.trans {n₀ s : Nat} {a b c : World} (h : KeepBut n₀ s a b) (k : KeepBut n₀ s b c) : KeepBut n₀ s a c := ⟨Nat.le_trans h.1 k.1, fun i h1 h2 => (k.2 i h1 h2).trans (h.2 i h1 h2)⟩
theorem KeepBut.drewN {n₀ s : Nat} {a b : World} (h : KeepBut n₀ s a b) (q : Nat) : KeepBut n₀ s a (b.drewN q) := h
theorem KeepBut.cell {n₀ s : Nat} {a b : World} (h : KeepBut n₀ s a b) {x : Addr} (hx : x.block < n₀) (hs : x.block ≠ s) : b.cell? x = a.cell? x := World.cell?_of_block (w := a) (h.2 _ hx hs)
theorem keepBut_b {n₀ s : Nat} {w : World} (hn : n₀ ≤ w.heap.size) (W : World) (l : Nat) (o o' : Obj) (hl : w.heap.size ≤ l) (h : W.heap[l]? = some o) (_ : o.isCells = false) (_ : o.isWalk = false) : KeepBut n₀ s W (W.putObj l o') :=
  ⟨by simp, fun k hk _ => World.putObj_heap_other (by omega)⟩
/-- How many pieces. -/
def npL (n : Nat) : Nat := (n + 55) / 56
theorem npL_lt {n k : Nat} : k < npL n ↔ 56 * k < n := by unfold npL; omega
/-- What the iterator hands over: piece k. -/
def pcV (b len k : Nat) : Value := .slice (some ⟨b, 56 * k, none⟩) (min 56 (len - 56 * k)) (min 56 (len - 56 * k))
def pcA (b len : Nat) (x : { i : Nat // i < npL len }) : Array Value := #[pcV b len x.1]
theorem sizeU8 (w : World) : (sizeOf 5).run Tryz.prog w = .ok 1 w := by
  first | exact Tryz.sizeOf5 w | simp [go_sem]
theorem elemB : Tryz.prog.elem 64 = 5 := by kernel_rfl
theorem cut3 (b len cap i m : Nat) (h1 : i < len) (h2 : 0 < m) (h3 : i + m ≤ len) (hc : len ≤ cap) (w : World) : (Instr.slice 64 (.slice (some ⟨b, 0, none⟩) len cap) (some (.int .i64 (i : Int))) (some (.int .i64 ((i : Int) + (m : Int)))) (some (.int .i64 ((i : Int) + (m : Int))))).run Tryz.prog w = .ok (.slice (some ⟨b, i, none⟩) m m) w := by
  rw [run_slice_lhm (P := Tryz.prog) w 64 (some ⟨b, 0, none⟩) len cap (by rw [elemB]; exact Tryz.underlying64) .i64 .i64 .i64 _ _ _ (by omega) (by omega) (by omega) (by omega), elemB, sizeU8]
  simp only [Result.andThen, sliced, slicedAt]
  rw [show ((i : Int) + (m : Int)).toNat = i + m by omega, Int.toNat_natCast, if_neg (by omega), Nat.add_sub_cancel_left, Nat.mul_one, Option.map_some, add_plain, Nat.zero_add]
theorem cut1 (b len cap i : Nat) (h1 : i < len) (hc : len ≤ cap) (w : World) : (Instr.slice 64 (.slice (some ⟨b, 0, none⟩) len cap) (some (.int .i64 (i : Int))) none none).run Tryz.prog w = .ok (.slice (some ⟨b, i, none⟩) (len - i) (cap - i)) w := by
  rw [run_slice_l (P := Tryz.prog) w 64 (some ⟨b, 0, none⟩) len cap (by rw [elemB]; exact Tryz.underlying64) .i64 _ (by omega) (by omega), elemB, sizeU8]
  simp only [Result.andThen, sliced, slicedAt]
  rw [Int.toNat_natCast, if_neg (by omega), Nat.mul_one, Option.map_some, add_plain, Nat.zero_add]
set_option maxHeartbeats 2000000 in
theorem chunk1_in (n : Nat) (hn : 1 ≤ n) (l Bs Bn n₀ s b len cap : Nat) (hlen : len ≤ 1000000) (hcap : len ≤ cap) (hBn : Bs < n₀) (hBs' : Bs ≠ s) (hBn2 : Bn < n₀) (hBn' : Bn ≠ s) (J Jx : List { i : Nat // i < npL len } → World → Prop)
    (hY : ∀ pre x W, J pre W → pre.length < npL len → YieldAt Fence.wide (n - 1) Tryz.prog l (pcA b len x) W fun e W' =>
      (e = .returned (.bool true) ∧ J (pre ++ [x]) W' ∧ KeepBut n₀ s W W') ∨ (e = .returned (.bool false) ∧ Jx (pre ++ [x]) W'))
    (hJd : ∀ pre W q, J pre W → J pre (W.drewN q))
    (W : World) (hBs : W.cell? ⟨Bs, 0, none⟩ = some (.slice (some ⟨b, 0, none⟩) len cap)) (hB2 : W.cell? ⟨Bn, 0, none⟩ = some (.int .i64 56)) (h0 : J [] W) :
    CallsIn Fence.wide n Tryz.prog 82 #[.func (.yield l) #[] #[], .pointer (some ⟨Bs, 0, none⟩), .pointer (some ⟨Bn, 0, none⟩)] W fun e W' => (∃ v, e = .returned v) ∧
      ((∃ ys, ys.map (·.1) = List.range (npL len) ∧ J ys W') ∨ (∃ pre, True ∧ Jx pre W')) := by
  refine callsIn_of_wp Tryz.func82 rfl trivial ?_ rfl
  simp only [Tryz.ntmps82, List.size_toArray, List.length_cons, List.length_nil, Nat.reduceAdd, Nat.reduceSub, Array.replicate_succ, Array.replicate_zero, List.push_toArray, List.append_toArray, List.nil_append, List.cons_append]
  gi_wp2
  gi_loopw [4] (fun i wr => ∃ k : Nat, k ≤ npL len ∧ i = .int .i64 ((56 * k : Nat) : Int) ∧ ∃ pre, pre.map (·.1) = List.range k ∧ J pre wr ∧ KeepBut n₀ s W wr)
    (fun i _ => (len + 56 - intOf i).toNat)
  case atStart => exact ⟨0, Nat.zero_le _, rfl, [], rfl, h0, KeepBut.refl _ _ _⟩
  case round =>
    obtain ⟨k, hk, rfl, pre, hpre, hJs, hnx⟩ := hrel
    have hBx : wr.cell? ⟨Bs, 0, none⟩ = some (.slice (some ⟨b, 0, none⟩) len cap) := (hnx.cell (x := ⟨Bs, 0, none⟩) hBn hBs').trans hBs
    have hBy : wr.cell? ⟨Bn, 0, none⟩ = some (.int .i64 56) := (hnx.cell (x := ⟨Bn, 0, none⟩) hBn2 hBn').trans hB2
    have HP := Lib.hid hpre
    have hpl : pre.length = k := by have := congrArg List.length hpre; simpa using this
    have hNX := Lib.hid hnx
    clear hpre hnx
    by_cases hlt : k < npL len
    · have h56 := npL_lt.1 hlt
      obtain ⟨i, hi⟩ : ∃ i, i = 56 * k := ⟨_, rfl⟩
      obtain ⟨m, hm⟩ : ∃ m, m = min 56 (len - i) := ⟨_, rfl⟩
      have c1 := cut1 b len cap i (by omega) hcap
      have c3 := cut3 b len cap i m (by omega) (by omega) (by omega) hcap
      have hY1 := Lib.hid (fun W q (h : J pre W) => hY pre ⟨k, hlt⟩ (W.drewN q) (hJd pre W q h) (by omega))
      unfold pcA pcV at hY1
      dsimp only at hY1
      rw [← hi, ← hm] at hY1
      rw [← hi]
      have b0 : (0 : Int) ≤ (i : Int) := by omega
      have b1 : (i : Int) < (len : Int) := by omega
      have hmin : min (56 : Int) ((len - i : Nat) : Int) = (m : Int) := by omega
      have hmin2 : min ((len - i : Nat) : Int) (56 : Int) = (m : Int) := by omega
      have hs1 : IntKind.i64.wrap ((i : Int) + (m : Int)) = (i : Int) + (m : Int) := IntWalk.i64_in _ (by omega)
      have hs2 : IntKind.i64.wrap ((i : Int) + 56) = (i : Int) + 56 := IntWalk.i64_in _ (by omega)
      have HI := Lib.hid hi
      have HM := Lib.hid hm
      clear hi hm
      gi_wp2
      refine wpIn_wide.2 ?_
      go_quiet (fail)
      simp only [Exit.then]
      obtain ⟨fn, tmps, assign, body, hy, hR⟩ := hY1.out wr nq hJs
      have hBx2 : (wr.drewN nq).cell? ⟨Bs, 0, none⟩ = some (.slice (some ⟨b, 0, none⟩) len cap) := hBx
      clear hY1
      generalize hW : wr.drewN nq = wq at *
      gi_wp2
      refine hR.mono ?_
      rintro e W3 (⟨rfl, hJ3, hk3⟩ | ⟨rfl, hJx3⟩)
      · have hk4 : KeepBut n₀ s wr W3 := (show KeepBut n₀ s wr wq from by rw [← hW]; exact (KeepBut.refl _ _ _).drewN nq).trans hk3
        have hBy3 : W3.cell? ⟨Bn, 0, none⟩ = some (.int .i64 56) := (hk4.cell (x := ⟨Bn, 0, none⟩) hBn2 hBn').trans hBy
        have HK := Lib.hid (hNX.out.trans hk4)
        clear hk4 hk3
        gi_wp2
        go_roundw
        case rel => exact ⟨k + 1, by omega, by rw [HI.out]; exact congrArg (Value.int .i64) (by omega), pre ++ [⟨k, hlt⟩], by rw [List.map_append, HP.out, List.range_succ]; rfl, hJ3, HK.out⟩
        case measure => simp [intOf]; omega
      · gi_wp2
        refine bodyPost_ret (results_none rfl _ _ _) rfl ?_
        exact ⟨⟨_, rfl⟩, .inr ⟨_, trivial, hJx3⟩⟩
    · have hneg : ¬ ((56 * k : Nat) : Int) < (len : Int) := by have := mt npL_lt.2 hlt; omega
      obtain rfl : k = npL len := by omega
      gi_wp2
      go_end0
      exact ⟨⟨_, rfl⟩, .inl ⟨pre, HP.out, hJs⟩⟩
set_option maxHeartbeats 1000000 in
theorem chunk_in (n : Nat) (a : Option Addr) (len cap : Nat) (w : World) :
    CallsIn Fence.wide n Tryz.prog 33 #[.slice a len cap, .int .i64 56] w fun e w' => e = .returned (.func (.func 82) #[] #[.pointer (some ⟨w.heap.size, 0, none⟩), .pointer (some ⟨w.heap.size + 1, 0, none⟩)]) ∧ w' = (w.alloc (.cells #[.slice a len cap] 64)).alloc (.cells #[.int .i64 56] 3) := by
  refine callsIn_of_wp Tryz.func33 rfl trivial ?_ rfl
  simp only [Tryz.ntmps33, List.size_toArray, List.length_cons, List.length_nil, Nat.reduceAdd, Nat.reduceSub, Array.replicate_succ, Array.replicate_zero, List.push_toArray, List.append_toArray, List.nil_append, List.cons_append]
  gi_wp2
  go_ret
  exact ⟨rfl, rfl⟩
theorem chunk_stops (n : Nat) (hn : 1 ≤ n) (Bs Bn n₀ s b len cap : Nat) (hlen : len ≤ 1000000) (hcap : len ≤ cap) (w : World) (hn₀ : n₀ ≤ w.heap.size) (hBn : Bs < n₀) (hBs' : Bs ≠ s) (hBn2 : Bn < n₀) (hBn' : Bn ≠ s)
    (hBs : w.cell? ⟨Bs, 0, none⟩ = some (.slice (some ⟨b, 0, none⟩) len cap)) (hB2 : w.cell? ⟨Bn, 0, none⟩ = some (.int .i64 56)) :
    SeqStopsK Fence.wide n Tryz.prog 82 #[.pointer (some ⟨Bs, 0, none⟩), .pointer (some ⟨Bn, 0, none⟩)] (pcA b len) (KeepBut n₀ s) (fun ys => ys.map (·.1) = List.range (npL len)) (fun _ => True) (npL len) w := fun l J Jx W hW hJ _ hY h0 => by
  refine (chunk1_in n hn l Bs Bn n₀ s b len cap hlen hcap hBn hBs' hBn2 hBn' J Jx hY ?_ W ((hW.cell (p := ⟨Bs, 0, none⟩) (show Bs < _ by omega)).trans hBs) ((hW.cell (p := ⟨Bn, 0, none⟩) (show Bn < _ by omega)).trans hB2) h0).mono ?_
  · intro pre X q hx
    exact hJ pre X (X.drewN q) none hx ⟨rfl, rfl, rfl, Nat.le_refl _, fun _ _ _ => rfl⟩ (fun r e => by cases e)
  · rintro e W' ⟨he, h⟩
    exact ⟨he, h⟩
end Go.Proofs.YtbdpmfgphhgigaaGreat
