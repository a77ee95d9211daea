/- The contract of Drop: slices.IndexFunc, slices.DeleteFunc at pairs, the predicate, and the heap made anew. -/
import Derived.Test.YtfelhepdcnckhaaGreatQueue
import Derived.Lib.SliceRun
import Derived.Laws.CopyRow
namespace Go.Proofs.YtfelhepdcnckhaaGreat
open Go.ChangeShapes Go.WideShapes Go.ChangeAt Go.RowKit
set_option linter.unusedVariables false

/-! The predicate: is the pair's second number the one in the box? -/
set_option maxHeartbeats 400000 in
theorem pred_walk (a b d : Int) (bx : Nat) (w : World) (hb : w.cell? ⟨bx, 0, none⟩ = some (.int .i64 d)) (r : Bool) (hr : (b == d) = r) :
    Calls Tryz.prog 21 #[.agg #[.int .i64 a, .int .i64 b], .pointer (some ⟨bx, 0, none⟩)] w fun e w' => e = .returned (.bool r) ∧ Below w.heap.size w w' := by
  have hlt := World.block_lt_of_cell? w _ hb
  simp only at hlt
  go_enter Tryz.func21, Tryz.ntmps21
  go_wp2_with fail
  go_ret
  refine ⟨by rw [← hr]; rfl, (Below.refl _ _).alloc (Nat.le_refl _) _⟩

/-- Where the first lies. -/
def Found (f : Nat → Pr) (n : Nat) (d : Int) (r : Int) : Prop := (r = -1 ∧ ∀ i, i < n → ¬ (f i).2 = d) ∨ ∃ k : Nat, r = k ∧ k < n ∧ (f k).2 = d ∧ ∀ i, i < k → ¬ (f i).2 = d
def Looked (f : Nat → Pr) (n : Nat) (d : Int) (w : World) (e : Ending) (w' : World) : Prop := ∃ r, e = .returned (.int .i64 r) ∧ Found f n d r ∧ Below w.heap.size w w'

set_option maxHeartbeats 1000000 in
theorem index_walk (p g n cap : Nat) (f : Nat → Pr) (d : Int) (bx : Nat) (w : World) (hv : Held w p (.slice (some ⟨g, 0, none⟩) n cap) f n) (hn : n ≤ 1000000) (hb : w.cell? ⟨bx, 0, none⟩ = some (.int .i64 d)) :
    Calls Tryz.prog 66 #[.slice (some ⟨g, 0, none⟩) n cap, .func (.func 21) #[] #[.pointer (some ⟨bx, 0, none⟩)]] w fun e w' => Looked f n d w e w' := by
  have HV := Lib.hid hv
  have HB := Lib.hid hb
  have hlt := World.block_lt_of_cell? w _ hb
  simp only at hlt
  have HX := Lib.hid hlt
  have hg : g < w.heap.size := hv.row_lt rfl
  have HG := Lib.hid hg
  have hN : (n : Int) ≤ 1000000 := by omega
  clear hv hb hlt hg
  go_enter Tryz.func66, Tryz.ntmps66
  go_wp2_with fail
  go_loopw [8] (fun x wr => ∃ k : Nat, k ≤ n ∧ x = .int .i64 k ∧ Hid (Below w.heap.size w wr ∧ ∀ i, i < k → ¬ (f i).2 = d)) (fun x _ => n - (intOf x).toNat)
  case atStart => exact ⟨0, Nat.zero_le _, rfl, Below.refl _ _, fun i hi => by omega⟩
  case round =>
    obtain ⟨k, hk, rfl, hq⟩ := hrel
    have HQ := Lib.hid hq
    clear hq
    by_cases hlt : k < n
    · have c0 := (HQ.out.out.1.cell (p := ⟨g, k * 2, none⟩) HG.out).trans (HV.out.cell0 rfl hlt)
      have c1 := (HQ.out.out.1.cell (p := ⟨g, k * 2 + 1, none⟩) HG.out).trans (HV.out.cell1 rfl hlt)
      have cb := (HQ.out.out.1.cell (p := ⟨bx, 0, none⟩) HX.out).trans HB.out
      have CB := Lib.hid cb
      clear cb
      have b1 : (0 : Int) ≤ (k : Int) := by omega
      have b2 : (k : Int) < (n : Int) := by omega
      by_cases hd : (f k).2 = d
      · have HD := Lib.hid hd
        have HC := Lib.hid (pred_walk (f k).1 (f k).2 d bx wr CB.out true (by simpa using hd))
        clear hd
        go_wp2_with fail
        refine HC.out.mono ?_; rintro e w1 ⟨rfl, hw1⟩
        have H1 := Lib.hid hw1
        clear hw1
        go_wp2_with fail
        go_ret
        exact ⟨k, rfl, .inr ⟨k, rfl, hlt, HD.out, HQ.out.out.2⟩, HQ.out.out.1.trans (H1.out.mono HQ.out.out.1.size)⟩
      · have HD := Lib.hid hd
        have HC := Lib.hid (pred_walk (f k).1 (f k).2 d bx wr CB.out false (by simpa using hd))
        clear hd
        go_wp2_with fail
        refine HC.out.mono ?_; rintro e w1 ⟨rfl, hw1⟩
        have H1 := Lib.hid hw1
        clear hw1
        go_wp2_with fail
        go_roundw
        case rel =>
          refine ⟨k + 1, by omega, by go_num, HQ.out.out.1.trans (H1.out.mono HQ.out.out.1.size), fun i hi => ?_⟩
          by_cases e : i = k
          · subst e; exact HD.out
          · exact HQ.out.out.2 i (by omega)
        case measure => simp [intOf]; omega
    · obtain rfl : k = n := by omega
      go_wp2_with fail
      go_ret
      exact ⟨-1, rfl, .inl ⟨rfl, HQ.out.out.2⟩, HQ.out.out.1⟩

set_option maxHeartbeats 400000 in
theorem index_none (A : Option Addr) (cap : Nat) (u : Value) (w : World) :
    Calls Tryz.prog 66 #[.slice A 0 cap, u] w fun e w' => e = .returned (.int .i64 (-1)) ∧ w = w' := by
  go_enter Tryz.func66, Tryz.ntmps66
  go_wp2_with fail
  go_loopw [8] (fun x wr => x = .int .i64 0 ∧ wr = w) (fun _ _ => 0)
  case atStart => exact ⟨rfl, rfl⟩
  case round =>
    obtain ⟨rfl, rfl⟩ := hrel
    go_wp2_with fail
    go_ret
    exact ⟨rfl, rfl⟩

/-! DeleteFunc. -/
def Sifted (p : Nat) (v : Value) (f : Nat → Pr) (n : Nat) (d : Int) (w : World) (i j : Nat) (wr : World) : Prop :=
  ∃ h, Held wr p v h n ∧ Trn w.heap.size p v.ownBlock w wr ∧ vals h i = (vals f j).filter (fun x => !(x.2 == d)) ∧ (∀ k, j ≤ k → k < n → h k = f k) ∧ i < j ∧ j ≤ n
theorem sift_start {p : Nat} {v : Value} {f : Nat → Pr} {n : Nat} {d : Int} {w wr : World} {k : Nat} (hv : Held wr p v f n) (ht : Trn w.heap.size p v.ownBlock w wr) (hk : k < n) (he : (f k).2 = d) (hb : ∀ i, i < k → ¬ (f i).2 = d) : Sifted p v f n d w k (k + 1) wr := by
  refine ⟨f, hv, ht, ?_, fun _ _ _ => rfl, by omega, by omega⟩
  rw [vals_succ, List.filter_append]
  have h1 : (vals f k).filter (fun x => !(x.2 == d)) = vals f k := by
    rw [List.filter_eq_self]
    intro x hx
    obtain ⟨i, hi, rfl⟩ := List.mem_map.1 hx
    have := hb i (List.mem_range.1 hi)
    simpa using this
  rw [h1]
  simp [he]
theorem sift_keep {p : Nat} {v : Value} {f h : Nat → Pr} {n : Nat} {d : Int} {w w1 : World} {i j : Nat} (hs : vals h i = (vals f j).filter (fun x => !(x.2 == d))) (hf : ∀ k, j ≤ k → k < n → h k = f k) (hij : i < j) (hjn : j < n)
    (hv : Held w1 p v (upd h i (f j)) n) (ht : Trn w.heap.size p v.ownBlock w w1) (hd : ¬ (f j).2 = d) : Sifted p v f n d w (i + 1) (j + 1) w1 := by
  refine ⟨_, hv, ht, ?_, fun k h1 h2 => ?_, by omega, by omega⟩
  · rw [vals_succ, vals_succ, List.filter_append, ← hs]
    have h1 : vals (upd h i (f j)) i = vals h i := vals_congr _ _ _ fun k hk => by unfold upd; rw [if_neg (by omega)]
    have h2 : upd h i (f j) i = f j := by simp [upd]
    rw [h1, h2]
    simp [hd]
  · unfold upd; rw [if_neg (by omega)]; exact hf k (by omega) h2
theorem sift_skip {p : Nat} {v : Value} {f h : Nat → Pr} {n : Nat} {d : Int} {w w1 : World} {i j : Nat} (hs : vals h i = (vals f j).filter (fun x => !(x.2 == d))) (hf : ∀ k, j ≤ k → k < n → h k = f k) (hij : i < j) (hjn : j < n)
    (hv : Held w1 p v h n) (ht : Trn w.heap.size p v.ownBlock w w1) (hd : (f j).2 = d) : Sifted p v f n d w i (j + 1) w1 := by
  refine ⟨_, hv, ht, ?_, fun k h1 h2 => hf k (by omega) h2, by omega, by omega⟩
  rw [vals_succ, List.filter_append, ← hs]
  simp [hd]

/-- What DeleteFunc leaves: the slice u with the pairs that stay; the queue's own cell still holds v. -/
def Sieved (p : Nat) (v : Value) (f : Nat → Pr) (n : Nat) (d : Int) (w : World) (e : Ending) (w' : World) : Prop :=
  ∃ A m c h, e = .returned (.slice A m c) ∧ w'.heap[p]? = some (.cells #[v] 29 (0, 0)) ∧ w'.ownsRow 0 61 2 (.slice A m c) m (pcs h m) ∧ vals h m = (vals f n).filter (fun x => !(x.2 == d)) ∧
    m ≤ n ∧ (Value.slice A m c).ownBlock = v.ownBlock ∧ Trn w.heap.size p v.ownBlock w w'

theorem run_clear_row {P : Program} (w : World) (t e ty : TypeId) (z : Value) (zs : List Value) (ht : P.underlying t = some (.slice e)) (hv : ∀ w, (zeroValue e).run P w = .ok z w) (g o n c : Nat) (hn : 0 < n) (cur : Array Value) (hg : w.heap[g]? = some (.cells cur e (0, 0)))
    (hzs : (Builtin.zeroCells z.cells n).toList = zs) (hl : o + zs.length ≤ cur.size) (h1 : ∀ u ∈ zs, u.oneCell' = true) :
    (Builtin.clear_ #[t] ty #[.slice (some ⟨g, o, none⟩) n c]).run P w = .ok (.tuple #[]) (w.setRow g (cur.toList.take o ++ zs ++ cur.toList.drop (o + zs.length)).toArray) := by
  have hst := run_storeCells_at P g o e zs 0 cur w hg (by simpa using hl) h1
  simp only [Nat.add_zero] at hst
  obtain ⟨m, rfl⟩ : ∃ m, n = m + 1 := ⟨n - 1, by omega⟩
  simp [Builtin.clear_, run_underlying ht, hv, hzs, hst]
theorem zeroP (w : World) : (zeroValue 61).run Tryz.prog w = .ok (.agg #[.int .i64 0, .int .i64 0]) w := by kernel_rfl
theorem zerosP (n : Nat) : ∀ u ∈ (Builtin.zeroCells (Value.agg #[.int .i64 0, .int .i64 0]).cells n).toList, u.oneCell' = true := by
  intro u hu
  simp [Builtin.zeroCells, Value.cells] at hu
  obtain ⟨i, hi, rfl⟩ := hu
  have h2 : i % 2 = 0 ∨ i % 2 = 1 := by omega
  rcases h2 with h2 | h2 <;> simp [h2] <;> rfl
/-- The cleared end of the row. -/
theorem cleared {w : World} {p g n cap i : Nat} {h : Nat → Pr} (hv : Held w p (.slice (some ⟨g, 0, none⟩) n cap) h n) (hi : i < n) :
    ∃ row : Array Value, (∀ ty, (Builtin.clear_ #[27] ty #[.slice (some ⟨g, i * 2, none⟩) (n - i) (cap - i)]).run Tryz.prog w = .ok (.tuple #[]) (w.setRow g row)) ∧
      (w.setRow g row).ownsRow 0 61 2 (.slice (some ⟨g, 0, none⟩) i cap) i (pcs h i) := by
  obtain ⟨g', cap', cur, hsl, hg, h1, h2, h3, h4⟩ := hv.form (by omega)
  simp only [Value.slice.injEq, Option.some.injEq, Addr.mk.injEq, and_true, true_and] at hsl
  obtain ⟨rfl, rfl⟩ := hsl
  have hz : (Builtin.zeroCells (Value.agg #[.int .i64 0, .int .i64 0]).cells (n - i)).toList.length = (n - i) * 2 := by rw [Array.length_toList, size_zeroCells]; rfl
  have hrun := fun ty => run_clear_row w 27 61 ty _ _ Tryz.underlying27 zeroP g (i * 2) (n - i) (cap - i) (by omega) cur hg rfl (by rw [hz]; omega) (zerosP _)
  refine ⟨_, hrun, pcs_length h i, .inr ⟨g, cap, _, rfl, Nat.zero_le _, setRow_heap w g cur _ _ _ hg, by omega, h2, ?_, ?_⟩⟩
  · simp only [List.size_toArray, List.length_append, List.length_take, List.length_drop, Array.length_toList, hz]
    omega
  · have ht : (cur.toList.take (i * 2)).length = i * 2 := by rw [List.length_take, Array.length_toList]; omega
    simp only [List.append_assoc]
    rw [List.take_left' ht]
    have : pcs h i = (pcs h n).take (i * 2) := by
      obtain ⟨m, rfl⟩ : ∃ m, n = i + m := ⟨n - i, by omega⟩
      clear hv hi hrun hz h1 h3 h4 ht
      induction m with
      | zero => rw [List.take_of_length_le (by rw [pcs_length]; omega)]; rfl
      | succ m ih => rw [← Nat.add_assoc, pcs_succ, List.take_append_of_le_length (by rw [pcs_length]; omega)]; exact ih
    rw [this, ← h4, List.take_take]
    congr 1
    omega

set_option maxHeartbeats 2000000 in
theorem delete_walk (p g n cap : Nat) (f : Nat → Pr) (d : Int) (bx : Nat) (w : World) (hv : Held w p (.slice (some ⟨g, 0, none⟩) n cap) f n) (hn : n ≤ 1000000) (hb : w.cell? ⟨bx, 0, none⟩ = some (.int .i64 d)) (hp : bx ≠ p) (hg : bx ≠ g) :
    Calls Tryz.prog 20 #[.slice (some ⟨g, 0, none⟩) n cap, .func (.func 21) #[] #[.pointer (some ⟨bx, 0, none⟩)]] w fun e w' => Sieved p (.slice (some ⟨g, 0, none⟩) n cap) f n d w e w' := by
  have HV := Lib.hid hv
  have HB := Lib.hid hb
  have hlt := World.block_lt_of_cell? w _ hb
  simp only at hlt
  have HX := Lib.hid hlt
  have HI := Lib.hid (index_walk p g n cap f d bx w hv hn hb)
  have hN : (n : Int) ≤ 1000000 := by omega
  have HPX := Lib.hid hp
  have HGX := Lib.hid hg
  clear hv hb hlt hp hg
  go_enter Tryz.func20, Tryz.ntmps20
  go_wp2_with fail
  refine HI.out.mono ?_; rintro e w1 ⟨r, rfl, hf, hw1⟩
  have H1 := Lib.hid hw1
  clear hw1
  rcases hf with ⟨rfl, hno⟩ | ⟨k, rfl, hk, hke, hkb⟩
  · have HNO := Lib.hid hno
    clear hno
    go_wp2_with fail
    go_ret
    refine ⟨_, n, cap, f, rfl, (HV.out.keep H1.out).1, (HV.out.keep H1.out).2, ?_, Nat.le_refl _, rfl, Trn.of_below H1.out⟩
    symm
    rw [List.filter_eq_self]
    intro x hx
    obtain ⟨i, hi, rfl⟩ := List.mem_map.1 hx
    have := HNO.out i (List.mem_range.1 hi)
    simpa using this
  · have HS := Lib.hid (sift_start (HV.out.keep H1.out) (Trn.of_below H1.out) hk hke hkb)
    have hkk : ((k : Int) == -1) = false := by rw [beq_eq_false_iff_ne]; omega
    have hk1 : (k : Int) ≤ 1000000 := by omega
    clear hke hkb
    go_wp2_with fail
    go_loopw [5, 6] (fun x y wr => ∃ i j : Nat, x = .int .i64 i ∧ y = .int .i64 j ∧ Sifted p (.slice (some ⟨g, 0, none⟩) n cap) f n d w i j wr) (fun _ y _ => n - (intOf y).toNat)
    case atStart => exact ⟨k, k + 1, rfl, by go_num, HS.out⟩
    case round =>
      obtain ⟨i, j, rfl, rfl, h, q1, q2, q3, q4, q5, q6⟩ := hrel
      have Q1 := Lib.hid q1
      have Q2 := Lib.hid q2
      have Q3 := Lib.hid q3
      have Q4 := Lib.hid q4
      clear q1 q2 q3 q4
      have b0 : (0 : Int) ≤ (j : Int) := by omega
      have b1 : (j : Int) ≤ (n : Int) := by omega
      have b2 : (0 : Int) ≤ (i : Int) := by omega
      have b3 : (i : Int) < (n : Int) := by omega
      by_cases hlt : j < n
      · have c0 := Q1.out.cell0 rfl hlt
        have c1 := Q1.out.cell1 rfl hlt
        rw [Q4.out j (Nat.le_refl _) hlt] at c0 c1
        have cb := (Q2.out.cell (x := ⟨bx, 0, none⟩) HX.out HPX.out (fun e => HGX.out (by simpa [Value.ownBlock] using e))).trans HB.out
        have CB := Lib.hid cb
        clear cb
        have b4 : (j : Int) < (n : Int) := by omega
        have ci0 := Q1.out.cell0 rfl (i := i) (by omega)
        have ci1 := Q1.out.cell1 rfl (i := i) (by omega)
        have hfz := Q1.out.free rfl
        have hgl := Q1.out.row_lt rfl
        have CI := Lib.hid ci0
        have CJ := Lib.hid ci1
        have FZ := Lib.hid hfz
        have GL := Lib.hid hgl
        clear ci0 ci1 hfz hgl
        have CA : Hid ((wr.alloc (.cells #[.int .i64 (f j).1, .int .i64 (f j).2] 61)).cell? ⟨bx, 0, none⟩ = some (.int .i64 d)) :=
          Lib.hid (Lib.cell?_alloc_some _ CB.out)
        have hnew := heap_alloc_new wr (.cells #[.int .i64 (f j).1, .int .i64 (f j).2] 61)
        have N0 := Lib.hid (cell_of_row _ wr.heap.size 0 _ _ _ hnew)
        have N1 := Lib.hid (cell_of_row _ wr.heap.size 1 _ _ _ hnew)
        clear hnew
        by_cases hd : (f j).2 = d
        · have HC := Lib.hid (pred_walk (f j).1 (f j).2 d bx _ CA.out true (by simpa using hd))
          have HD := Lib.hid hd
          clear hd
          go_wp2_with fail
          refine HC.out.mono ?_; rintro e X1 ⟨rfl, hx⟩
          have H2 := Lib.hid (((Below.refl wr.heap.size wr).alloc (Nat.le_refl _) _).trans (hx.mono (by simp)))
          clear hx
          go_wp2_with fail
          go_roundw
          case rel => exact ⟨i, j + 1, rfl, by go_num, sift_skip Q3.out Q4.out q5 hlt (Q1.out.keep H2.out) (Q2.out.trans (Trn.of_below (H2.out.mono Q2.out.size))) HD.out⟩
          case measure => simp [intOf]; omega
        · have HC := Lib.hid (pred_walk (f j).1 (f j).2 d bx _ CA.out false (by simpa using hd))
          have HD := Lib.hid hd
          clear hd
          go_wp2_with fail
          refine HC.out.mono ?_; rintro e X1 ⟨rfl, hx⟩
          have H2 := Lib.hid (((Below.refl wr.heap.size wr).alloc (Nat.le_refl _) _).trans (hx.mono (by simp)))
          have t0 := (hx.cell (p := ⟨wr.heap.size, 0, none⟩) (by simp)).trans N0.out
          have t1 := (hx.cell (p := ⟨wr.heap.size, 1, none⟩) (by simp)).trans N1.out
          have d0 := (H2.out.cell (p := ⟨g, i * 2, none⟩) GL.out).trans CI.out
          have d1 := (H2.out.cell (p := ⟨g, i * 2 + 1, none⟩) GL.out).trans CJ.out
          have f0 := (H2.out.frozen (p := ⟨g, i * 2, none⟩) GL.out).trans (FZ.out _)
          have f1 := (H2.out.frozen (p := ⟨g, i * 2 + 1, none⟩) GL.out).trans (FZ.out _)
          have b5 : (i : Int) ≤ 1000000 := by omega
          clear hx
          go_wp2_with fail
          go_roundw
          case rel =>
            refine ⟨i + 1, j + 1, by go_num, by go_num, sift_keep Q3.out Q4.out q5 hlt ((Q1.out.keep H2.out).set rfl (i := i) (by omega) (f j).1 (f j).2) ?_ HD.out⟩
            exact ((Q2.out.trans (Trn.of_below (H2.out.mono Q2.out.size))).setCell (x := ⟨g, i * 2, none⟩) (.inr (.inl rfl)) _).setCell (x := ⟨g, i * 2 + 1, none⟩) (.inr (.inl rfl)) _
          case measure => simp [intOf]; omega
      · obtain rfl : j = n := by omega
        have b5 : ¬ cap = i := by
          obtain ⟨_, _, _, e, _, h1, _⟩ := Q1.out.form (by omega)
          simp at e
          omega
        obtain ⟨row, hrow, hown⟩ := cleared Q1.out q5
        have HOWN := Lib.hid hown
        have b6 : (i : Int) ≤ (cap : Int) := by
          obtain ⟨_, _, _, e, _, h1, _⟩ := Q1.out.form (by omega)
          simp at e
          omega
        clear hown
        go_wp2_with fail
        go_ret
        have hgp : p ≠ g := fun e => Q1.out.ne (by rw [e]; rfl)
        refine ⟨some ⟨g, 0, none⟩, i, cap, h, rfl, (setRow_other wr g p row hgp).trans Q1.out.1, HOWN.out, Q3.out, by omega, rfl, ?_⟩
        refine Q2.out.trans ⟨rfl, rfl, rfl, by simp, fun k h1 h2 h3 => setRow_other wr g k row (fun e => h3 (by rw [e]; rfl))⟩

set_option maxHeartbeats 400000 in
theorem delete_none (A : Option Addr) (cap : Nat) (u : Value) (w : World) :
    Calls Tryz.prog 20 #[.slice A 0 cap, u] w fun e w' => e = .returned (.slice A 0 cap) ∧ w = w' := by
  go_enter Tryz.func20, Tryz.ntmps20
  go_wp2_with fail
  refine (index_none _ _ _ _).mono ?_; rintro e w1 ⟨rfl, rfl⟩
  go_wp2_with fail
  go_ret
  exact ⟨rfl, rfl⟩
/-- Whatever it holds. -/
theorem delete_any (p : Nat) (v : Value) (f : Nat → Pr) (n : Nat) (d : Int) (bx : Nat) (w : World) (hv : Held w p v f n) (hn : n ≤ 1000000) (hb : w.cell? ⟨bx, 0, none⟩ = some (.int .i64 d)) (hp : bx ≠ p) (hg : some bx ≠ v.ownBlock) :
    Calls Tryz.prog 20 #[v, .func (.func 21) #[] #[.pointer (some ⟨bx, 0, none⟩)]] w fun e w' => Sieved p v f n d w e w' := by
  by_cases h0 : n = 0
  · subst h0
    obtain ⟨A, c, rfl⟩ := hv.slice
    exact (delete_none A c _ w).mono fun e w' ⟨he, hw⟩ => by
      subst hw
      exact ⟨A, 0, c, f, he, hv.1, hv.2, by simp [vals], Nat.le_refl _, rfl, Trn.refl _ _ _ _⟩
  · obtain ⟨g, cap, cur, rfl, _⟩ := hv.form (by omega)
    exact delete_walk p g n cap f d bx w hv hn hb hp (fun e => hg (by rw [e]; rfl))

/-- What Drop leaves. -/
def Dropped (p : Nat) (v : Value) (f : Nat → Pr) (n : Nat) (d : Int) (w : World) (e : Ending) (w' : World) : Prop :=
  ∃ m : Nat, m = ((vals f n).filter (fun x => !(x.2 == d))).length ∧ e = .returned (.int .i64 ((n : Int) - m)) ∧ Went p v ((vals f n).filter (fun x => !(x.2 == d))) w w'

set_option maxHeartbeats 1000000 in
theorem drop_walk (p : Nat) (v : Value) (f : Nat → Pr) (n : Nat) (d : Int) (w : World) (hv : Held w p v f n) (hn : n ≤ 1000000) :
    Calls Tryz.prog 9 #[ptr p, .int .i64 d] w fun e w' => Dropped p v f n d w e w' := by
  have hal : Below w.heap.size w (w.alloc (.cells #[.int .i64 d] 3)) := (Below.refl _ _).alloc (Nat.le_refl _) _
  have hv1 := hv.keep hal
  have hbx : (w.alloc (.cells #[.int .i64 d] 3)).cell? ⟨w.heap.size, 0, none⟩ = some (.int .i64 d) := cell_of_row _ w.heap.size 0 _ _ _ (heap_alloc_new w _)
  have hpl := hv.lt
  have HD := Lib.hid (delete_any p v f n d w.heap.size _ hv1 hn hbx (by omega) (fun e => by have := hv.row_lt e.symm; omega))
  have hc : w.cell? ⟨p, 0, none⟩ = some v := hv.pcell
  have HV := Lib.hid hv
  have HPL := Lib.hid hpl
  have HAL := Lib.hid hal
  have hca := hv1.pcell
  obtain ⟨A0, c0, rfl⟩ := hv.slice
  have hN : (n : Int) ≤ 1000000 := by omega
  clear hv hv1 hbx hpl hal hc
  go_enter Tryz.func9, Tryz.ntmps9
  go_wp2_with fail
  refine HD.out.mono ?_; rintro e w1 ⟨A, m, c, h, rfl, s1, s2, s3, s4, s5, s6⟩
  have hc1 : w1.cell? ⟨p, 0, none⟩ = some (.slice A0 n c0) := cell_of_row w1 p 0 _ _ _ s1
  have hf1 : w1.frozen? ⟨p, 0, none⟩ = false := Lib.frozen_of_heap s1 0
  have ht : Trn w.heap.size p (Value.slice A0 n c0).ownBlock w (w1.setCell ⟨p, 0, none⟩ (.slice A m c)) :=
    (Trn.trans (Trn.of_below HAL.out) ⟨s6.os, s6.tape, s6.output, s6.size, fun k a b c => s6.block k (by simp; omega) b c⟩).setCell (x := ⟨p, 0, none⟩) (.inl rfl) _
  have hH : Held (w1.setCell ⟨p, 0, none⟩ (.slice A m c)) p (.slice A m c) h m := by
    refine ⟨by rw [setCell_eq_setRow w1 p 0 _ _ _ _ s1, setRow_heap w1 p _ _ _ _ s1]; rfl, own_far s2 (fun e => ?_) _⟩
    rw [s5] at e
    exact HV.out.ne e
  have hS : St w.heap.size p (Value.slice A0 n c0).ownBlock (w1.setCell ⟨p, 0, none⟩ (.slice A m c)) h m := ⟨by rw [World.size_setCell]; have := HAL.out.size; have := s6.size; omega, HPL.out, by omega, _, hH, .inl s5⟩
  have HI := Lib.hid (init_any (meth w.heap.size p (Value.slice A0 n c0).ownBlock) (meth2 w.heap.size p (Value.slice A0 n c0).ownBlock) le_total le_trans h m _ hS (by omega))
  have S3 := Lib.hid s3
  have S4 := Lib.hid s4
  have HT := Lib.hid ht
  clear s1 s2 s3 s4 s5 s6 ht hH hS
  go_wp2_with fail
  refine HI.out.mono ?_; rintro e w2 ⟨rfl, g, ⟨g1, g2, g3, v2, g4, g5⟩, k2, k3, k4, k5⟩
  obtain ⟨A2, c2, rfl⟩ := g4.slice
  have hc2 := g4.pcell
  have hmn : (m : Int) ≤ (n : Int) := by have := S4.out; omega
  have hm0 : (0 : Int) ≤ (m : Int) := by omega
  have HE : Hid (Went p (Value.slice A0 n c0) ((vals f n).filter (fun x => !(x.2 == d))) w w2) := ⟨_, ⟨g, m, g4, k2, k3.trans (by rw [S3.out]), g3⟩, g5, HT.out.trans k5⟩
  clear g1 g2 g3 g4 g5 k2 k3 k4 k5
  go_wp2_with fail
  go_ret
  exact ⟨m, by rw [← S3.out, vals_length], rfl, HE.out⟩
theorem drop_q (p : Nat) (v : Value) (l : List Pr) (d : Int) (w : World) (h : Qu w p v l) :
    Calls Tryz.prog 9 #[ptr p, .int .i64 d] w fun e w' => e = .returned (.int .i64 ((l.length : Int) - (l.filter (fun x => !(x.2 == d))).length)) ∧ Went p v (l.filter (fun x => !(x.2 == d))) w w' := by
  obtain ⟨f, n, h1, h2, h3, h4⟩ := h
  refine (drop_walk p v f n d w h1 h4).mono fun e w' ⟨m, hm, he, v', hq, hr⟩ => ?_
  have hp := h3.filter (fun x => !(x.2 == d))
  rw [hp.length_eq] at hm
  rw [← Qu.length (w := w) (p := p) (v := v) h3, ← hm]
  exact ⟨he, v', hq.perm hp, hr⟩
theorem drop_nil (d : Int) (w : World) : Calls Tryz.prog 9 #[.pointer none, .int .i64 d] w fun e w' => e = .returned (.int .i64 0) ∧ Below w.heap.size w w' := by
  go_enter Tryz.func9, Tryz.ntmps9
  go_wp2_with fail
  go_ret
  exact ⟨rfl, (Below.refl _ _).alloc (Nat.le_refl _) _⟩
end Go.Proofs.YtfelhepdcnckhaaGreat
