/- Rows of pages; marks: what the book's calls on lists of pages rest on. -/
import Derived.Test.YtoladghpoddlgaaLent
import Derived.Maps.AppendAt
import Derived.Deep.RegionLaw
import Derived.Deep.RegionWith
namespace Go.Proofs.Ytoladghpoddlgaa
open Go.ChangeShapes Go.WideShapes Go.ChangeAt Go.RowKit
set_option linter.unusedVariables false
set_option maxRecDepth 100000
section
variable {P : Program} (w : World)
theorem step_append_src {ops : Array Oper} {o : Oper} {a : Act} {K : Act → World → Prop} {Q : Exit → Act → World → Prop} {E : Prop} (hg : o.guard = none) (s x : Operand) (t : TypeId) (ho : o.op = .call { callee := .builtin .append, args := #[s, x], argTypes := #[t, t] })
    (e : TypeId) (i : TypeInfo) (z : Value) (size bytes : Nat) (ht : P.underlying t = some (.slice e)) (hi : P.info? e = some i) (hz : i.zero = some z)
    (hsize : i.size = size) (hby : i.bytes = bytes) (hzs : z.cells.size = size) (hsz : 0 < size) (base : Nat)
    (v : Value) (n : Nat) (xs : List Value) (hv : a.eval s = v) (hown : w.ownsRow base e size v n xs)
    (A : Option Addr) (m c : Nat) (news : List Value) (hx : a.eval x = .slice A m c) (hs : Src w size A m news) (h1 : ∀ u ∈ news, u.oneCell' = true)
    (h63 : n + m ≤ maxLen) (hbytes : (n + m) * bytes ≤ 140737488355328) (hbase : base ≤ w.heap.size)
    (h : ∀ v' w', w'.ownsRow base e size v' (n + m) (xs ++ news) → w.grownBy w' v.ownBlock → (v'.ownBlock = v.ownBlock ∨ v'.ownBlock = some w.heap.size) → K (a.put o.dst v') w') :
    if Region.wanted o (yielded ops a.tmps) = true then Oper.wp P o a w K Q else E := by
  have hw : Region.wanted o (yielded ops a.tmps) = true := by simp [Region.wanted, hg]
  rw [if_pos hw]
  exact wp_append_src w s x t ho e i z size bytes ht hi hz hsize hby hzs hsz base v n xs hv hown A m c news hx hs h1 h63 hbytes hbase h
end
/-- No string of l is longer than memory. -/
def Sz (l : List Pg) : Prop := ∀ p ∈ l, p.b.size ≤ maxLen
def Row (w : World) (A : Option Addr) (n c : Nat) (l : List Pg) : Prop := n = l.length ∧ w.ownsRow 0 26 4 (.slice A n c) n (pcs l)
theorem Row.pgs {w : World} {A : Option Addr} {n c : Nat} {l : List Pg} (h : Row w A n c l) (hs : Sz l) (hn : n ≤ maxLen) : Pgs w.heap.size w A l := Own.pgs h.2 h.1.symm hs hn
theorem Row.below {w w' : World} {A : Option Addr} {n c : Nat} {l : List Pg} (h : Row w A n c l) (hb : Below w.heap.size w w') : Row w' A n c l := ⟨h.1, owns_kept2 h.2 fun g hg => hb.block g (h.2.lt g hg).2⟩
theorem Row.at {w : World} {A : Option Addr} {n c : Nat} {l : List Pg} (h : Row w A n c l) {i : Nat} (hi : i < n) : ∃ g, A = some ⟨g, 0, none⟩ ∧ PgAt w g (i * 4) (l.getD i nilP) := by
  obtain ⟨hn, h⟩ := h
  rcases h.2 with ⟨_, h2⟩ | ⟨g, cap, cur, h1, _⟩
  · omega
  · simp only [Value.slice.injEq] at h1
    obtain ⟨rfl, _, rfl⟩ := h1
    have hc := h.cells (g := g) rfl
    obtain ⟨g0, g1, g2, g3⟩ := pcs_get l i (by omega)
    have e0 := hc (i * 4) _ g0
    have e1 := hc (i * 4 + 1) _ g1
    have e2 := hc (i * 4 + 2) _ g2
    have e3 := hc (i * 4 + 3) _ g3
    rw [add_plain, Nat.zero_add] at e0 e1 e2 e3
    exact ⟨g, rfl, e0, e1, e2, e3⟩
theorem NewL.row {w : World} {A : Option Addr} {c : Nat} {l : List Pg} {B : Nat} (h : w.ownsRow B 26 4 (.slice A l.length c) l.length (pcs l)) : Row w A l.length c l := ⟨rfl, own_base h (Nat.zero_le _)⟩

/-! Marks. -/
def mark (i k : Nat) : Pg := ⟨0, -1000 * (i : Int) - (k : Int) - 1, 0, ⟨#[]⟩⟩
def marks (i a n : Nat) : List Pg := (List.range n).map fun k => mark i (a + k)
theorem marks_sz (i a n : Nat) : Sz (marks i a n) := by
  intro p hp
  obtain ⟨k, _, rfl⟩ := List.mem_map.1 hp
  exact by unfold mark maxLen; simp [ByteArray.size]
theorem marks_length (i a n : Nat) : (marks i a n).length = n := by simp [marks]
theorem marks_succ (i a n : Nat) : marks i a (n + 1) = marks i a n ++ [mark i (a + n)] := by simp [marks, List.range_succ]
theorem marks_add (i a n m : Nat) : marks i a (n + m) = marks i a n ++ marks i (a + n) m := by
  induction m with
  | zero => simp [marks]
  | succ m ih => rw [← Nat.add_assoc, marks_succ, ih, marks_succ, List.append_assoc, Nat.add_assoc]
theorem marks_getD (i a n k : Nat) (h : k < n) : (marks i a n).getD k nilP = mark i (a + k) := by simp [marks, List.getD, h]
theorem marks_take (i a n k : Nat) (h : k ≤ n) : (marks i a n).take k = marks i a k := by
  obtain ⟨m, rfl⟩ := Nat.le.dest h
  rw [marks_add, List.take_left' (marks_length _ _ _)]

set_option maxHeartbeats 1000000 in
theorem marks_walk (i a n : Nat) (w : World) (hi : i ≤ 1000) (ha : a ≤ 10000000) (hn : n ≤ 1000000) :
    Calls Try.prog 85 #[.int .i64 i, .int .i64 a, .int .i64 n] w fun e w' => NewL (marks i a n) w e w' := by
  obtain ⟨i0, hi0, hz0, hz1, hz2⟩ := info_parts info_p
  have b1 : (i : Int) ≤ 1000 := by omega
  have b2 : (0 : Int) ≤ (i : Int) := by omega
  have b3 : (a : Int) ≤ 10000000 := by omega
  have b4 : (0 : Int) ≤ (a : Int) := by omega
  have b5 : (n : Int) ≤ 1000000 := by omega
  have b6 : (0 : Int) ≤ (n : Int) := by omega
  go_enter Try.func85, Try.ntmps85
  go_wp2_with fail
  go_loopw [7, 8] (fun v x wr => ∃ k : Nat, k ≤ n ∧ x = .int .i64 ((a : Int) + (k : Int)) ∧ Hid (wr.ownsRow w.heap.size 26 4 v k (pcs (marks i a k)) ∧ Below w.heap.size w wr)) (fun _ x _ => a + n - (intOf x).toNat)
  case atStart => exact ⟨0, Nat.zero_le _, by simp, World.ownsRow_nil _ _ _ _, Below.refl _ _⟩
  case round =>
    obtain ⟨k, hk, rfl, hq⟩ := hrel
    have HQ := Lib.hid hq
    clear hq
    have b7 : (0 : Int) ≤ (k : Int) := by omega
    by_cases hlt : k < n
    · have b8 : (a : Int) + (k : Int) < (a : Int) + (n : Int) := by omega
      have b9 : (k : Int) < (n : Int) := by omega
      have hown := HQ.out.out.1
      go_wp2_with (at_builtin; refine wpList_append_own _ rfl _ _ 23 rfl w.heap.size 26 i0 (.agg #[.int .i64 0, .int .i64 0, .int .i64 0, .string ⟨#[]⟩]) 4 40 Try.underlying23 hi0 hz0 hz1 hz2 rfl (by decide) _ _ _ rfl (hown.alloc _) ⟨wr.heap.size, 0, none⟩ 1 1 (pcell ⟨0, -1000 * (i : Int) - ((a : Int) + (k : Int)) - 1, 0, ⟨#[]⟩⟩) rfl rfl (news_four _ _ _ _ _ _) (pcell_one _) (by unfold maxLen; omega) (by omega) (by have := HQ.out.out.2.size; simp; omega) ?_; intro v' w2 hown' hgrow _; obtain ⟨g', cap', rfl⟩ := ownsRow_succ hown')
      have HO : Hid (w2.ownsRow w.heap.size 26 4 (.slice (some ⟨g', 0, none⟩) (k + 1) cap') (k + 1) (pcs (marks i a (k + 1)))) := by
        rw [Hid, marks_succ, pcs_append, pcs_single]
        have e : mark i (a + k) = ⟨0, -1000 * (i : Int) - ((a : Int) + (k : Int)) - 1, 0, ⟨#[]⟩⟩ := by unfold mark; congr 1
        rw [e]
        exact hown'
      have HB : Hid (Below w.heap.size w w2) := (HQ.out.out.2.alloc HQ.out.out.2.size _).grown hgrow (by have := HQ.out.out.2.size; simp; omega) (fun g hg => (hown.lt g hg).1)
      clear hown hown' hgrow
      go_wp2_with fail
      go_roundw
      case rel => exact ⟨k + 1, by omega, by go_num, HO.out, HB.out⟩
      case measure => simp [intOf]; omega
    · obtain rfl : k = n := by omega
      have b8 : ¬ ((a : Int) + (k : Int) < (a : Int) + (k : Int)) := by omega
      go_wp2_with fail
      go_ret
      obtain ⟨h1, h2⟩ := HQ.out.out
      have hl := marks_length i a k
      obtain ⟨A', c', rfl⟩ := own_shape h1
      exact ⟨A', c', by rw [hl]; rfl, by unfold Own; rw [hl]; exact h1, h2⟩
end Go.Proofs.Ytoladghpoddlgaa
