/- All that CellTells rests on. -/
import Derived.Test.YtnbfieidledfmaaGreatBook6
import Derived.Test.YtnbfieidledfmaaGreatRgot
namespace Go.Proofs.YtnbfieidledfmaaGreat
open Go.ChangeShapes Go.WideShapes Go.ChangeAt Go.RowKit
set_option linter.unusedVariables false
theorem own_lists {B : Nat} {w : World} {A : Option Addr} {n c : Nat} {l : List Ce} (h : w.ownsRow B 25 4 (.slice A n c) n (ccs l)) (hn : l.length = n) : Row w A n c l := ⟨hn.symm, own_base h (Nat.zero_le _)⟩
theorem Lent.keptB {C b : Nat} {w w' : World} {g n c : Nat} {l : List Ce} (h : Lent w g n c l) (hk : KeptB C b w w') {cs : Array Value} (hb : w.heap[b]? = some (.cells cs 45 (0, 0))) : Lent w' g n c l := ⟨h.1, owns_kept2 h.2 fun q hq => by
  obtain ⟨cur, hc⟩ := owns_block h.2 hq
  rw [hc]
  exact hk.2 q _ hc (fun e => by rw [e, hb] at hc; simp at hc) (by intro cs; simp)⟩
theorem Book.block {C b : Nat} {w : World} {es fs : List E} {ls ms : List (List Ce)} (h : Book C w b es fs ls ms) : ∃ cs, w.heap[b]? = some (.cells cs 45 (0, 0)) := by
  obtain ⟨⟨_, v, u, _, _, h1, _⟩, _⟩ := h
  exact ⟨_, h1⟩
/-- What a cell's size comes to, whatever it holds. -/
def szW (k v : ByteArray) (b : Int) : Int := if b = 0 then IntKind.i64.wrap (IntKind.i64.wrap (4 + (k.size : Int)) + (v.size : Int)) else IntKind.i64.wrap (IntKind.i64.wrap (4 + (k.size : Int)) + 2)
theorem size_w (k v : ByteArray) (b s : Int) (w : World) : Calls Tryz.prog 7 #[cv k v b s] w fun e w' => e = .returned (.int .i64 (szW k v b)) ∧ Below w.heap.size w w' := by
  unfold cv szW
  obtain ⟨y1, e1⟩ : ∃ y, IntKind.i64.wrap (4 + (k.size : Int)) = y := ⟨_, rfl⟩
  rw [e1]
  have HB := Lib.hid ((Below.refl w.heap.size w).alloc (Nat.le_refl _) (.cells #[.string k, .string v, .int .i64 b, .int .i64 s] 25))
  by_cases hb : b = 0
  · subst hb
    rw [if_pos rfl]
    obtain ⟨y2, e2⟩ : ∃ y, IntKind.i64.wrap (y1 + (v.size : Int)) = y := ⟨_, rfl⟩
    rw [e2]
    go_enter Tryz.func7, Tryz.ntmps7
    go_wp2_with fail
    go_ret
    exact ⟨rfl, HB.out⟩
  · have hb' : (b == 0) = false := by rw [beq_eq_false_iff_ne]; exact hb
    rw [if_neg hb]
    obtain ⟨y2, e2⟩ : ∃ y, IntKind.i64.wrap (y1 + 2) = y := ⟨_, rfl⟩
    rw [e2]
    go_enter Tryz.func7, Tryz.ntmps7
    go_wp2_with fail
    go_ret
    exact ⟨rfl, HB.out⟩
theorem rsize_w (k v : ByteArray) (b s : Int) (w : World) : Calls Tryz.prog 8 #[cv k v b s] w fun e w' => e = .returned (.int .i64 (szW k v b)) ∧ Below w.heap.size w w' := by
  unfold cv szW
  obtain ⟨y1, e1⟩ : ∃ y, IntKind.i64.wrap (4 + (k.size : Int)) = y := ⟨_, rfl⟩
  rw [e1]
  have HB := Lib.hid ((Below.refl w.heap.size w).alloc (Nat.le_refl _) (.cells #[.string k, .string v, .int .i64 b, .int .i64 s] 25))
  by_cases hb : b = 0
  · subst hb
    rw [if_pos rfl]
    obtain ⟨y2, e2⟩ : ∃ y, IntKind.i64.wrap (y1 + (v.size : Int)) = y := ⟨_, rfl⟩
    rw [e2]
    go_enter Tryz.func8, Tryz.ntmps8
    go_wp2_with fail
    go_ret
    exact ⟨rfl, HB.out⟩
  · have hb' : (b == 0) = false := by rw [beq_eq_false_iff_ne]; exact hb
    rw [if_neg hb]
    obtain ⟨y2, e2⟩ : ∃ y, IntKind.i64.wrap (y1 + 2) = y := ⟨_, rfl⟩
    rw [e2]
    go_enter Tryz.func8, Tryz.ntmps8
    go_wp2_with fail
    go_ret
    exact ⟨rfl, HB.out⟩
end Go.Proofs.YtnbfieidledfmaaGreat
