/- Lists of texts made whole; Zeros. -/
import Derived.Test.YtbdpmfgphhgigaaGreatBase
import Derived.Laws.MakeOwn
namespace Go.Proofs.YtbdpmfgphhgigaaGreat
open Go.ChangeShapes Go.WideShapes Go.ChangeAt Go.RowKit
set_option linter.unusedVariables false
set_option linter.unusedSimpArgs false
set_option maxRecDepth 100000
/-- A block that is just these texts. -/
def Tab (w : World) (g : Nat) (l : List BA) : Prop := Bx w g (tcs l).toArray 9
theorem Tab.cell {w : World} {g : Nat} {l : List BA} (h : Tab w g l) {k : Nat} (hk : k < l.length) : w.cell? ⟨g, k, none⟩ = some (.string (str (l.getD k []))) := by
  rw [Bx.cell h k]
  simpa using tcs_get hk
theorem Tab.free {w : World} {g : Nat} {l : List BA} (h : Tab w g l) (k : Nat) : w.frozen? ⟨g, k, none⟩ = false := Bx.free h k
theorem Tab.lt {w : World} {g : Nat} {l : List BA} (h : Tab w g l) : g < w.heap.size := Bx.lt h
theorem Tab.held {w w' : World} {g : Nat} {l : List BA} (h : Tab w g l) (hb : Below w.heap.size w w') : Tab w' g l := Bx.held h hb
theorem Tab.set {w : World} {g : Nat} {l : List BA} (h : Tab w g l) (k : Nat) (b : BA) : Tab (w.setCell ⟨g, k, none⟩ (.string (str b))) g (l.set k b) := by
  have := Bx.set h k (.string (str b))
  unfold Tab
  rw [show (tcs (l.set k b)).toArray = (tcs l).toArray.setIfInBounds k (.string (str b)) by simp [tcs, List.map_set]]
  exact this
theorem Tab.txt {w : World} {g : Nat} {l : List BA} (h : Tab w g l) (hs : ∀ x ∈ l, x.length ≤ maxLen) (hm : l.length ≤ maxLen) : Txt w.heap.size w (some ⟨g, 0, none⟩) l.length l :=
  ⟨rfl, hm, fun k hk => ⟨g, 0, rfl, h.lt, by rw [Nat.zero_add]; exact h.cell hk, hs _ (getD_mem' _ hk)⟩⟩
theorem make_tab (n : Nat) (hn : n ≤ 1000) (w : World) : ∃ w2, (Instr.makeSlice 24 (.int .i64 n) (.int .i64 n)).run Tryz.prog w = .ok (.slice (some ⟨w.heap.size, 0, none⟩) n n) w2 ∧ Tab w2 w.heap.size (List.replicate n []) ∧ Below w.heap.size w w2 := by
  obtain ⟨i0, hi, hz0, hz1, hz2⟩ := info_parts info_s
  have hmk := run_make (P := Tryz.prog) w 24 9 i0 _ Tryz.underlying24 hi hz0 .i64 .i64 (n : Int) (n : Int) (by omega) (Int.le_refl _) (by rw [hz2]; omega) (by omega)
  rw [hz1] at hmk
  simp only [Int.toNat_natCast, Value.cells, Nat.mul_one] at hmk
  refine ⟨_, hmk, ?_, (Below.refl _ _).alloc (Nat.le_refl _) _⟩
  have e : (tcs (List.replicate n [])).toArray = madeCells #[Value.string ⟨#[]⟩] n := by
    apply Array.ext'
    apply List.ext_getElem
    · simp [madeCells, tcs]
    · intro i h1 h2
      simp [madeCells, Nat.mod_one, tcs, str]
  unfold Tab
  rw [e]
  exact heap_alloc_new w _
theorem made_bytes (n : Nat) : madeCells #[Value.int .u8 0] n = (bcs (zs n)).toArray := by
  apply Array.ext'
  apply List.ext_getElem
  · simp [madeCells, zs, bcs]
  · intro i h1 h2
    simp [madeCells, Nat.mod_one, zs, bcs]
theorem make_str (n : Nat) (hn : n ≤ 1000) (w : World) : ∃ w2, (Instr.makeSlice 64 (.int .i64 n) (.int .i64 n)).run Tryz.prog w = .ok (.slice (some ⟨w.heap.size, 0, none⟩) n n) w2 ∧ (convert 64 9 (.slice (some ⟨w.heap.size, 0, none⟩) n n)).run Tryz.prog w2 = .ok (.string (str (zs n))) w2 ∧ Below w.heap.size w w2 := by
  obtain ⟨i0, hi, hz0, hz1, hz2⟩ := info_parts info_b
  have hmk := run_make (P := Tryz.prog) w 64 5 i0 _ Tryz.underlying64 hi hz0 .i64 .i64 (n : Int) (n : Int) (by omega) (Int.le_refl _) (by rw [hz2]; omega) (by omega)
  rw [hz1] at hmk
  simp only [Int.toNat_natCast, Value.cells, Nat.mul_one] at hmk
  refine ⟨_, hmk, ?_, (Below.refl _ _).alloc (Nat.le_refl _) _⟩
  rw [made_bytes]
  have h := run_convert_bytes_back (P := Tryz.prog) (w.alloc (.cells (bcs (zs n)).toArray 5)) 64 9 5 ⟨w.heap.size, 0, none⟩ n (zs n) Tryz.underlying64 Tryz.underlying5 Tryz.underlying9 fun j hj => by
    rw [add_plain, Nat.zero_add, cell_of_row _ _ _ _ _ _ (heap_alloc_new w _)]
    simp [bcs, List.getElem?_eq_getElem hj]
  rw [zs_length] at h
  exact h
theorem zs_none : getOkX (zs 64) = false := zeros_none rfl
theorem rep_set {l : List BA} {n k : Nat} {z : BA} (hk : k < n) (h : l = List.replicate k z ++ List.replicate (n - k) []) : l.set k z = List.replicate (k + 1) z ++ List.replicate (n - (k + 1)) [] := by
  subst h
  rw [List.set_append_right _ _ (by simp), List.length_replicate, Nat.sub_self, show n - k = (n - (k + 1)) + 1 by omega, List.replicate_succ, List.set_cons_zero, List.replicate_succ' (n := k), List.append_assoc]
  rfl
theorem scan_none {n : Nat} {z : BA} (h : getOkX z = false) : scan (List.replicate n z) = sc0 := by
  cases n with
  | zero => rfl
  | succ n => rw [List.replicate_succ]; exact scan_zeros h
end Go.Proofs.YtbdpmfgphhgigaaGreat
