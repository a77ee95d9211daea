/- Plain mathematics for the simulated disk: sectors as lists of bytes, what a list of writes makes of them, which writes a crash keeps; and the cells of memory that hold them. No program. -/
import Derived.Test.YtnjggoeahaglbaaGreatRows
import Derived.Laws.AppendOwn
import Derived.Deep.MidRow
import Derived.Below
import Derived.Carry
import Derived.Lib.Hide
namespace Go.Proofs.YtnjggoeahaglbaaGreat.Dk
open Go.RowKit
set_option linter.unusedVariables false

abbrev BA := List UInt8
abbrev PW := Nat × BA

/-! What writes make of sectors. -/
def appl (last : List BA) (p : List PW) : List BA := p.foldl (fun s x => s.set x.1 x.2) last
theorem appl_nil (last : List BA) : appl last [] = last := rfl
theorem appl_snoc (last : List BA) (p : List PW) (x : PW) : appl last (p ++ [x]) = (appl last p).set x.1 x.2 := by simp [appl]
theorem appl_length (last : List BA) (p : List PW) : (appl last p).length = last.length := by
  induction p generalizing last with
  | nil => rfl
  | cons x p ih => simp only [appl, List.foldl_cons] at ih ⊢; rw [ih]; simp
/-- Each sector has 64 bytes. -/
def Whole (l : List BA) : Prop := ∀ b ∈ l, b.length = 64
theorem Whole.set {l : List BA} (h : Whole l) (k : Nat) {b : BA} (hb : b.length = 64) : Whole (l.set k b) := fun x hx => by
  rcases List.mem_or_eq_of_mem_set hx with h1 | h1
  · exact h x h1
  · rw [h1]; exact hb
theorem Whole.appl {l : List BA} (h : Whole l) {p : List PW} (hp : ∀ x ∈ p, x.2.length = 64) : Whole (appl l p) := by
  induction p generalizing l with
  | nil => exact h
  | cons x p ih => exact ih (h.set _ (hp x (by simp))) (fun y hy => hp y (by simp [hy]))
theorem Whole.getD {l : List BA} (h : Whole l) {k : Nat} (hk : k < l.length) : (l.getD k []).length = 64 := by
  rw [List.getD_eq_getElem?_getD, List.getElem?_eq_getElem hk]; exact h _ (List.getElem_mem hk)
/-- Which writes are kept. -/
def kept (p : List PW) (keep : List Bool) : List PW := ((p.zipIdx).filter fun x => keep.getD x.2 false).map (·.1)
theorem kept_nil (keep : List Bool) : kept [] keep = [] := rfl
theorem kept_snoc (p : List PW) (x : PW) (keep : List Bool) : kept (p ++ [x]) keep = kept p keep ++ (if keep.getD p.length false then [x] else []) := by
  unfold kept
  rw [List.zipIdx_append]
  simp only [List.filter_append, List.map_append, Nat.zero_add, List.zipIdx_cons, List.zipIdx_nil, List.filter_cons, List.filter_nil]
  split <;> simp
theorem kept_mem {p : List PW} {keep : List Bool} {x : PW} (h : x ∈ kept p keep) : x ∈ p := by
  unfold kept at h
  obtain ⟨y, hy, rfl⟩ := List.mem_map.1 h
  have := (List.mem_filter.1 hy).1
  obtain ⟨a, i⟩ := y
  exact (List.mem_zipIdx' this).2 ▸ List.getElem_mem _
theorem take_snoc' {α : Type} (l : List α) (k : Nat) (h : k < l.length) : l.take (k + 1) = l.take k ++ [l[k]] := by
  rw [List.take_succ_eq_append_getElem h]
/-- Undone, the last write leaves what was there ahead of it. -/
theorem appl_back (last : List BA) (p : List PW) (x : PW) : (appl last (p ++ [x])).set x.1 ((appl last p).getD x.1 []) = appl last p := by
  rw [appl_snoc, List.set_set]
  by_cases h : x.1 < (appl last p).length
  · rw [List.getD_eq_getElem?_getD, List.getElem?_eq_getElem h]; simp
  · rw [List.set_eq_of_length_le (by omega)]

/-! Cells of bytes. -/
def cb (b : BA) : List Value := b.map fun c => .int .u8 (c.toNat : Int)
theorem cb_length (b : BA) : (cb b).length = b.length := by simp [cb]
theorem cb_one (b : BA) : ∀ v ∈ cb b, v.oneCell' = true := fun v hv => by
  simp only [cb, List.mem_map] at hv; obtain ⟨c, _, rfl⟩ := hv; rfl
theorem cb_get (b : BA) (j : Nat) : (cb b)[j]? = (b[j]?).map fun c => .int .u8 (c.toNat : Int) := by simp [cb]
/-- The cells of a pending write: its sector, what it replaced, what it wrote. -/
def wcs (k : Nat) (o n : BA) : List Value := .int .i64 (k : Int) :: (cb o ++ cb n)
theorem wcs_length (k : Nat) {o n : BA} (ho : o.length = 64) (hn : n.length = 64) : (wcs k o n).length = 129 := by simp [wcs, cb_length, ho, hn]
theorem wcs_one (k : Nat) (o n : BA) : ∀ v ∈ wcs k o n, v.oneCell' = true := fun v hv => by
  simp only [wcs, List.mem_cons, List.mem_append] at hv
  rcases hv with rfl | h | h
  · rfl
  · exact cb_one _ _ h
  · exact cb_one _ _ h
/-- The cells of pending writes over sectors: each tells what it replaced. -/
def pcells (last : List BA) : List PW → List Value
  | [] => []
  | x :: p => wcs x.1 (last.getD x.1 []) x.2 ++ pcells (last.set x.1 x.2) p
theorem pcells_snoc (last : List BA) (p : List PW) (x : PW) : pcells last (p ++ [x]) = pcells last p ++ wcs x.1 ((appl last p).getD x.1 []) x.2 := by
  induction p generalizing last with
  | nil => simp [pcells, appl]
  | cons y p ih => simp [pcells, ih, appl]
/-- Sectors that there are, of 64 bytes. -/
def Fits (n : Nat) (p : List PW) : Prop := ∀ x ∈ p, x.1 < n ∧ x.2.length = 64
theorem Fits.nil (n : Nat) : Fits n [] := fun x hx => by simp at hx
theorem Fits.snoc {n : Nat} {p : List PW} (h : Fits n p) {k : Nat} {b : BA} (hk : k < n) (hb : b.length = 64) : Fits n (p ++ [(k, b)]) := fun x hx => by
  rcases List.mem_append.1 hx with hx | hx
  · exact h x hx
  · simp at hx; subst hx; exact ⟨hk, hb⟩
theorem Fits.kept {n : Nat} {p : List PW} (h : Fits n p) (keep : List Bool) : Fits n (kept p keep) := fun x hx => h x (kept_mem hx)
theorem Fits.take {n : Nat} {p : List PW} (h : Fits n p) (k : Nat) : Fits n (p.take k) := fun x hx => h x (List.mem_of_mem_take hx)
theorem Fits.whole {n : Nat} {p : List PW} (h : Fits n p) {last : List BA} (hl : Whole last) : Whole (appl last p) := hl.appl fun x hx => (h x hx).2
theorem pcells_length {n : Nat} {p : List PW} (h : Fits n p) {last : List BA} (hl : Whole last) (hn : last.length = n) : (pcells last p).length = p.length * 129 := by
  induction p generalizing last with
  | nil => rfl
  | cons x p ih =>
    have hx := h x (by simp)
    rw [pcells, List.length_append, wcs_length _ (hl.getD (by omega)) hx.2, ih (fun y hy => h y (by simp [hy])) (hl.set _ hx.2) (by simp [hn])]
    simp; omega
theorem pcells_one (last : List BA) (p : List PW) : ∀ v ∈ pcells last p, v.oneCell' = true := by
  induction p generalizing last with
  | nil => intro v hv; simp [pcells] at hv
  | cons x p ih =>
    intro v hv
    rcases List.mem_append.1 hv with h | h
    · exact wcs_one _ _ _ v h
    · exact ih _ v h
/-- The cells of write k. -/
theorem pcells_at {n : Nat} {last : List BA} (hl : Whole last) (hn : last.length = n) {p : List PW} (h : Fits n p) {k : Nat} (hk : k < p.length) :
    ∀ j v, (wcs (p[k].1) ((appl last (p.take k)).getD p[k].1 []) p[k].2)[j]? = some v → (pcells last p)[k * 129 + j]? = some v := by
  induction p generalizing last k with
  | nil => simp at hk
  | cons x p ih =>
    have hx := h x (by simp)
    have hxl : (wcs x.1 (last.getD x.1 []) x.2).length = 129 := wcs_length _ (hl.getD (by omega)) hx.2
    intro j v hv
    rw [pcells]
    cases k with
    | zero =>
      have hj := (List.getElem?_eq_some_iff.1 hv).1
      simp only [List.getElem_cons_zero, List.take_zero, appl_nil] at hv hj
      rw [Nat.zero_mul, Nat.zero_add, List.getElem?_append_left (by omega)]
      exact hv
    | succ k =>
      rw [List.getElem?_append_right (by omega), hxl, show (k + 1) * 129 + j - 129 = k * 129 + j by omega]
      refine ih (hl.set _ hx.2) (by simp [hn]) (fun y hy => h y (by simp [hy])) (by simpa using hk) j v ?_
      simpa [appl] using hv
end Go.Proofs.YtnjggoeahaglbaaGreat.Dk
