/- The contracts of New and of Read. -/
import Derived.Test.YtnkhfgfiifadhaaCalls
namespace Go.Proofs.Ytnkhfgfiifadhaa
open Go.ChangeShapes Go.WideShapes Go.ChangeAt Go.RowKit
set_option linter.unusedVariables false

def str (b : BA) : ByteArray := ⟨b.toArray⟩
theorem str_size (b : BA) : (str b).size = b.length := by simp [str, ByteArray.size]
theorem str_toList (b : BA) : (str b).data.toList = b := by simp [str]
theorem str_inj {a b : BA} (h : str a = str b) : a = b := by rw [← str_toList a, h, str_toList]
theorem strOfNums_bytes (b : BA) : strOfNums (b.map fun c => (c.toNat : Int)) = str b := by
  unfold strOfNums str
  congr 1
  apply Array.ext'
  simp only [List.map_map]
  refine (List.map_congr_left (fun c _ => ?_)).trans (List.map_id _)
  simp
theorem getD_bytes (b : BA) (i : Nat) : (b.map fun c => (c.toNat : Int)).getD i 0 = ((b.getD i 0).toNat : Int) := by
  simp only [List.getD_eq_getElem?_getD, List.getElem?_map]
  cases b[i]? <;> rfl
/-- A sector's bytes as a string. -/
theorem convert_sector (w : World) (s o : Nat) (b : BA) (hb : b.length = 64) (h : w.rangeAt s o (cb b)) :
    (convert 49 9 (.slice (some ⟨s, o, none⟩) 64 64)).run Try.prog w = .ok (.string (str b)) w := by
  rw [← strOfNums_bytes]
  refine run_convert_bytes_arg w 49 5 Try.underlying49 Try.underlying5 s o 64 64 _ (by simp [hb]) (fun i hi => ?_) 9 Try.underlying9
  refine h i _ ?_
  rw [cb_get, getD_bytes, List.getD_eq_getElem?_getD, List.getElem?_eq_getElem (by omega)]
  rfl

variable {C p s c : Nat} {pv : Value} {A : St} {w : World}
set_option maxHeartbeats 400000 in
theorem read_ok (h : Own C p s c pv A w) (k : Nat) (hr : A.runs = true) (hk : k < A.last.length) :
    Calls Try.prog 15 #[ptr p, .int .i64 k] w fun e w' => e = .returned (.tuple #[.string (str ((appl A.last A.pend).getD k [])), .int .i64 0]) ∧ w = w' := by
  have hc0 := h.cell0
  have h2 := h.n2
  have hcv := convert_sector w s (k * 64) _ (h.lenNow hk) (h.sector hk)
  have HR := Lib.hid (refuse_ok h k hr hk)
  clear h
  generalize (appl A.last A.pend).getD k [] = b at *
  generalize A.last.length = n at *
  have k0 : (0 : Int) ≤ (k : Int) := by omega
  have k1 : (k : Int) < (n : Int) := by omega
  go_enter Try.func15, Try.ntmps15
  go_wp2_with fail
  refine HR.out.mono ?_; rintro e w' ⟨rfl, rfl⟩
  go_wp2_with fail
  go_ret2
  exact ⟨rfl, rfl⟩
set_option maxHeartbeats 400000 in
theorem read_err (q : Value) (k : Int) (e0 : Int) (w : World) (he : (e0 != 0) = true) (hR : Calls Try.prog 31 #[q, .int .i64 k] w fun e w' => e = .returned (.int .i64 e0) ∧ w = w') :
    Calls Try.prog 15 #[q, .int .i64 k] w fun e w' => e = .returned (.tuple #[.string (str []), .int .i64 e0]) ∧ w = w' := by
  have HR := Lib.hid hR
  clear hR
  go_enter Try.func15, Try.ntmps15
  go_wp2_with fail
  refine HR.out.mono ?_; rintro e w' ⟨rfl, rfl⟩
  go_wp2_with fail
  go_ret2
  exact ⟨rfl, rfl⟩
theorem read_dead (h : Own C p s c pv A w) (k : Int) (hr : A.runs = false) :
    Calls Try.prog 15 #[ptr p, .int .i64 k] w fun e w' => e = .returned (.tuple #[.string (str []), .int .i64 10]) ∧ w = w' := read_err _ _ _ _ rfl (refuse_dead h k hr)
theorem read_nil (k : Int) (w : World) :
    Calls Try.prog 15 #[.pointer none, .int .i64 k] w fun e w' => e = .returned (.tuple #[.string (str []), .int .i64 10]) ∧ w = w' := read_err _ _ _ _ rfl (refuse_nil k w)
theorem read_range (h : Own C p s c pv A w) (k : Int) (hr : A.runs = true) (hk : k < 0 ∨ (A.last.length : Int) ≤ k) :
    Calls Try.prog 15 #[ptr p, .int .i64 k] w fun e w' => e = .returned (.tuple #[.string (str []), .int .i64 12]) ∧ w = w' := read_err _ _ _ _ rfl (refuse_range h k hr hk)

/-! New. -/
def zeroS : BA := List.replicate 64 0
def blank (n : Nat) : St := ⟨List.replicate n zeroS, [], true, -1⟩
theorem infoSec : (Try.prog.info? 61).map (fun i => (i.zero, i.size, i.bytes)) = some (some (.agg (Array.replicate 64 (.int .u8 0))), 64, 64) := by kernel_rfl
abbrev secRow (n : Nat) : Obj := .cells (madeCells (Array.replicate 64 (.int .u8 0)) (n * 64)) 61
abbrev headRow (s n : Nat) : Obj := .cells #[.slice (some ⟨s, 0, none⟩) n n, .slice none 0 0, .bool true, .int .i64 (-1)] 57
theorem made_get (n j : Nat) (h : j < n * 64) : (madeCells (Array.replicate 64 (.int .u8 0)) (n * 64))[j]? = some (.int .u8 0) := by
  simp only [madeCells, Array.getElem?_map, Array.size_replicate]
  rw [Array.getElem?_eq_getElem (by simpa using h)]
  have : j % 64 < 64 := Nat.mod_lt _ (by omega)
  simp [getElem!_def, this]
theorem Own.fresh (w : World) (n : Nat) (h1 : 1 ≤ n) (h2 : n ≤ 10000) :
    Own w.heap.size (w.heap.size + 1) w.heap.size n (.slice none 0 0) (blank n) ((w.alloc (secRow n)).alloc (headRow w.heap.size n)) := by
  have e1 := heap_alloc_new (w.alloc (secRow n)) (headRow w.heap.size n)
  rw [World.size_alloc] at e1
  have e2 := Below.heap_alloc (w.alloc (secRow n)) (headRow w.heap.size n) w.heap.size (by simp)
  rw [heap_alloc_new] at e2
  refine ⟨by omega, Nat.le_refl _, by omega, by simp [Value.ownBlock], by simp [Value.ownBlock], ?_, ⟨_, e2, ?_, ?_⟩, World.ownsRow_nil _ _ _ _, ?_, Fits.nil _, ?_, ?_, ?_, ?_, by simp [blank], by simp [blank]⟩
  · rw [e1]; simp [blank]
  · simp [blank, madeCells]
  · intro k hk j v hv
    simp only [blank, List.length_replicate, appl_nil] at hk hv
    have hj := (List.getElem?_eq_some_iff.1 hv).1
    rw [cb_length, List.getD_eq_getElem?_getD, List.getElem?_replicate, if_pos hk] at hj
    rw [cb_get, List.getD_eq_getElem?_getD, List.getElem?_replicate, if_pos hk] at hv
    simp only [Option.getD_some, zeroS, List.length_replicate, List.getElem?_replicate] at hj hv
    rw [if_pos hj] at hv
    rw [made_get n _ (by have : k * 64 + 64 ≤ n * 64 := by omega
                         omega)]
    exact hv
  · intro b hb; simp [blank] at hb; rw [hb.2]; simp [zeroS]
  · simp [blank]; exact h1
  · simp [blank]; exact h2
  · simp [blank]
  · simp [maxLen]; omega
set_option maxHeartbeats 400000 in
theorem new_ok (n : Nat) (h1 : 1 ≤ n) (h2 : n ≤ 10000) (w : World) :
    Calls Try.prog 13 #[.int .i64 n] w fun e w' => e = .returned (ptr (w.heap.size + 1)) ∧ w' = (w.alloc (secRow n)).alloc (headRow w.heap.size n) := by
  obtain ⟨i0, hi, hz0, hz1, hz2⟩ := info_parts infoSec
  have hmk := fun w : World => run_make (P := Try.prog) w 54 61 i0 _ Try.underlying54 hi hz0 .i64 .i64 (n : Int) (n : Int) (by omega) (Int.le_refl _) (by rw [hz2]; omega) (by omega)
  rw [hz1] at hmk
  simp only [Int.toNat_natCast, Value.cells] at hmk
  clear hi hz0 hz1 hz2
  obtain ⟨row, hrow⟩ : ∃ row, row = madeCells (Array.replicate 64 (.int .u8 0)) (n * 64) := ⟨_, rfl⟩
  rw [← hrow] at hmk
  have HR := Lib.hid hrow
  clear hrow
  have k0 : ¬ (n : Int) < 1 := by omega
  have k1 : ¬ (10000 : Int) < (n : Int) := by omega
  go_enter Try.func13, Try.ntmps13
  go_wp2_with fail
  go_ret
  exact ⟨rfl, by rw [HR.out]⟩
set_option maxHeartbeats 400000 in
theorem new_no (n : Int) (h : n < 1 ∨ 10000 < n) (w : World) :
    Calls Try.prog 13 #[.int .i64 n] w fun e w' => e = .returned (.pointer none) ∧ w = w' := by
  by_cases k0 : n < 1
  · clear h
    go_enter Try.func13, Try.ntmps13
    go_wp2_with fail
    go_ret
    exact ⟨rfl, rfl⟩
  · have k1 : 10000 < n := by omega
    clear h
    go_enter Try.func13, Try.ntmps13
    go_wp2_with fail
    go_ret
    exact ⟨rfl, rfl⟩
end Go.Proofs.Ytnkhfgfiifadhaa
