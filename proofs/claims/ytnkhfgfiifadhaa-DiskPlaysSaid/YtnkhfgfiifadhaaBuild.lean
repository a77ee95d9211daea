/- A pending write is built of its three parts; its parts read out of it. -/
import Derived.Test.YtnkhfgfiifadhaaNew
import Derived.Laws.Tables
import Derived.Laws.Cover3
import Derived.Deep.WholeRow
import Derived.Laws.IdiomStrings
namespace Go.Proofs.Ytnkhfgfiifadhaa
open Go.ChangeShapes Go.WideShapes Go.ChangeAt Go.RowKit
set_option linter.unusedVariables false

def zeroW : Array Value := (.int .i64 0 :: List.replicate 128 (.int .u8 0)).toArray
theorem built_wr (parts : List (Nat × Value)) : Try.prog.built 63 parts = Instr.fill ((#[(0, 1), (1, 64), (65, 64)] : Array (Nat × Nat))[·]?) zeroW parts := by kernel_rfl
/-- Values stored one behind the other. -/
theorem laid_get (off : Nat) : ∀ (cs : List Value) (k : Nat) (a : Array Value), off + k + cs.length ≤ a.size → ∀ i,
    ((cs.zipIdx k).foldl (fun a x => a.setIfInBounds (off + x.2) x.1) a)[i]? = if off + k ≤ i ∧ i < off + k + cs.length then cs[i - (off + k)]? else a[i]?
  | [], k, a, _, i => by simp; intro h1 h2; omega
  | c :: cs, k, a, h, i => by
    simp only [List.length_cons] at h
    rw [List.zipIdx_cons, List.foldl_cons, laid_get off cs (k + 1) _ (by simp; omega) i]
    by_cases h1 : off + (k + 1) ≤ i ∧ i < off + (k + 1) + cs.length
    · rw [if_pos h1, if_pos (by simp only [List.length_cons]; omega), show i - (off + k) = i - (off + (k + 1)) + 1 by omega, List.getElem?_cons_succ]
    · rw [if_neg h1, Array.getElem?_setIfInBounds]
      by_cases h2 : off + k = i
      · rw [if_pos h2, if_pos (by omega), if_pos (by simp only [List.length_cons]; omega), show i - (off + k) = 0 by omega]; rfl
      · rw [if_neg h2, if_neg (by simp only [List.length_cons]; omega)]
theorem laid_size (off : Nat) : ∀ (cs : List Value) (k : Nat) (a : Array Value), ((cs.zipIdx k).foldl (fun a x => a.setIfInBounds (off + x.2) x.1) a).size = a.size
  | [], _, _ => rfl
  | c :: cs, k, a => by rw [List.zipIdx_cons, List.foldl_cons, laid_size off cs]; simp
theorem fill_one (place : Nat → Option (Nat × Nat)) (a : Array Value) (i : Nat) (v : Value) (rest : List (Nat × Value)) (off size : Nat) (hp : place i = some (off, size)) (hs : v.cells.size = size) (hf : off + size ≤ a.size) :
    Instr.fill place a ((i, v) :: rest) = Instr.fill place ((v.cells.toList.zipIdx 0).foldl (fun a x => a.setIfInBounds (off + x.2) x.1) a) rest := by
  rw [Instr.fill, hp]
  simp only
  rw [if_neg (by simp [hs]; omega)]
  congr 1
  rw [← Array.foldl_toList, Array.toList_zipIdx]
theorem run_build_wr (w : World) (k : Int) (o n : List Value) (ho : o.length = 64) (hn : n.length = 64) :
    (Instr.build 63 #[(0, .int .i64 k), (1, .agg o.toArray), (2, .agg n.toArray)]).run Try.prog w = .ok (.agg (.int .i64 k :: (o ++ n)).toArray) w := by
  refine run_build w 63 _ _ ?_
  rw [built_wr]
  have hz : zeroW.size = 129 := by simp [zeroW]
  rw [fill_one _ _ _ _ _ 0 1 rfl rfl (by rw [hz]; omega), fill_one _ _ _ _ _ 1 64 rfl (by simp [Value.cells, ho]) (by rw [laid_size, hz]; omega), fill_one _ _ _ _ _ 65 64 rfl (by simp [Value.cells, hn]) (by rw [laid_size, laid_size, hz]; omega)]
  rw [Instr.fill]
  congr 1
  apply Array.ext_getElem?
  intro i
  simp only [Value.cells, List.toList_toArray]
  rw [laid_get _ _ _ _ (by rw [laid_size, laid_size, hz, hn]; omega), laid_get _ _ _ _ (by rw [laid_size, hz, ho]; omega), laid_get _ _ _ _ (by rw [hz]; simp)]
  simp only [ho, hn, Nat.add_zero, List.length_singleton, Nat.zero_add, Nat.sub_zero, List.getElem?_toArray]
  by_cases h1 : i = 0
  · subst h1; simp
  · obtain ⟨j, rfl⟩ : ∃ j, i = j + 1 := ⟨i - 1, by omega⟩
    rw [show (Value.int .i64 k :: (o ++ n))[j + 1]? = (o ++ n)[j]? from List.getElem?_cons_succ]
    by_cases h2 : j < 64
    · rw [if_neg (by omega), if_pos (by omega), List.getElem?_append_left (by omega)]; rfl
    · rw [List.getElem?_append_right (by omega), ho]
      by_cases h3 : j < 128
      · rw [if_pos (by omega), show j + 1 - 65 = j - 64 by omega]
      · rw [if_neg (by omega), if_neg (by omega), if_neg (by omega), List.getElem?_eq_none (by omega)]
        simp [zeroW]; omega
theorem size_sec : (Try.prog.info? 61).map (·.size) = some 64 := by kernel_rfl
theorem size_wr : (Try.prog.info? 63).map (·.size) = some 129 := by kernel_rfl
theorem info_wr : (Try.prog.info? 63).map (fun i => (i.zero, i.size, i.bytes)) = some (some (.agg zeroW), 129, 136) := by kernel_rfl
theorem zero_wr (w : World) : (zeroValue 63).run Try.prog w = .ok (.agg zeroW) w := (zero_of_info (P := Try.prog) (t := 63) (v := .agg zeroW) (n := 129) (by kernel_rfl)).1 w
/-- What []byte(b) lays. -/
def cObj (w : World) (b : BA) : Obj := .cells (bytesRow (str b) (grownCap w 64 0 5)) 5 ((bytesRow (str b) (grownCap w 64 0 5)).size, (bytesRow (str b) (grownCap w 64 0 5)).size + 1)
def cCap (w : World) : Nat := grownCap w 64 0 5
theorem convert_bytes (w : World) (b : BA) (hb : b.length = 64) : (convert 9 49 (.string (str b))).run Try.prog w = .ok (.slice (some ⟨w.heap.size, 0, none⟩) 64 (cCap w)) (w.drew.alloc (cObj w b)) := by
  have := run_bytes_of_string (P := Try.prog) w 9 49 5 (str b) Try.underlying9 Try.underlying49 Try.underlying5
  rw [str_size, hb] at this
  exact this
theorem bytesRow_get (b : BA) (cap j : Nat) (v : Value) (h : (cb b)[j]? = some v) : (bytesRow (str b) cap)[j]? = some v := by
  have hj : j < b.length := by have := (List.getElem?_eq_some_iff.1 h).1; rwa [cb_length] at this
  unfold bytesRow
  rw [Array.getElem?_append_left (by simp [str, hj])]
  rw [cb_get] at h
  simp only [Array.getElem?_map, str, List.getElem?_toArray]
  exact h
theorem converted_in {W : World} {g : Nat} {b : BA} {w : World} (h : W.heap[g]? = some (cObj w b)) : W.rangeAt g 0 (cb b) := fun j v hv => by
  rw [cell_of_row W g _ _ _ _ h, Nat.zero_add]
  exact bytesRow_get b _ j v hv
end Go.Proofs.Ytnkhfgfiifadhaa
