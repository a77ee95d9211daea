/- The contracts of Get, and of the document's Zeros. -/
import Derived.Test.YtljegjcajlkgiaaGreatCells
import Derived.Test.YtljegjcajlkgiaaGreatWrite
import Derived.Laws.BytesArg
namespace Go.Proofs.YtljegjcajlkgiaaGreat
open Go.ChangeShapes Go.WideShapes Go.ChangeAt Go.RowKit
set_option linter.unusedVariables false
set_option linter.unusedSimpArgs false
set_option maxRecDepth 100000
theorem strOfNums_bytes (b : BA) : strOfNums (b.map fun c => (c.toNat : Int)) = str b := by
  have h : ∀ c : UInt8, UInt8.ofNat ((c.toNat : Int)).toNat = c := fun c => by simp
  simp [strOfNums, str, List.map_map, Function.comp_def, h]
theorem getD_bytes (b : BA) (j : Nat) : (b.map fun c => (c.toNat : Int)).getD j 0 = ((b.getD j 0).toNat : Int) := by
  rw [List.getD_eq_getElem?_getD, List.getElem?_map, List.getD_eq_getElem?_getD]
  cases b[j]? <;> rfl
abbrev zRow (n : Nat) : Obj := .cells (madeCells #[.int .u8 0] n) 5
theorem zrow_get (n j : Nat) (h : j < n) : (madeCells #[Value.int .u8 0] n)[j]? = some (.int .u8 0) := by
  simp only [madeCells, Array.getElem?_map]
  rw [Array.getElem?_eq_getElem (by simpa using h)]
  simp [Nat.mod_one]
theorem convert_zeros (w : World) (n : Nat) : (convert 70 9 (.slice (some ⟨w.heap.size, 0, none⟩) n n)).run Tryz.prog (w.alloc (zRow n)) = .ok (.string (str (zs n))) (w.alloc (zRow n)) := by
  rw [← strOfNums_bytes]
  refine run_convert_bytes_arg (w.alloc (zRow n)) 70 5 Tryz.underlying70 Tryz.underlying5 w.heap.size 0 n n _ (by simp [zs]) (fun i hi => ?_) 9 Tryz.underlying9
  rw [getD_bytes, cell_of_row _ _ _ _ _ _ (heap_alloc_new w _), Nat.zero_add, zrow_get n i hi, zs, List.getD_eq_getElem?_getD, List.getElem?_replicate, if_pos hi]
  rfl
set_option maxHeartbeats 400000 in
theorem zeros_ok (n : Nat) (hn : n ≤ 1000) (w : World) : Calls Tryz.prog 31 #[.int .i64 n] w fun e w' => e = .returned (.string (str (zs n))) ∧ Below w.heap.size w w' := by
  obtain ⟨i0, hi, hz0, hz1, hz2⟩ := info_parts info_u
  have hmk := fun w : World => run_make (P := Tryz.prog) w 70 5 i0 _ Tryz.underlying70 hi hz0 .i64 .i64 (n : Int) (n : Int) (by omega) (Int.le_refl _) (by rw [hz2]; omega) (by omega)
  rw [hz1] at hmk
  simp only [Int.toNat_natCast, Value.cells, Nat.mul_one] at hmk
  have hcv := convert_zeros w n
  unfold zRow at hcv
  obtain ⟨row, hrow⟩ : ∃ row, row = madeCells #[Value.int .u8 0] n := ⟨_, rfl⟩
  rw [← hrow] at hmk hcv
  obtain ⟨z, hz⟩ : ∃ z, z = str (zs n) := ⟨_, rfl⟩
  rw [← hz] at hcv ⊢
  clear hi hz0 hz1 hz2 hrow hz
  have k0 : (0 : Int) ≤ (n : Int) := by omega
  go_enter Tryz.func31, Tryz.ntmps31
  go_wp2_with fail
  go_ret
  exact ⟨rfl, (Below.refl _ _).alloc (Nat.le_refl _) _⟩
/-- What Get hands back. -/
def Got (b : BA) (w : World) (e : Ending) (w' : World) : Prop := ∃ A c, e = .returned (.tuple #[.slice A (getS b).length c, .bool (getOk b)]) ∧ Own w.heap.size w' (.slice A (getS b).length c) (getS b) ∧ Below w.heap.size w w'
theorem getS_no {b : BA} (h : getOk b = false) : getS b = [] := by unfold getS; rw [h]; rfl
theorem own_ces {B : Nat} {w : World} {A : Option Addr} {c : Nat} {l : List Ce} (h : Own B w (.slice A l.length c) l) (hs : ∀ p ∈ l, p.key.size ≤ maxLen ∧ p.val.size ≤ maxLen) (hm : l.length ≤ maxLen) : Ces w.heap.size w A l := Own.ces h rfl hs hm
theorem parse_sizes (b : BA) (hb : b.length ≤ 100000) : (parse b).length ≤ 255 ∧ ∀ p ∈ parse b, p.key.size ≤ maxLen ∧ p.val.size ≤ maxLen := by
  have hrest : ∀ k s, (restN k s).length ≤ s.length := by
    intro k s
    induction k with
    | zero => exact Nat.le_refl _
    | succ k ih =>
      refine Nat.le_trans ?_ ih
      rw [restN]
      unfold rest1
      split
      · unfold tail1 mid1; simp only [List.length_drop]; omega
      · unfold tail1 mid1; simp only [List.length_drop]; omega
  have hcell : ∀ s : BA, s.length ≤ 100000 → (cell1 s).key.size ≤ maxLen ∧ (cell1 s).val.size ≤ maxLen := by
    intro s hs
    have h1 : (key1 s).length ≤ 100000 := by unfold key1; simp only [List.length_take, List.length_drop]; omega
    have h2 : ((tail1 s).take (size1 s)).length ≤ 100000 := by unfold tail1 mid1; simp only [List.length_take, List.length_drop]; omega
    unfold cell1 maxLen
    split
    · dsimp only; rw [str_size, str_size]; omega
    · dsimp only; rw [str_size]; refine ⟨by omega, by decide⟩
  have hn : numB (b.take 1) < 256 := numB_lt1 _ (by rw [List.length_take]; omega)
  refine ⟨by unfold parse; rw [cellsN_length]; omega, ?_⟩
  unfold parse
  generalize numB (b.take 1) = n
  have hd : (b.drop 1).length ≤ 100000 := by rw [List.length_drop]; omega
  generalize b.drop 1 = r at hd
  clear hn
  induction n with
  | zero => intro p hp; simp [cellsN] at hp
  | succ n ih =>
    intro p hp
    rw [cellsN, List.mem_append, List.mem_singleton] at hp
    rcases hp with hp | rfl
    · exact ih p hp
    · exact hcell _ (Nat.le_trans (hrest n r) hd)
set_option maxHeartbeats 1000000 in
theorem get_any (b : BA) (hb : b.length ≤ 100000) (w : World) : Calls Tryz.prog 75 #[.string (str b)] w fun e w' => Got b w e w' := by
  have hsz : (str b).size = b.length := str_size b
  by_cases h : b.length = 240
  · have CE := Lib.hid (cells_any b hb w)
    obtain ⟨hp1, hp2⟩ := parse_sizes b hb
    have PU := Lib.hid (fun w' A c (ho : Own w.heap.size w' (.slice A (parse b).length c) (parse b)) => put_any (c := c) w' (own_ces ho hp2 (by unfold maxLen; omega)) rfl (by omega) (Nat.le_refl _))
    have h1 : ((str b).size : Int) = 240 := by omega
    cases g : getOk b with
    | true =>
      obtain ⟨g1, g2, g3⟩ := getS_ok g
      have HS := Lib.hid g1
      rw [g1] at g2 g3
      have hpu : putS (parse b) = b := by unfold putS; rw [g2]; exact g3
      rw [hpu, g2] at PU
      have hse : ((str b).toList == (str b).toList) = true := by simp
      have HG := Lib.hid g
      clear g g1 g2 g3 hpu hp1 hp2 hsz h hb
      generalize str b = X at *
      go_enter Tryz.func75, Tryz.ntmps75
      go_wp2_with fail
      refine CE.out.mono ?_; rintro e w1 ⟨A, c, rfl, hown, hb1⟩
      have HO := Lib.hid hown
      have HB := Lib.hid hb1
      clear hown hb1
      go_wp2_with fail
      refine (PU.out _ _ _ HO.out).mono ?_; rintro e w2 ⟨rfl, hb2⟩
      have HO2 := Lib.hid (HO.out.kept (D := 0) hb2)
      have HB2 := Lib.hid (HB.out.trans (hb2.mono HB.out.size))
      clear hb2
      go_wp2_with fail
      go_ret2
      unfold Got
      rw [HS.out, HG.out]
      exact ⟨A, c, rfl, HO2.out, HB2.out⟩
    | false =>
      have HG := Lib.hid g
      have HS := Lib.hid (getS_no g)
      cases gp : putOk (parse b) with
      | false =>
        rw [gp] at PU
        clear g gp hp1 hp2 hsz h hb
        generalize str b = X at *
        go_enter Tryz.func75, Tryz.ntmps75
        go_wp2_with fail
        refine CE.out.mono ?_; rintro e w1 ⟨A, c, rfl, hown, hb1⟩
        have HO := Lib.hid hown
        have HB := Lib.hid hb1
        clear hown hb1
        go_wp2_with fail
        refine (PU.out _ _ _ HO.out).mono ?_; rintro e w2 ⟨rfl, hb2⟩
        have HB2 := Lib.hid (HB.out.trans (hb2.mono HB.out.size))
        clear hb2
        go_wp2_with fail
        go_ret2
        unfold Got
        rw [HS.out, HG.out]
        exact ⟨none, 0, rfl, Own.nil _ _, HB2.out⟩
      | true =>
        have hne : bodyOf (parse b) ≠ b := fun e => by
          rw [getOk_iff.2 ⟨gp, e⟩] at g
          cases g
        have hse : ((str (putS (parse b))).toList == (str b).toList) = false := by
          rw [str_list, str_list, beq_eq_false_iff_ne]
          unfold putS
          rw [gp]
          exact hne
        have hse2 : ¬ (str (putS (parse b))).toList = (str b).toList := by simpa using hse
        rw [gp] at PU
        clear g gp hp1 hp2 hsz h hb hne
        generalize str b = X at *
        generalize str (putS (parse b)) = Y at *
        go_enter Tryz.func75, Tryz.ntmps75
        go_wp2_with fail
        refine CE.out.mono ?_; rintro e w1 ⟨A, c, rfl, hown, hb1⟩
        have HO := Lib.hid hown
        have HB := Lib.hid hb1
        clear hown hb1
        go_wp2_with fail
        refine (PU.out _ _ _ HO.out).mono ?_; rintro e w2 ⟨rfl, hb2⟩
        have HB2 := Lib.hid (HB.out.trans (hb2.mono HB.out.size))
        clear hb2
        go_wp2_with fail
        go_ret2
        unfold Got
        rw [HS.out, HG.out]
        exact ⟨none, 0, rfl, Own.nil _ _, HB2.out⟩
  · have h1 : ((str b).size : Int) ≠ 240 := by omega
    have h2 : (((str b).size : Int) == 240) = false := by rw [beq_eq_false_iff_ne]; omega
    have g := getOk_none h
    have HG := Lib.hid g
    have HS := Lib.hid (getS_no g)
    clear g hb
    generalize str b = X at *
    go_enter Tryz.func75, Tryz.ntmps75
    go_wp2_with fail
    go_ret2
    unfold Got
    rw [HS.out, HG.out]
    exact ⟨none, 0, rfl, Own.nil _ _, Below.refl _ _⟩
end Go.Proofs.YtljegjcajlkgiaaGreat
