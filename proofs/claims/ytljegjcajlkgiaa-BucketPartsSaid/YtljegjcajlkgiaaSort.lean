/- The contracts of byKey, slices.Clone, slices.SortFunc over cells, ascending, Fits. -/
import Derived.Test.YtljegjcajlkgiaaMem
import Derived.Shelf.SlGeneric
import Derived.Shelf.SlicesE.Clone
import Derived.Shelf.SlSortCmp.NoneTotal
import Derived.Ground.SlgnProg
import Derived.Ground.SlsfProg
import Derived.Lib.Bytealg
namespace Go.Proofs
open Go.Shelf
def Try.cloneL_ren : Go.Shelf.Ren := ⟨fun | 41 => 50 | n => n, fun | 22 => 38 | 23 => 31 | 4 => 4 | n => n, fun | n => n⟩
theorem Try.cloneL : Go.Proofs.SlLaysE0.n41 Try.prog Try.cloneL_ren := {
  mixed := by kernel_rfl
  f41 := ⟨Try.f50.name, by decide, Try.func50.trans (congrArg some (by kernel_rfl))⟩
  t4 := Try.underlying4
  a4 := Try.isAgg4
  z4 := Try.sizeOf4
  v4 := Try.zeroValue4
  t22 := Try.underlying38
  a22 := Try.isAgg38
  z22 := Try.sizeOf38
  v22 := Try.zeroValue38 }
def Try.sortL_ren : Go.Shelf.Ren := ⟨fun | 6 => 51 | 15 => 57 | 14 => 56 | 28 => 68 | 29 => 69 | 20 => 60 | 21 => 61 | 22 => 62 | 23 => 63 | 24 => 64 | 25 => 65 | 26 => 66 | 27 => 67 | 46 => 71 | 47 => 72 | 48 => 73 | 49 => 74 | 50 => 75 | 57 => 77 | n => n, fun | 22 => 38 | 24 => 31 | 25 => 79 | 3 => 3 | 39 => 68 | 0 => 0 | 53 => 66 | 55 => 100 | 4 => 4 | 46 => 92 | 45 => 91 | 50 => 96 | 5 => 5 | 9 => 9 | 66 => 101 | 70 => 105 | 76 => 107 | 77 => 108 | n => n, fun | n => n⟩
theorem Try.sortL : Go.Proofs.SlLaysF0.n6 Try.prog Try.sortL_ren := {
  mixed := by kernel_rfl
  f6 := ⟨Try.f51.name, by decide, Try.func51.trans (congrArg some (by kernel_rfl))⟩
  f14 := ⟨Try.f56.name, by decide, Try.func56.trans (congrArg some (by kernel_rfl))⟩
  f15 := Try.func57.trans (congrArg some (by kernel_rfl))
  f20 := ⟨Try.f60.name, by decide, Try.func60.trans (congrArg some (by kernel_rfl))⟩
  f21 := ⟨Try.f61.name, by decide, Try.func61.trans (congrArg some (by kernel_rfl))⟩
  f22 := ⟨Try.f62.name, by decide, Try.func62.trans (congrArg some (by kernel_rfl))⟩
  f23 := ⟨Try.f63.name, by decide, Try.func63.trans (congrArg some (by kernel_rfl))⟩
  f24 := ⟨Try.f64.name, by decide, Try.func64.trans (congrArg some (by kernel_rfl))⟩
  f25 := ⟨Try.f65.name, by decide, Try.func65.trans (congrArg some (by kernel_rfl))⟩
  f26 := ⟨Try.f66.name, by decide, Try.func66.trans (congrArg some (by kernel_rfl))⟩
  f27 := ⟨Try.f67.name, by decide, Try.func67.trans (congrArg some (by kernel_rfl))⟩
  f28 := Try.func68.trans (congrArg some (by kernel_rfl))
  f29 := Try.func69.trans (congrArg some (by kernel_rfl))
  f46 := ⟨Try.f71.name, by decide, Try.func71.trans (congrArg some (by kernel_rfl))⟩
  f47 := Try.func72.trans (congrArg some (by kernel_rfl))
  f48 := Try.func73.trans (congrArg some (by kernel_rfl))
  f49 := ⟨Try.f74.name, by decide, Try.func74.trans (congrArg some (by kernel_rfl))⟩
  f50 := ⟨Try.f75.name, by decide, Try.func75.trans (congrArg some (by kernel_rfl))⟩
  f57 := ⟨Try.f77.name, by decide, Try.func77.trans (congrArg some (by kernel_rfl))⟩
  t0 := Try.underlying0
  a0 := Try.isAgg0
  z0 := Try.sizeOf0
  v0 := Try.zeroValue0
  t3 := Try.underlying3
  a3 := Try.isAgg3
  z3 := Try.sizeOf3
  v3 := Try.zeroValue3
  t4 := Try.underlying4
  a4 := Try.isAgg4
  z4 := Try.sizeOf4
  v4 := Try.zeroValue4
  t5 := Try.underlying5
  a5 := Try.isAgg5
  z5 := Try.sizeOf5
  v5 := Try.zeroValue5
  t9 := Try.underlying9
  a9 := Try.isAgg9
  z9 := Try.sizeOf9
  v9 := Try.zeroValue9
  t22 := Try.underlying38
  a22 := Try.isAgg38
  z22 := Try.sizeOf38
  v22 := Try.zeroValue38
  t25 := Try.underlying79
  a25 := Try.isAgg79
  z25 := Try.sizeOf79
  v25 := Try.zeroValue79
  t39 := Try.underlying68
  a39 := Try.isAgg68
  z39 := Try.sizeOf68
  v39 := Try.zeroValue68
  t45 := Try.underlying91
  a45 := Try.isAgg91
  z45 := Try.sizeOf91
  v45 := Try.zeroValue91
  t46 := Try.underlying92
  a46 := Try.isAgg92
  z46 := Try.sizeOf92
  v46 := Try.zeroValue92
  t50 := Try.underlying96
  a50 := Try.isAgg96
  z50 := Try.sizeOf96
  v50 := Try.zeroValue96
  t53 := Try.underlying66
  a53 := Try.isAgg66
  z53 := Try.sizeOf66
  v53 := Try.zeroValue66
  t55 := Try.underlying100
  a55 := Try.isAgg100
  z55 := Try.sizeOf100
  v55 := Try.zeroValue100
  t66 := Try.underlying101
  a66 := Try.isAgg101
  z66 := Try.sizeOf101
  v66 := Try.zeroValue101
  t70 := Try.underlying105
  a70 := Try.isAgg105
  z70 := Try.sizeOf105
  v70 := Try.zeroValue105
  t76 := Try.underlying107
  a76 := Try.isAgg107
  z76 := Try.sizeOf107
  v76 := Try.zeroValue107
  t77 := Try.underlying108
  a77 := Try.isAgg108
  z77 := Try.sizeOf108
  v77 := Try.zeroValue108 }
end Go.Proofs
namespace Go.Proofs.Ytljegjcajlkgiaa
open Go.ChangeShapes Go.WideShapes Go.ChangeAt Go.RowKit Go.Shelf
set_option linter.unusedVariables false
set_option linter.unusedSimpArgs false
set_option maxRecDepth 100000
theorem cmpString_any (a b : ByteArray) (w : World) : Calls Try.prog 70 #[.string a, .string b] w fun e w' => e = .returned (.int .i64 (Lib.compareBytes a.data.toList b.data.toList)) ∧ w = w' := by
  go_enter Try.func70, Try.ntmps70
  go_wp2
  rw [run_callFunc_extern Try.func76 (by kernel_rfl) (by kernel_rfl) (by kernel_rfl) (e := Extern.BytealgCompare.compare) (by kernel_rfl), Lib.run_compareString]
  simp only [Result.andThen]
  rw [Oper.upon_value]
  go_wp2
  go_ret
  exact ⟨rfl, rfl⟩
theorem compare_any (a b : ByteArray) (w : World) : Calls Try.prog 58 #[.string a, .string b] w fun e w' => e = .returned (.int .i64 (Lib.compareBytes a.data.toList b.data.toList)) ∧ w = w' := by
  have C := Lib.hid (cmpString_any a b)
  generalize Lib.compareBytes a.data.toList b.data.toList = r at *
  go_enter Try.func58, Try.ntmps58
  go_wp2_with fail
  refine (C.out _).mono ?_; rintro e w1 ⟨rfl, rfl⟩
  go_wp2_with fail
  go_ret
  exact ⟨rfl, rfl⟩
theorem byKey_any (x y : Ce) (w : World) : Calls Try.prog 52 #[cvC x, cvC y] w fun e w' => e = .returned (.int .i64 (cmpK x y)) ∧ ∃ q os', w' = Sort.grow (w.drewN q) os' := by
  have C := Lib.hid (compare_any x.key y.key)
  unfold cmpK cvC cv
  generalize Lib.compareBytes x.key.data.toList y.key.data.toList = r at *
  go_enter Try.func52, Try.ntmps52
  go_wp2_with fail
  refine (C.out _).mono ?_; rintro e w1 ⟨rfl, rfl⟩
  go_wp2_with fail
  go_ret
  exact ⟨rfl, 0, _, by rw [Sort.alloc_eq_grow, Sort.alloc_eq_grow, Sort.grow_grow]; rfl⟩

theorem ltOf_cmp (x y : Ce) : ltOf cmpK x y = ltK x y := rfl
theorem swoK : Sort.SWO (ltOf cmpK) where
  irrefl x := ltK_irrefl x
  trans x y z h1 h2 := ltK_trans h1 h2
  ntrans x y z h1 h2 := by
    rw [ltOf_cmp] at *
    unfold ltK cmpK at *
    have a1 : ¬ Lib.compareBytes x.key.data.toList y.key.data.toList < 0 := of_decide_eq_false h1
    have a2 : ¬ Lib.compareBytes y.key.data.toList z.key.data.toList < 0 := of_decide_eq_false h2
    refine decide_eq_false fun a3 => ?_
    rw [cb_neg] at a1 a2
    by_cases e : Lib.compareBytes z.key.data.toList y.key.data.toList = 0
    · rw [cb_eq _ _ e] at a3
      rw [cb_neg] at a3
      omega
    · have h := cb_trans _ _ _ a3 (show Lib.compareBytes z.key.data.toList y.key.data.toList < 0 by omega)
      rw [cb_neg] at h
      omega
theorem agg_cell (c : Ce) : Value.agg (ccell c).toArray = cvC c := rfl
theorem cmpLaysK (blk off size : Nat) (w : World) : CmpLays Try.prog 52 #[] ccell 4 cmpK blk off size w := fun _ _ _ _ x y => byKey_any x y _
theorem flat_ccs (l : List Ce) (t : Nat) (ht : t < l.length * 4) : (Sort.flatK ccell 4 l.toArray)[t]! = (ccs l)[t]! := by
  rw [Sort.get_flatK _ _ _ _ (by simpa using ht)]
  have hk : t / 4 < l.length := by omega
  have h := ccs_at l (t / 4) (t % 4) hk (by omega)
  rw [show t / 4 * 4 + t % 4 = t by omega] at h
  have e1 : (l.toArray)[t / 4]! = l.getD (t / 4) nilC := by
    rw [getD_at hk, getElem!_pos l.toArray (t / 4) (by simpa using hk)]
    simp
  rw [e1]
  have : t % 4 < (ccell (l.getD (t / 4) nilC)).length := by rw [ccell_length]; omega
  rw [getElem!_pos (ccell (l.getD (t / 4) nilC)) (t % 4) this]
  have h2 : t < (ccs l).length := by rw [ccs_length]; exact ht
  rw [getElem!_pos (ccs l) t h2]
  rw [List.getElem?_eq_getElem h2, List.getElem?_eq_getElem this] at h
  exact (Option.some.inj h).symm
theorem holds_own {w : World} {B g n c : Nat} {l : List Ce} (h : w.ownsRow B 31 4 (.slice (some ⟨g, 0, none⟩) n c) n (ccs l)) (hn : l.length = n) : Sort.HoldsK ccell 4 w g 0 l.toArray := by
  intro j hj
  have hj' : j < l.length * 4 := by simpa using hj
  rw [flat_ccs l j hj']
  have h2 : j < (ccs l).length := by rw [ccs_length]; exact hj'
  rw [getElem!_pos (ccs l) j h2]
  have hc := h.cells (g := g) rfl j _ (List.getElem?_eq_getElem h2)
  rw [add_plain] at hc
  refine ⟨hc, ?_⟩
  rcases h.2 with ⟨h1, _⟩ | ⟨g', cap, cur, h1, _, h3, _⟩
  · simp at h1
  · simp only [Value.slice.injEq, Option.some.injEq, Addr.mk.injEq, and_true, true_and] at h1
    obtain ⟨rfl, _⟩ := h1
    exact frozen_of_row _ _ _ _ _ h3
theorem ces_holds {w : World} {g n : Nat} {l : List Ce} (h : Sort.HoldsK ccell 4 w g 0 l.toArray) (hg : g < w.heap.size) (hs : ∀ p ∈ l, p.key.size ≤ maxLen ∧ p.val.size ≤ maxLen) (hm : l.length ≤ maxLen) : Ces w.heap.size w (some ⟨g, 0, none⟩) l := by
  refine ⟨fun k hk => ⟨g, 0, rfl, hg, ?_⟩, hs, hm⟩
  have e : ∀ r, r < 4 → w.cell? ⟨g, 0 + k * 4 + r, none⟩ = some ((ccell (l.getD k nilC))[r]!) := by
    intro r hr
    have := (h.cell (i := k) (c := r) (by simpa using hk) hr).1
    rw [this]
    congr 2
    rw [getD_at hk, getElem!_pos l.toArray k (by simpa using hk)]
    simp
  exact ⟨e 0 (by omega), e 1 (by omega), e 2 (by omega), e 3 (by omega)⟩
theorem heap_sortWorld {w : World} {g n : Nat} {d' : Array Ce} {os : Array Obj} (k : Nat) (hk : k < w.heap.size) (hne : k ≠ g) : (sortWorldK ccell 4 w g 0 n d' os).heap[k]? = w.heap[k]? := by
  unfold sortWorldK
  rw [Sort.heap_grow_old _ _ (by simp [Sort.putRowK, Sort.putRow, Sort.mapBlock, Sort.ahead]; exact hk)]
  simp [Sort.putRowK, Sort.putRow, Sort.mapBlock, Sort.ahead, Array.getElem?_modify, Ne.symm hne]
theorem below_sortWorld {w0 w : World} {B g n : Nat} {d' : Array Ce} {os : Array Obj} (h : Below B w0 w) (hB : B ≤ g) (hw : B ≤ w.heap.size) : Below B w0 (sortWorldK ccell 4 w g 0 n d' os) := by
  refine ⟨h.os, h.tape, h.output, Nat.le_trans h.size ?_, fun k hk => ?_⟩
  · simp [sortWorldK, Sort.grow, Sort.putRowK, Sort.putRow, Sort.mapBlock, Sort.ahead]
  · rw [heap_sortWorld k (by omega) (by omega)]
    exact h.block k hk
/-- What the sort leaves: the same cells, sorted. -/
def Sorted (l : List Ce) (A : Option Addr) (w' : World) : Prop := ∃ m, m.Perm l ∧ (∀ j, j + 1 < m.length → ltK (m.getD (j + 1) nilC) (m.getD j nilC) = false) ∧ Ces w'.heap.size w' A m
set_option maxHeartbeats 1000000 in
theorem sort_any {B n c : Nat} {A : Option Addr} {l : List Ce} (w : World) (h : w.ownsRow B 31 4 (.slice A n c) n (ccs l)) (hn : l.length = n) (hs : ∀ p ∈ l, p.key.size ≤ maxLen ∧ p.val.size ≤ maxLen) (hm : n ≤ 1000000) (hB : B ≤ w.heap.size) :
    Calls Try.prog 51 #[.slice A n c, .func (.func 52) #[] #[]] w fun e w' => e = .returned (.tuple #[]) ∧ Sorted l A w' ∧ Below B w w' := by
  subst hn
  have hmm : l.length ≤ maxLen := by unfold maxLen; omega
  have hg : (A = none ∧ l.length = 0) ∨ ∃ g, A = some ⟨g, 0, none⟩ ∧ B ≤ g ∧ g < w.heap.size := by
    rcases h.2 with ⟨h1, h2⟩ | ⟨g, cap, cur, h1, h2, h3, _⟩
    · simp only [Value.slice.injEq] at h1
      exact .inl ⟨h1.1, h2⟩
    · simp only [Value.slice.injEq] at h1
      exact .inr ⟨g, h1.1, h2, (Array.getElem?_eq_some_iff.1 h3).1⟩
  rcases hg with ⟨rfl, h0⟩ | ⟨g, rfl, hBg, hgs⟩
  · have hl : l = [] := List.eq_nil_of_length_eq_zero h0
    subst hl
    have hS := AnyF.slices_SortFunc_none Try.sortL none c (.func (.func 52) #[] #[]) w
    change Calls Try.prog 51 _ _ _ at hS
    refine hS.mono fun e w' ⟨he, hw⟩ => ⟨he, ⟨[], List.Perm.refl _, fun j hj => by simp at hj, Ces.nil _ _ _⟩, by rw [hw]; exact Below.refl _ _⟩
  · have hH := holds_own h rfl
    have eg : ∀ args w, (callFunc 52 args).run Try.prog w = .ok (.enter 52 args) w := enters_of Try.func52 (by kernel_rfl) rfl
    have hS := AnyQ.slices_SortFunc Try.sortL 4 Try.isAgg31 Try.sizeOf31 ccell (fun _ => rfl) ccell_one cmpK swoK 52 #[] g 0 c l.toArray w eg (cmpLaysK g 0 l.toArray.size w) hH hgs (by simp; omega)
    change Calls Try.prog 51 _ _ _ at hS
    refine hS.mono fun e w' ⟨he, d', q, os, hp, hsd, hw⟩ => ⟨he, ?_, by rw [hw]; exact below_sortWorld (Below.refl _ _) hBg hB⟩
    obtain ⟨p1, p2, p3⟩ := hp
    have p1' : d'.size = l.length := by simpa using p1
    have hperm : d'.toList.Perm l := by
      have e1 : (d'.extract 0 l.toArray.size).toList = d'.toList := by
        rw [show l.toArray.size = d'.size by simp [p1']]
        simp
      have e2 : (l.toArray.extract 0 l.toArray.size).toList = l := by simp
      rw [e1, e2] at p3
      exact p3
    refine ⟨d'.toList, hperm, fun j hj => ?_, ?_⟩
    · have hj' : j + 1 < d'.size := by simpa using hj
      have := hsd j (j + 1) (Nat.zero_le _) (by omega) (by simpa [p1'] using hj')
      rw [ltOf_cmp] at this
      rw [getD_at hj, getD_at (by omega : j < d'.toList.length)]
      rw [getElem!_pos d' (j + 1) hj', getElem!_pos d' j (by omega)] at this
      simpa using this
    · have hH2 : Sort.HoldsK ccell 4 w' g 0 d'.toList.toArray := by
        rw [hw]
        have := holdsK_sortWorldK_c ccell 4 w g 0 l.toArray d' q os hH hgs (by simp [p1'])
        simpa using this
      have hgs' : g < w'.heap.size := by
        rw [hw]
        simp only [sortWorldK, Sort.grow, Sort.putRowK, Sort.putRow, Sort.mapBlock, Sort.ahead, Array.size_append, Array.size_modify]
        omega
      exact ces_holds (n := 0) hH2 hgs' (fun p hp => hs p (hperm.mem_iff.1 hp)) (by simp [p1']; exact hmm)
set_option maxHeartbeats 1000000 in
theorem clone_cells {C n c : Nat} {A : Option Addr} {l : List Ce} (w : World) (h : Ces C w A l) (hn : l.length = n) (hm : n ≤ 1000000) (hC : C ≤ w.heap.size) :
    Calls Try.prog 50 #[.slice A n c] w fun e w' => ∃ A2 c2, e = .returned (.slice A2 n c2) ∧ w'.ownsRow w.heap.size 31 4 (.slice A2 n c2) n (ccs l) ∧ Below w.heap.size w w' := by
  obtain ⟨i0, hi, hz0, hz1, hz2⟩ := info_parts info_c
  have q22 : ∀ (w : World) (a : Option Addr) (n c n' c' : Nat), (binOp .eql 38 (.slice a n c) (.slice none n' c')).run Try.prog w = .ok (.bool a.isNone) w := fun w a n c n' c' => Lib.run_eql_slice_nil w _ _ a n c n' c' Try.underlying38
  have h0 : A = none → l = [] := fun e => by
    refine List.eq_nil_of_length_eq_zero ?_
    by_cases h0 : 0 < l.length
    · obtain ⟨b, off, h1, _⟩ := h.1 0 h0
      rw [e] at h1
      cases h1
    · omega
  have hs := fun (o : Obj) => (h.kept (((Below.refl w.heap.size w).alloc (Nat.le_refl _) o).mono hC)).src
  subst hn
  cases A with
  | none =>
    have hl := h0 rfl
    subst hl
    go_enter Try.func50, Try.ntmps50
    go_wp2_with fail
    go_ret
    exact ⟨none, 0, rfl, World.ownsRow_nil _ _ _ _, Below.refl _ _⟩
  | some ad =>
    have hmk := World.ownsRow_made w #[] 0 (base := w.heap.size) (e := 31) (size := 4) (Nat.le_refl _) (Nat.zero_le _) (by simp)
    have hs' := hs (.cells #[] 31)
    clear h0 hs h
    go_enter Try.func50, Try.ntmps50
    go_wp2_with (at_builtin; refine wpList_append_src _ rfl _ _ 38 rfl 31 i0 (.agg #[.string ⟨#[]⟩, .string ⟨#[]⟩, .int .i64 0, .int .i64 0]) 4 48 Try.underlying38 hi hz0 hz1 hz2 rfl (by decide) w.heap.size _ 0 [] rfl hmk (some ad) l.length c _ rfl hs' (ccs_one l) (by unfold maxLen; omega) (by omega) (by simp) ?_; intro v' w1 hown hgrow hat)
    go_ret
    simp only [Nat.zero_add, List.nil_append] at hown
    obtain ⟨A', c', rfl⟩ := own_shape hown
    exact ⟨A', c', rfl, hown, ((Below.refl _ w).alloc (Nat.le_refl _) _).grown hgrow (by simp) (fun k hk => by cases hk; exact Nat.le_refl _)⟩
end Go.Proofs.Ytljegjcajlkgiaa
