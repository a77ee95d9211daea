/- The contracts of byKey, slices.Clone, slices.SortFunc over cells, ascending, Fits. -/
import Derived.Test.YtljegjcajlkgiaaGreatMem
import Derived.Shelf.SlGeneric
import Derived.Shelf.SlicesE.Clone
import Derived.Shelf.SlSortCmp.NoneTotal
import Derived.Ground.SlgnProg
import Derived.Ground.SlsfProg
import Derived.Lib.Bytealg
namespace Go.Proofs
open Go.Shelf
def Tryz.cloneL_ren : Go.Shelf.Ren := ⟨fun | 41 => 103 | n => n, fun | 22 => 26 | 23 => 42 | 4 => 4 | n => n, fun | n => n⟩
theorem Tryz.cloneL : Go.Proofs.SlLaysE0.n41 Tryz.prog Tryz.cloneL_ren := {
  mixed := by kernel_rfl
  f41 := ⟨Tryz.f103.name, by decide, Tryz.func103.trans (congrArg some (by kernel_rfl))⟩
  t4 := Tryz.underlying4
  a4 := Tryz.isAgg4
  z4 := Tryz.sizeOf4
  v4 := Tryz.zeroValue4
  t22 := Tryz.underlying26
  a22 := Tryz.isAgg26
  z22 := Tryz.sizeOf26
  v22 := Tryz.zeroValue26 }
def Tryz.sortL_ren : Go.Shelf.Ren := ⟨fun | 6 => 104 | 15 => 112 | 14 => 111 | 28 => 123 | 29 => 124 | 20 => 115 | 21 => 116 | 22 => 117 | 23 => 118 | 24 => 119 | 25 => 120 | 26 => 121 | 27 => 122 | 46 => 126 | 47 => 127 | 48 => 128 | 49 => 129 | 50 => 130 | 57 => 132 | n => n, fun | 22 => 26 | 24 => 42 | 25 => 140 | 3 => 3 | 39 => 102 | 0 => 0 | 53 => 162 | 55 => 164 | 4 => 4 | 46 => 155 | 45 => 154 | 50 => 159 | 5 => 5 | 9 => 9 | 66 => 165 | 70 => 169 | 76 => 171 | 77 => 172 | n => n, fun | n => n⟩
theorem Tryz.sortL : Go.Proofs.SlLaysF0.n6 Tryz.prog Tryz.sortL_ren := {
  mixed := by kernel_rfl
  f6 := ⟨Tryz.f104.name, by decide, Tryz.func104.trans (congrArg some (by kernel_rfl))⟩
  f14 := ⟨Tryz.f111.name, by decide, Tryz.func111.trans (congrArg some (by kernel_rfl))⟩
  f15 := Tryz.func112.trans (congrArg some (by kernel_rfl))
  f20 := ⟨Tryz.f115.name, by decide, Tryz.func115.trans (congrArg some (by kernel_rfl))⟩
  f21 := ⟨Tryz.f116.name, by decide, Tryz.func116.trans (congrArg some (by kernel_rfl))⟩
  f22 := ⟨Tryz.f117.name, by decide, Tryz.func117.trans (congrArg some (by kernel_rfl))⟩
  f23 := ⟨Tryz.f118.name, by decide, Tryz.func118.trans (congrArg some (by kernel_rfl))⟩
  f24 := ⟨Tryz.f119.name, by decide, Tryz.func119.trans (congrArg some (by kernel_rfl))⟩
  f25 := ⟨Tryz.f120.name, by decide, Tryz.func120.trans (congrArg some (by kernel_rfl))⟩
  f26 := ⟨Tryz.f121.name, by decide, Tryz.func121.trans (congrArg some (by kernel_rfl))⟩
  f27 := ⟨Tryz.f122.name, by decide, Tryz.func122.trans (congrArg some (by kernel_rfl))⟩
  f28 := Tryz.func123.trans (congrArg some (by kernel_rfl))
  f29 := Tryz.func124.trans (congrArg some (by kernel_rfl))
  f46 := ⟨Tryz.f126.name, by decide, Tryz.func126.trans (congrArg some (by kernel_rfl))⟩
  f47 := Tryz.func127.trans (congrArg some (by kernel_rfl))
  f48 := Tryz.func128.trans (congrArg some (by kernel_rfl))
  f49 := ⟨Tryz.f129.name, by decide, Tryz.func129.trans (congrArg some (by kernel_rfl))⟩
  f50 := ⟨Tryz.f130.name, by decide, Tryz.func130.trans (congrArg some (by kernel_rfl))⟩
  f57 := ⟨Tryz.f132.name, by decide, Tryz.func132.trans (congrArg some (by kernel_rfl))⟩
  t0 := Tryz.underlying0
  a0 := Tryz.isAgg0
  z0 := Tryz.sizeOf0
  v0 := Tryz.zeroValue0
  t3 := Tryz.underlying3
  a3 := Tryz.isAgg3
  z3 := Tryz.sizeOf3
  v3 := Tryz.zeroValue3
  t4 := Tryz.underlying4
  a4 := Tryz.isAgg4
  z4 := Tryz.sizeOf4
  v4 := Tryz.zeroValue4
  t5 := Tryz.underlying5
  a5 := Tryz.isAgg5
  z5 := Tryz.sizeOf5
  v5 := Tryz.zeroValue5
  t9 := Tryz.underlying9
  a9 := Tryz.isAgg9
  z9 := Tryz.sizeOf9
  v9 := Tryz.zeroValue9
  t22 := Tryz.underlying26
  a22 := Tryz.isAgg26
  z22 := Tryz.sizeOf26
  v22 := Tryz.zeroValue26
  t25 := Tryz.underlying140
  a25 := Tryz.isAgg140
  z25 := Tryz.sizeOf140
  v25 := Tryz.zeroValue140
  t39 := Tryz.underlying102
  a39 := Tryz.isAgg102
  z39 := Tryz.sizeOf102
  v39 := Tryz.zeroValue102
  t45 := Tryz.underlying154
  a45 := Tryz.isAgg154
  z45 := Tryz.sizeOf154
  v45 := Tryz.zeroValue154
  t46 := Tryz.underlying155
  a46 := Tryz.isAgg155
  z46 := Tryz.sizeOf155
  v46 := Tryz.zeroValue155
  t50 := Tryz.underlying159
  a50 := Tryz.isAgg159
  z50 := Tryz.sizeOf159
  v50 := Tryz.zeroValue159
  t53 := Tryz.underlying162
  a53 := Tryz.isAgg162
  z53 := Tryz.sizeOf162
  v53 := Tryz.zeroValue162
  t55 := Tryz.underlying164
  a55 := Tryz.isAgg164
  z55 := Tryz.sizeOf164
  v55 := Tryz.zeroValue164
  t66 := Tryz.underlying165
  a66 := Tryz.isAgg165
  z66 := Tryz.sizeOf165
  v66 := Tryz.zeroValue165
  t70 := Tryz.underlying169
  a70 := Tryz.isAgg169
  z70 := Tryz.sizeOf169
  v70 := Tryz.zeroValue169
  t76 := Tryz.underlying171
  a76 := Tryz.isAgg171
  z76 := Tryz.sizeOf171
  v76 := Tryz.zeroValue171
  t77 := Tryz.underlying172
  a77 := Tryz.isAgg172
  z77 := Tryz.sizeOf172
  v77 := Tryz.zeroValue172 }
end Go.Proofs
namespace Go.Proofs.YtljegjcajlkgiaaGreat
open Go.ChangeShapes Go.WideShapes Go.ChangeAt Go.RowKit Go.Shelf
set_option linter.unusedVariables false
set_option linter.unusedSimpArgs false
set_option maxRecDepth 100000
theorem cmpString_any (a b : ByteArray) (w : World) : Calls Tryz.prog 125 #[.string a, .string b] w fun e w' => e = .returned (.int .i64 (Lib.compareBytes a.data.toList b.data.toList)) ∧ w = w' := by
  go_enter Tryz.func125, Tryz.ntmps125
  go_wp2
  rw [run_callFunc_extern Tryz.func131 (by kernel_rfl) (by kernel_rfl) (by kernel_rfl) (e := Extern.BytealgCompare.compare) (by kernel_rfl), Lib.run_compareString]
  simp only [Result.andThen]
  rw [Oper.upon_value]
  go_wp2
  go_ret
  exact ⟨rfl, rfl⟩
theorem compare_any (a b : ByteArray) (w : World) : Calls Tryz.prog 113 #[.string a, .string b] w fun e w' => e = .returned (.int .i64 (Lib.compareBytes a.data.toList b.data.toList)) ∧ w = w' := by
  have C := Lib.hid (cmpString_any a b)
  generalize Lib.compareBytes a.data.toList b.data.toList = r at *
  go_enter Tryz.func113, Tryz.ntmps113
  go_wp2_with fail
  refine (C.out _).mono ?_; rintro e w1 ⟨rfl, rfl⟩
  go_wp2_with fail
  go_ret
  exact ⟨rfl, rfl⟩
theorem byKey_any (x y : Ce) (w : World) : Calls Tryz.prog 105 #[cvC x, cvC y] w fun e w' => e = .returned (.int .i64 (cmpK x y)) ∧ ∃ q os', w' = Sort.grow (w.drewN q) os' := by
  have C := Lib.hid (compare_any x.key y.key)
  unfold cmpK cvC cv
  generalize Lib.compareBytes x.key.data.toList y.key.data.toList = r at *
  go_enter Tryz.func105, Tryz.ntmps105
  go_wp2_with fail
  refine (C.out _).mono ?_; rintro e w1 ⟨rfl, rfl⟩
  go_wp2_with fail
  go_ret
  exact ⟨rfl, 0, _, by rw [Sort.alloc_eq_grow, Sort.alloc_eq_grow, Sort.grow_grow]; rfl⟩

theorem ltOf_cmp (x y : Ce) : ltOf cmpK x y = ltK x y := rfl
theorem swoK : Sort.SWO (ltOf cmpK) where
  irrefl x := ltK_irrefl x
  trans x y z h1 h2 := ltK_trans h1 h2
  ntrans x y z h1 h2 := by
    rw [ltOf_cmp] at *
    unfold ltK cmpK at *
    have a1 : ¬ Lib.compareBytes x.key.data.toList y.key.data.toList < 0 := of_decide_eq_false h1
    have a2 : ¬ Lib.compareBytes y.key.data.toList z.key.data.toList < 0 := of_decide_eq_false h2
    refine decide_eq_false fun a3 => ?_
    rw [cb_neg] at a1 a2
    by_cases e : Lib.compareBytes z.key.data.toList y.key.data.toList = 0
    · rw [cb_eq _ _ e] at a3
      rw [cb_neg] at a3
      omega
    · have h := cb_trans _ _ _ a3 (show Lib.compareBytes z.key.data.toList y.key.data.toList < 0 by omega)
      rw [cb_neg] at h
      omega
theorem agg_cell (c : Ce) : Value.agg (ccell c).toArray = cvC c := rfl
theorem cmpLaysK (blk off size : Nat) (w : World) : CmpLays Tryz.prog 105 #[] ccell 4 cmpK blk off size w := fun _ _ _ _ x y => byKey_any x y _
theorem flat_ccs (l : List Ce) (t : Nat) (ht : t < l.length * 4) : (Sort.flatK ccell 4 l.toArray)[t]! = (ccs l)[t]! := by
  rw [Sort.get_flatK _ _ _ _ (by simpa using ht)]
  have hk : t / 4 < l.length := by omega
  have h := ccs_at l (t / 4) (t % 4) hk (by omega)
  rw [show t / 4 * 4 + t % 4 = t by omega] at h
  have e1 : (l.toArray)[t / 4]! = l.getD (t / 4) nilC := by
    rw [getD_at hk, getElem!_pos l.toArray (t / 4) (by simpa using hk)]
    simp
  rw [e1]
  have : t % 4 < (ccell (l.getD (t / 4) nilC)).length := by rw [ccell_length]; omega
  rw [getElem!_pos (ccell (l.getD (t / 4) nilC)) (t % 4) this]
  have h2 : t < (ccs l).length := by rw [ccs_length]; exact ht
  rw [getElem!_pos (ccs l) t h2]
  rw [List.getElem?_eq_getElem h2, List.getElem?_eq_getElem this] at h
  exact (Option.some.inj h).symm
theorem holds_own {w : World} {B g n c : Nat} {l : List Ce} (h : w.ownsRow B 42 4 (.slice (some ⟨g, 0, none⟩) n c) n (ccs l)) (hn : l.length = n) : Sort.HoldsK ccell 4 w g 0 l.toArray := by
  intro j hj
  have hj' : j < l.length * 4 := by simpa using hj
  rw [flat_ccs l j hj']
  have h2 : j < (ccs l).length := by rw [ccs_length]; exact hj'
  rw [getElem!_pos (ccs l) j h2]
  have hc := h.cells (g := g) rfl j _ (List.getElem?_eq_getElem h2)
  rw [add_plain] at hc
  refine ⟨hc, ?_⟩
  rcases h.2 with ⟨h1, _⟩ | ⟨g', cap, cur, h1, _, h3, _⟩
  · simp at h1
  · simp only [Value.slice.injEq, Option.some.injEq, Addr.mk.injEq, and_true, true_and] at h1
    obtain ⟨rfl, _⟩ := h1
    exact frozen_of_row _ _ _ _ _ h3
theorem ces_holds {w : World} {g n : Nat} {l : List Ce} (h : Sort.HoldsK ccell 4 w g 0 l.toArray) (hg : g < w.heap.size) (hs : ∀ p ∈ l, p.key.size ≤ maxLen ∧ p.val.size ≤ maxLen) (hm : l.length ≤ maxLen) : Ces w.heap.size w (some ⟨g, 0, none⟩) l := by
  refine ⟨fun k hk => ⟨g, 0, rfl, hg, ?_⟩, hs, hm⟩
  have e : ∀ r, r < 4 → w.cell? ⟨g, 0 + k * 4 + r, none⟩ = some ((ccell (l.getD k nilC))[r]!) := by
    intro r hr
    have := (h.cell (i := k) (c := r) (by simpa using hk) hr).1
    rw [this]
    congr 2
    rw [getD_at hk, getElem!_pos l.toArray k (by simpa using hk)]
    simp
  exact ⟨e 0 (by omega), e 1 (by omega), e 2 (by omega), e 3 (by omega)⟩
theorem heap_sortWorld {w : World} {g n : Nat} {d' : Array Ce} {os : Array Obj} (k : Nat) (hk : k < w.heap.size) (hne : k ≠ g) : (sortWorldK ccell 4 w g 0 n d' os).heap[k]? = w.heap[k]? := by
  unfold sortWorldK
  rw [Sort.heap_grow_old _ _ (by simp [Sort.putRowK, Sort.putRow, Sort.mapBlock, Sort.ahead]; exact hk)]
  simp [Sort.putRowK, Sort.putRow, Sort.mapBlock, Sort.ahead, Array.getElem?_modify, Ne.symm hne]
theorem below_sortWorld {w0 w : World} {B g n : Nat} {d' : Array Ce} {os : Array Obj} (h : Below B w0 w) (hB : B ≤ g) (hw : B ≤ w.heap.size) : Below B w0 (sortWorldK ccell 4 w g 0 n d' os) := by
  refine ⟨h.os, h.tape, h.output, Nat.le_trans h.size ?_, fun k hk => ?_⟩
  · simp [sortWorldK, Sort.grow, Sort.putRowK, Sort.putRow, Sort.mapBlock, Sort.ahead]
  · rw [heap_sortWorld k (by omega) (by omega)]
    exact h.block k hk
/-- What the sort leaves: the same cells, sorted. -/
def Sorted (l : List Ce) (A : Option Addr) (w' : World) : Prop := ∃ m, m.Perm l ∧ (∀ j, j + 1 < m.length → ltK (m.getD (j + 1) nilC) (m.getD j nilC) = false) ∧ Ces w'.heap.size w' A m
set_option maxHeartbeats 1000000 in
theorem sort_any {B n c : Nat} {A : Option Addr} {l : List Ce} (w : World) (h : w.ownsRow B 42 4 (.slice A n c) n (ccs l)) (hn : l.length = n) (hs : ∀ p ∈ l, p.key.size ≤ maxLen ∧ p.val.size ≤ maxLen) (hm : n ≤ 1000000) (hB : B ≤ w.heap.size) :
    Calls Tryz.prog 104 #[.slice A n c, .func (.func 105) #[] #[]] w fun e w' => e = .returned (.tuple #[]) ∧ Sorted l A w' ∧ Below B w w' := by
  subst hn
  have hmm : l.length ≤ maxLen := by unfold maxLen; omega
  have hg : (A = none ∧ l.length = 0) ∨ ∃ g, A = some ⟨g, 0, none⟩ ∧ B ≤ g ∧ g < w.heap.size := by
    rcases h.2 with ⟨h1, h2⟩ | ⟨g, cap, cur, h1, h2, h3, _⟩
    · simp only [Value.slice.injEq] at h1
      exact .inl ⟨h1.1, h2⟩
    · simp only [Value.slice.injEq] at h1
      exact .inr ⟨g, h1.1, h2, (Array.getElem?_eq_some_iff.1 h3).1⟩
  rcases hg with ⟨rfl, h0⟩ | ⟨g, rfl, hBg, hgs⟩
  · have hl : l = [] := List.eq_nil_of_length_eq_zero h0
    subst hl
    have hS := AnyF.slices_SortFunc_none Tryz.sortL none c (.func (.func 105) #[] #[]) w
    change Calls Tryz.prog 104 _ _ _ at hS
    refine hS.mono fun e w' ⟨he, hw⟩ => ⟨he, ⟨[], List.Perm.refl _, fun j hj => by simp at hj, Ces.nil _ _ _⟩, by rw [hw]; exact Below.refl _ _⟩
  · have hH := holds_own h rfl
    have eg : ∀ args w, (callFunc 105 args).run Tryz.prog w = .ok (.enter 105 args) w := enters_of Tryz.func105 (by kernel_rfl) rfl
    have hS := AnyQ.slices_SortFunc Tryz.sortL 4 Tryz.isAgg42 Tryz.sizeOf42 ccell (fun _ => rfl) ccell_one cmpK swoK 105 #[] g 0 c l.toArray w eg (cmpLaysK g 0 l.toArray.size w) hH hgs (by simp; omega)
    change Calls Tryz.prog 104 _ _ _ at hS
    refine hS.mono fun e w' ⟨he, d', q, os, hp, hsd, hw⟩ => ⟨he, ?_, by rw [hw]; exact below_sortWorld (Below.refl _ _) hBg hB⟩
    obtain ⟨p1, p2, p3⟩ := hp
    have p1' : d'.size = l.length := by simpa using p1
    have hperm : d'.toList.Perm l := by
      have e1 : (d'.extract 0 l.toArray.size).toList = d'.toList := by
        rw [show l.toArray.size = d'.size by simp [p1']]
        simp
      have e2 : (l.toArray.extract 0 l.toArray.size).toList = l := by simp
      rw [e1, e2] at p3
      exact p3
    refine ⟨d'.toList, hperm, fun j hj => ?_, ?_⟩
    · have hj' : j + 1 < d'.size := by simpa using hj
      have := hsd j (j + 1) (Nat.zero_le _) (by omega) (by simpa [p1'] using hj')
      rw [ltOf_cmp] at this
      rw [getD_at hj, getD_at (by omega : j < d'.toList.length)]
      rw [getElem!_pos d' (j + 1) hj', getElem!_pos d' j (by omega)] at this
      simpa using this
    · have hH2 : Sort.HoldsK ccell 4 w' g 0 d'.toList.toArray := by
        rw [hw]
        have := holdsK_sortWorldK_c ccell 4 w g 0 l.toArray d' q os hH hgs (by simp [p1'])
        simpa using this
      have hgs' : g < w'.heap.size := by
        rw [hw]
        simp only [sortWorldK, Sort.grow, Sort.putRowK, Sort.putRow, Sort.mapBlock, Sort.ahead, Array.size_append, Array.size_modify]
        omega
      exact ces_holds (n := 0) hH2 hgs' (fun p hp => hs p (hperm.mem_iff.1 hp)) (by simp [p1']; exact hmm)
set_option maxHeartbeats 1000000 in
theorem clone_cells {C n c : Nat} {A : Option Addr} {l : List Ce} (w : World) (h : Ces C w A l) (hn : l.length = n) (hm : n ≤ 1000000) (hC : C ≤ w.heap.size) :
    Calls Tryz.prog 103 #[.slice A n c] w fun e w' => ∃ A2 c2, e = .returned (.slice A2 n c2) ∧ w'.ownsRow w.heap.size 42 4 (.slice A2 n c2) n (ccs l) ∧ Below w.heap.size w w' := by
  obtain ⟨i0, hi, hz0, hz1, hz2⟩ := info_parts info_c
  have q22 : ∀ (w : World) (a : Option Addr) (n c n' c' : Nat), (binOp .eql 26 (.slice a n c) (.slice none n' c')).run Tryz.prog w = .ok (.bool a.isNone) w := fun w a n c n' c' => Lib.run_eql_slice_nil w _ _ a n c n' c' Tryz.underlying26
  have h0 : A = none → l = [] := fun e => by
    refine List.eq_nil_of_length_eq_zero ?_
    by_cases h0 : 0 < l.length
    · obtain ⟨b, off, h1, _⟩ := h.1 0 h0
      rw [e] at h1
      cases h1
    · omega
  have hs := fun (o : Obj) => (h.kept (((Below.refl w.heap.size w).alloc (Nat.le_refl _) o).mono hC)).src
  subst hn
  cases A with
  | none =>
    have hl := h0 rfl
    subst hl
    go_enter Tryz.func103, Tryz.ntmps103
    go_wp2_with fail
    go_ret
    exact ⟨none, 0, rfl, World.ownsRow_nil _ _ _ _, Below.refl _ _⟩
  | some ad =>
    have hmk := World.ownsRow_made w #[] 0 (base := w.heap.size) (e := 42) (size := 4) (Nat.le_refl _) (Nat.zero_le _) (by simp)
    have hs' := hs (.cells #[] 42)
    clear h0 hs h
    go_enter Tryz.func103, Tryz.ntmps103
    go_wp2_with (at_builtin; refine wpList_append_src _ rfl _ _ 26 rfl 42 i0 (.agg #[.string ⟨#[]⟩, .string ⟨#[]⟩, .int .i64 0, .int .i64 0]) 4 48 Tryz.underlying26 hi hz0 hz1 hz2 rfl (by decide) w.heap.size _ 0 [] rfl hmk (some ad) l.length c _ rfl hs' (ccs_one l) (by unfold maxLen; omega) (by omega) (by simp) ?_; intro v' w1 hown hgrow hat)
    go_ret
    simp only [Nat.zero_add, List.nil_append] at hown
    obtain ⟨A', c', rfl⟩ := own_shape hown
    exact ⟨A', c', rfl, hown, ((Below.refl _ w).alloc (Nat.le_refl _) _).grown hgrow (by simp) (fun k hk => by cases hk; exact Nat.le_refl _)⟩
end Go.Proofs.YtljegjcajlkgiaaGreat
