/- The contracts of slices.Sort and slices.Compact over a row of numbers of the call's own; Touches. -/
import Derived.Test.YtbmnagfjpenemaaGreatDoorRecr
import Derived.Shelf.Lays
import Derived.Shelf.Lays2
import Derived.Ground.NamesProg
import Derived.Ground.Names2Prog
import Derived.Shelf.Sort.Plain
import Derived.Shelf.Slices.CompactI
import Derived.Shelf.Slices.In.SortNone
import Derived.Lib.RowBridge
import Derived.Lib.SortBridge
import Derived.Lib.Builder
namespace Go.Proofs
open Go.Shelf
def Tryz.sorL_ren : Go.Shelf.Ren := ⟨fun | 189 => 28 | 125 => 107 | 257 => 106 | 128 => 155 | 129 => 156 | 294 => 146 | 295 => 147 | 296 => 148 | 297 => 149 | 298 => 150 | 299 => 151 | 216 => 152 | 300 => 153 | 301 => 154 | 328 => 166 | 329 => 167 | 330 => 168 | 331 => 169 | 332 => 170 | 215 => 171 | 343 => 174 | n => n, fun | 28 => 24 | 3 => 3 | 46 => 131 | 0 => 0 | 51 => 186 | 53 => 132 | 4 => 4 | 183 => 178 | 182 => 177 | 131 => 183 | 5 => 5 | 9 => 9 | 218 => 193 | 222 => 197 | 228 => 199 | 229 => 200 | n => n, fun | n => n⟩
theorem Tryz.sorL : Go.Proofs.Lays.n189 Tryz.prog Tryz.sorL_ren := {
  mixed := by kernel_rfl
  f125 := Tryz.func107.trans (congrArg some (by kernel_rfl))
  f128 := Tryz.func155.trans (congrArg some (by kernel_rfl))
  f129 := Tryz.func156.trans (congrArg some (by kernel_rfl))
  f189 := Tryz.func28.trans (congrArg some (by kernel_rfl))
  f215 := Tryz.func171.trans (congrArg some (by kernel_rfl))
  f216 := Tryz.func152.trans (congrArg some (by kernel_rfl))
  f257 := Tryz.func106.trans (congrArg some (by kernel_rfl))
  f294 := Tryz.func146.trans (congrArg some (by kernel_rfl))
  f295 := Tryz.func147.trans (congrArg some (by kernel_rfl))
  f296 := Tryz.func148.trans (congrArg some (by kernel_rfl))
  f297 := Tryz.func149.trans (congrArg some (by kernel_rfl))
  f298 := Tryz.func150.trans (congrArg some (by kernel_rfl))
  f299 := Tryz.func151.trans (congrArg some (by kernel_rfl))
  f300 := Tryz.func153.trans (congrArg some (by kernel_rfl))
  f301 := Tryz.func154.trans (congrArg some (by kernel_rfl))
  f328 := Tryz.func166.trans (congrArg some (by kernel_rfl))
  f329 := Tryz.func167.trans (congrArg some (by kernel_rfl))
  f330 := Tryz.func168.trans (congrArg some (by kernel_rfl))
  f331 := Tryz.func169.trans (congrArg some (by kernel_rfl))
  f332 := Tryz.func170.trans (congrArg some (by kernel_rfl))
  f343 := Tryz.func174.trans (congrArg some (by kernel_rfl))
  t0 := Tryz.underlying0
  a0 := Tryz.isAgg0
  z0 := Tryz.sizeOf0
  v0 := Tryz.zeroValue0
  t3 := Tryz.underlying3
  a3 := Tryz.isAgg3
  z3 := Tryz.sizeOf3
  v3 := Tryz.zeroValue3
  t4 := Tryz.underlying4
  a4 := Tryz.isAgg4
  z4 := Tryz.sizeOf4
  v4 := Tryz.zeroValue4
  t5 := Tryz.underlying5
  a5 := Tryz.isAgg5
  z5 := Tryz.sizeOf5
  v5 := Tryz.zeroValue5
  t9 := Tryz.underlying9
  a9 := Tryz.isAgg9
  z9 := Tryz.sizeOf9
  v9 := Tryz.zeroValue9
  t28 := Tryz.underlying24
  a28 := Tryz.isAgg24
  z28 := Tryz.sizeOf24
  v28 := Tryz.zeroValue24
  t46 := Tryz.underlying131
  a46 := Tryz.isAgg131
  z46 := Tryz.sizeOf131
  v46 := Tryz.zeroValue131
  t51 := Tryz.underlying186
  a51 := Tryz.isAgg186
  z51 := Tryz.sizeOf186
  v51 := Tryz.zeroValue186
  t53 := Tryz.underlying132
  a53 := Tryz.isAgg132
  z53 := Tryz.sizeOf132
  v53 := Tryz.zeroValue132
  t131 := Tryz.underlying183
  a131 := Tryz.isAgg183
  z131 := Tryz.sizeOf183
  v131 := Tryz.zeroValue183
  t182 := Tryz.underlying177
  a182 := Tryz.isAgg177
  z182 := Tryz.sizeOf177
  v182 := Tryz.zeroValue177
  t183 := Tryz.underlying178
  a183 := Tryz.isAgg178
  z183 := Tryz.sizeOf178
  v183 := Tryz.zeroValue178
  t218 := Tryz.underlying193
  a218 := Tryz.isAgg193
  z218 := Tryz.sizeOf193
  v218 := Tryz.zeroValue193
  t222 := Tryz.underlying197
  a222 := Tryz.isAgg197
  z222 := Tryz.sizeOf197
  v222 := Tryz.zeroValue197
  t228 := Tryz.underlying199
  a228 := Tryz.isAgg199
  z228 := Tryz.sizeOf199
  v228 := Tryz.zeroValue199
  t229 := Tryz.underlying200
  a229 := Tryz.isAgg200
  z229 := Tryz.sizeOf200
  v229 := Tryz.zeroValue200 }
def Tryz.comL_ren : Go.Shelf.Ren := ⟨fun | 20 => 29 | n => n, fun | 22 => 24 | 3 => 3 | 4 => 4 | 0 => 0 | n => n, fun | n => n⟩
theorem Tryz.comL : Go.Proofs.Lays2.n20 Tryz.prog Tryz.comL_ren := {
  mixed := by kernel_rfl
  f20 := Tryz.func29.trans (congrArg some (by kernel_rfl))
  t0 := Tryz.underlying0
  a0 := Tryz.isAgg0
  z0 := Tryz.sizeOf0
  v0 := Tryz.zeroValue0
  t3 := Tryz.underlying3
  a3 := Tryz.isAgg3
  z3 := Tryz.sizeOf3
  v3 := Tryz.zeroValue3
  t4 := Tryz.underlying4
  a4 := Tryz.isAgg4
  z4 := Tryz.sizeOf4
  v4 := Tryz.zeroValue4
  t22 := Tryz.underlying24
  a22 := Tryz.isAgg24
  z22 := Tryz.sizeOf24
  v22 := Tryz.zeroValue24
  i3 := by kernel_rfl }
end Go.Proofs
namespace Go.Proofs.YtbmnagfjpenemaaGreatDoor
open Go.ChangeShapes Go.WideShapes Go.ChangeAt Go.RowKit Go.Shelf Go.Sort Go.Lib
set_option linter.unusedVariables false
set_option linter.unusedSimpArgs false
set_option maxRecDepth 100000
theorem own_setCells {e s n B g : Nat} {v : Value} : ∀ (vs : List Value) (o : Nat) (w : World) (xs : List Value), w.ownsRow B e s v n xs → v.ownBlock = some g → o + vs.length = xs.length → (w.setCells g o vs).ownsRow B e s v n (xs.take o ++ vs)
  | [], o, w, xs, h, hg, hl => by
    have : xs.take o = xs := List.take_of_length_le (by simp at hl; omega)
    simp only [List.append_nil, this]
    exact h
  | u :: vs, o, w, xs, h, hg, hl => by
    have hl' : o < xs.length := by simp at hl; omega
    have h1 : (w.setCell ⟨g, o, none⟩ u).ownsRow B e s v n (xs.set o u) := by
      refine ⟨by rw [List.length_set]; exact h.1, ?_⟩
      rcases h.2 with ⟨rfl, _⟩ | ⟨g', cap, cur, rfl, h1, h2, h3, h4, h5, h6⟩
      · simp [Value.ownBlock] at hg
      · simp only [Value.ownBlock, Option.some.injEq] at hg
        subst hg
        refine .inr ⟨g', cap, cur.setIfInBounds o u, rfl, h1, ?_, h3, h4, by simp [h5], ?_⟩
        · rw [setCell_eq_setRow w g' o cur e (0, 0) u h2, setRow_heap w g' _ _ _ _ h2]
        · rw [Array.toList_setIfInBounds, List.take_set, h6]
    have h2 := own_setCells vs (o + 1) _ _ h1 hg (by rw [List.length_set]; simp at hl; omega)
    have e1 : (xs.set o u).take (o + 1) = xs.take o ++ [u] := by
      rw [List.take_succ_eq_append_getElem (by rw [List.length_set]; exact hl')]
      simp [List.take_set_of_le]
    rw [e1, List.append_assoc] at h2
    exact h2
theorem below_setCells {C g : Nat} {a : World} (hg : C ≤ g) : ∀ (vs : List Value) (o : Nat) (w : World), Below C a w → Below C a (w.setCells g o vs)
  | [], _, _, h => h
  | u :: vs, o, w, h => below_setCells hg vs (o + 1) _ (h.setCell (p := ⟨g, o, none⟩) hg u)
theorem below_grow {C : Nat} {a w : World} (h : Below C a w) (hC : C ≤ w.heap.size) (os : Array Obj) : Below C a (grow w os) :=
  h.trans ⟨rfl, rfl, rfl, by simp [grow], fun k hk => by simp only [grow]; rw [Array.getElem?_append_left (by omega)]⟩
theorem own_grow {w : World} {B e s n : Nat} {v : Value} {xs : List Value} (h : w.ownsRow B e s v n xs) (os : Array Obj) : (grow w os).ownsRow B e s v n xs :=
  h.kept (row := none) ⟨rfl, rfl, rfl, by simp [grow], fun k hk _ => by simp only [grow]; rw [Array.getElem?_append_left (by omega)]⟩ (by cases hv : v.ownBlock <;> simp)
theorem own_short {w : World} {B e n m c : Nat} {A : Option Addr} {xs : List Value} (h : w.ownsRow B e 1 (.slice A n c) n xs) (hm : m ≤ n) : w.ownsRow B e 1 (.slice A m c) m (xs.take m) := by
  refine ⟨by rw [List.length_take, h.1]; omega, ?_⟩
  rcases h.2 with ⟨h1, h2⟩ | ⟨g, cap, cur, h1, h2, h3, h4, h5, h6, h7⟩
  · simp only [Value.slice.injEq] at h1
    obtain ⟨rfl, _, rfl⟩ := h1
    left
    exact ⟨by congr 1; omega, by omega⟩
  · simp only [Value.slice.injEq] at h1
    obtain ⟨rfl, _, rfl⟩ := h1
    exact .inr ⟨g, c, cur, rfl, h2, h3, by omega, h5, h6, by rw [← h7, List.take_take]; congr 1; omega⟩
/-- Numbers, rising. -/
def asc (l : List Int) : List Int := l.mergeSort fun x y => decide (x ≤ y)
theorem asc_length (l : List Int) : (asc l).length = l.length := List.length_mergeSort l
theorem holds_own {B g c : Nat} {zs : List Int} {w : World} (hown : w.ownsRow B 3 1 (.slice (some ⟨g, 0, none⟩) zs.length c) zs.length (ics zs)) (cur : Array Value) (hg : w.heap[g]? = some (.cells cur 3 (0, 0))) : Holds (Value.int .i64) w g 0 zs.toArray := by
  intro j hj
  have hj' : j < zs.length := by simpa using hj
  have := hown.cells (g := g) rfl j (.int .i64 zs[j]) (by simp [ics, hj'])
  rw [add_plain] at this
  refine ⟨by rw [this]; simp [hj'], Lib.frozen_of_heap hg _⟩
theorem sort_row (B : Nat) (A : Option Addr) (n c : Nat) (zs : List Int) (hn : n = zs.length) (hlen : zs.length ≤ 1000000) (w : World) (hown : w.ownsRow B 3 1 (.slice A n c) n (ics zs)) :
    Calls Tryz.prog 28 #[.slice A n c] w fun e w' => e = .returned (.tuple #[]) ∧ w'.ownsRow B 3 1 (.slice A n c) n (ics (asc zs)) ∧ ∀ C, C ≤ B → C ≤ w.heap.size → Below C w w' := by
  by_cases h0 : n = 0
  · subst h0
    have hz : zs = [] := List.eq_nil_of_length_eq_zero hn.symm
    subst hz
    have h := Any.slices_Sort_int_none Tryz.sorL A c w
    change Calls Tryz.prog 28 _ _ _ at h
    refine h.mono fun e w' ⟨he, hw⟩ => ?_
    subst hw
    exact ⟨he, by simpa [asc] using hown, fun C _ _ => Below.refl _ _⟩
  · rcases hown.2 with ⟨h, _⟩ | ⟨g, cap, cur, h, hb, hg, h1, h2, h3, h4⟩
    · simp at h; omega
    · simp only [Value.slice.injEq, true_and] at h
      obtain ⟨rfl, rfl⟩ := h
      subst hn
      have hH := holds_own hown cur hg
      have h := Any.slices_Sort_int Tryz.sorL g 0 c zs w hH (Array.getElem?_eq_some_iff.1 hg).1 (by omega)
      change Calls Tryz.prog 28 _ _ _ at h
      refine h.mono fun e w' ⟨he, q, os, hw⟩ => ?_
      change w' = grow (putRow (Value.int .i64) (Sort.ahead w q) g 0 (asc zs).toArray) os at hw
      rw [Lib.sorted_world _ w g 0 q zs.toArray (asc zs) os hH (by rw [asc_length]; simp)] at hw
      subst hw
      have hq : (w.drewN q).ownsRow B 3 1 (.slice (some ⟨g, 0, none⟩) zs.length c) zs.length (ics zs) := hown
      have hs := own_setCells (ics (asc zs)) 0 _ _ hq rfl (by simp [ics, asc_length])
      rw [List.take_zero, List.nil_append] at hs
      refine ⟨he, own_grow hs os, fun C h5 h6 => below_grow (a := w) (below_setCells (a := w) (Nat.le_trans h5 hb) _ _ (w.drewN q) ⟨rfl, rfl, rfl, Nat.le_refl _, fun _ _ => rfl⟩) ?_ os⟩
      exact Nat.le_trans h6 (below_setCells (C := 0) (a := w) (Nat.zero_le g) (ics (asc zs)) 0 (w.drewN q) ⟨rfl, rfl, rfl, Nat.le_refl _, fun _ _ => rfl⟩).size
theorem compact_len (zs : List Int) : (Lib.compact zs).length ≤ zs.length := by
  unfold Lib.compact Lib.compactUpTo
  rw [List.length_map]
  exact Nat.le_trans (List.length_filter_le _ _) (by simp)
theorem compact_row (B : Nat) (A : Option Addr) (n c : Nat) (zs : List Int) (hn : n = zs.length) (hlen : zs.length ≤ 1000000) (w : World) (hown : w.ownsRow B 3 1 (.slice A n c) n (ics zs)) :
    Calls Tryz.prog 29 #[.slice A n c] w fun e w' => e = .returned (.slice A (Lib.compact zs).length c) ∧ w'.ownsRow B 3 1 (.slice A (Lib.compact zs).length c) (Lib.compact zs).length (ics (Lib.compact zs)) ∧ ∀ C, C ≤ B → C ≤ w.heap.size → Below C w w' := by
  by_cases h0 : n = 0
  · subst h0
    have hz : zs = [] := List.eq_nil_of_length_eq_zero hn.symm
    subst hz
    have h := Any.slices_Compact_int_empty Tryz.comL A c w
    change Calls Tryz.prog 29 _ _ _ at h
    refine h.mono fun e w' ⟨he, hw⟩ => ?_
    subst hw
    exact ⟨he, hown, fun C _ _ => Below.refl _ _⟩
  · rcases hown.2 with ⟨h, _⟩ | ⟨g, cap, cur, h, hb, hg, h1, h2, h3, h4⟩
    · simp at h; omega
    · simp only [Value.slice.injEq, true_and] at h
      obtain ⟨rfl, rfl⟩ := h
      subst hn
      have hH := holds_own hown cur hg
      have h := Any.slices_Compact_int Tryz.comL g 0 c zs w hH (by omega) h1
      change Calls Tryz.prog 29 _ _ _ at h
      refine h.mono fun e w' ⟨he, q, hw⟩ => ?_
      have hcl := compact_len zs
      rw [Lib.putRow_eq_setCells _ w g 0 zs.toArray _ q hH (by simp; omega)] at hw
      subst hw
      have hq : (w.drewN q).ownsRow B 3 1 (.slice (some ⟨g, 0, none⟩) zs.length c) zs.length (ics zs) := hown
      have hs := own_setCells (ics (Lib.compact zs ++ List.replicate (zs.length - (Lib.compact zs).length) 0)) 0 _ _ hq rfl (by simp [ics]; omega)
      rw [List.take_zero, List.nil_append] at hs
      have ho := own_short hs hcl
      refine ⟨he, ?_, fun C h5 h6 => below_setCells (a := w) (Nat.le_trans h5 hb) _ _ (w.drewN q) ⟨rfl, rfl, rfl, Nat.le_refl _, fun _ _ => rfl⟩⟩
      have e1 : (ics (Lib.compact zs ++ List.replicate (zs.length - (Lib.compact zs).length) 0)).take (Lib.compact zs).length = ics (Lib.compact zs) := by
        unfold ics
        rw [List.map_append, List.take_left' (by simp)]
      rw [e1] at ho
      exact ho
/-- The pages that a record changes. -/
def touchL (r : Rc) : List Int := Lib.compact (asc (r.pts.map Pt.pg))
set_option maxHeartbeats 4000000 in
theorem touches_any {C : Nat} (r : Rc) (h : Hd) (w : World) (hr : RcM C w r h) (hC : C ≤ w.heap.size) (hn : r.pts.length ≤ 1000000) :
    Calls Tryz.prog 8 #[rcv r h] w fun e w' => ∃ A c, e = .returned (.slice A (touchL r).length c) ∧ RowI w.heap.size w' ⟨A, (touchL r).length, c⟩ (touchL r) ∧ Below w.heap.size w w' := by
  obtain ⟨i0, hi0, hz0, hz1, hz2⟩ := info_parts infoI
  have HA := Lib.hid ((Below.refl w.heap.size w).alloc (Nat.le_refl _) (.cells (rcs r h) 29))
  have HX := Lib.hid (Bx.new w (rcs r h) 29)
  have HP := Lib.hid (hr.p.more hC)
  obtain ⟨kind, tx, prev, next, key, had, ⟨ok, ov, ob, oz⟩, pages, pts, txs, dys⟩ := r
  obtain ⟨g, ⟨A2, n2, c2⟩, t, d⟩ := h
  have hl := hr.p.1
  unfold touchL
  unfold rcv
  unfold rcs at *
  dsimp only at *
  have HL := Lib.hid hl
  have hN : (n2 : Int) ≤ 1000000 := by omega
  have HN := Lib.hid (show pts.length ≤ 1000000 from hn)
  clear hr hC hl hn
  have x11 := HX.out.cell 11
  simp only [List.getElem?_toArray, List.getElem?_cons_zero, List.getElem?_cons_succ] at x11
  go_enter Tryz.func8, Tryz.ntmps8
  go_wp2_with fail
  go_loopw [3, 9] (fun u x wr => ∃ k : Nat, k ≤ n2 ∧ x = .int .i64 k ∧ Hid (wr.ownsRow w.heap.size 3 1 u k (ics ((pts.take k).map Pt.pg)) ∧ Below w.heap.size w wr)) (fun _ x _ => n2 - (intOf x).toNat)
  case atStart => exact ⟨0, Nat.zero_le _, rfl, World.ownsRow_nil _ _ _ _, HA.out⟩
  case round =>
    obtain ⟨k, hk, rfl, hq⟩ := hrel
    have HQ := Lib.hid hq.out
    clear hq
    obtain ⟨Av, cv, rfl⟩ := own_shape HQ.out.1
    have b0 : (0 : Int) ≤ (k : Int) := by omega
    by_cases hlt : k < n2
    · have b1 : (k : Int) < (n2 : Int) := by omega
      have hkl : k < pts.length := by rw [HL.out]; exact hlt
      obtain ⟨b, off, rfl, hb, ⟨c0, c1, c2'⟩, _⟩ := (HP.out.kept HQ.out.2).2.2 k hlt
      have HS := Lib.hid (show ics ((pts.take (k + 1)).map Pt.pg) = ics ((pts.take k).map Pt.pg) ++ [.int .i64 (pts.getD k nilP).pg] from by rw [take_snoc pts k nilP hkl, List.map_append, List.map_singleton, ics_snoc])
      generalize pts.getD k nilP = x at *
      obtain ⟨pg, ofs, bs⟩ := x
      dsimp only at c0 c1 c2' HS
      have hO := HQ.out.1.alloc (.cells #[.int .i64 pg, .int .i64 ofs, .string bs] 59)
      have HB := Lib.hid (HQ.out.2.alloc HQ.out.2.size (.cells #[.int .i64 pg, .int .i64 ofs, .string bs] 59))
      clear hb hkl
      go_wp2_with (at_builtin; refine wpList_append_own _ rfl (.tmp 13) (.tmp 16) 24 rfl w.heap.size 3 i0 (.int .i64 0) 1 8 Tryz.underlying24 hi0 hz0 hz1 hz2 rfl (by decide) _ _ _ rfl (hO.alloc _) ⟨(wr.alloc (.cells #[.int .i64 pg, .int .i64 ofs, .string bs] 59)).heap.size, 0, none⟩ 1 1 [.int .i64 pg] (by rw [World.size_alloc]; rfl) rfl (news_of _ _ _) (by intro u hu; simp at hu; subst hu; rfl) (by unfold maxLen; omega) (by omega) (by have := HB.out.size; simp at this ⊢; omega) ?_; intro v' w3 hown' hgrow _; obtain ⟨g', cap', rfl⟩ := ownsRow_succ hown')
      have HN' : Hid (w3.ownsRow w.heap.size 3 1 (.slice (some ⟨g', 0, none⟩) (k + 1) cap') (k + 1) (ics ((pts.take (k + 1)).map Pt.pg)) ∧ Below w.heap.size w w3) := by
        refine ⟨by rw [HS.out]; exact hown', ?_⟩
        exact (HB.out.alloc HB.out.size _).grown hgrow (by have := HB.out.size; simp at this ⊢; omega) (fun g hg => (hO.lt g hg).1)
      clear hown' hgrow hO
      go_wp2_with fail
      go_roundw
      case rel => exact ⟨k + 1, by omega, by go_num, HN'.out⟩
      case measure => simp [intOf]; omega
    · obtain rfl : k = n2 := by omega
      have hown := HQ.out.1
      rw [List.take_of_length_le (by rw [HL.out]; exact Nat.le_refl _)] at hown
      have SO := Lib.hid (sort_row w.heap.size Av k cv (pts.map Pt.pg) (by rw [List.length_map, HL.out]) (by rw [List.length_map]; exact HN.out) wr hown)
      have H2 := Lib.hid HQ.out.2
      have CO := Lib.hid (fun u (hu : u.ownsRow w.heap.size 3 1 (.slice Av k cv) k (ics (asc (pts.map Pt.pg)))) => compact_row w.heap.size Av k cv (asc (pts.map Pt.pg)) (by rw [asc_length, List.length_map, HL.out]) (by rw [asc_length, List.length_map]; exact HN.out) u hu)
      clear hown
      go_wp2_with fail
      refine SO.out.mono ?_; rintro e w4 ⟨rfl, ho, hb⟩
      have C4 := Lib.hid (CO.out w4 ho)
      have H4 := Lib.hid (H2.out.trans (hb _ (Nat.le_refl _) H2.out.size))
      clear ho hb CO SO
      go_wp2_with fail
      refine C4.out.mono ?_; rintro e w5 ⟨rfl, ho, hb⟩
      have H5 := Lib.hid (H4.out.trans (hb _ (Nat.le_refl _) H4.out.size))
      have HO := Lib.hid ho
      clear ho hb C4
      go_wp2_with fail
      go_ret
      exact ⟨Av, cv, rfl, ⟨rfl, HO.out⟩, H5.out⟩
end Go.Proofs.YtbmnagfjpenemaaGreatDoor
