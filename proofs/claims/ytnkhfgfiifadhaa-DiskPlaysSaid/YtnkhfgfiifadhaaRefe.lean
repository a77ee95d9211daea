/- The reference's disk: Disks. -/
import Derived.Test.YtnkhfgfiifadhaaRefd
import Derived.Deep.RegionLaw
import Derived.Deep.RegionWith
namespace Go.Proofs.Ytnkhfgfiifadhaa
open Go.ChangeShapes Go.WideShapes Go.ChangeAt Go.RowKit
set_option linter.unusedVariables false
set_option maxRecDepth 100000
section
variable {P : Program} (w : World)
theorem step_append_src {ops : Array Oper} {o : Oper} {a : Act} {K : Act → World → Prop} {Q : Exit → Act → World → Prop} {E : Prop} (hg : o.guard = none) (s x : Operand) (t : TypeId) (ho : o.op = .call { callee := .builtin .append, args := #[s, x], argTypes := #[t, t] })
    (e : TypeId) (i : TypeInfo) (z : Value) (size bytes : Nat) (ht : P.underlying t = some (.slice e)) (hi : P.info? e = some i) (hz : i.zero = some z)
    (hsize : i.size = size) (hby : i.bytes = bytes) (hzs : z.cells.size = size) (hsz : 0 < size) (base : Nat)
    (v : Value) (n : Nat) (xs : List Value) (hv : a.eval s = v) (hown : w.ownsRow base e size v n xs)
    (A : Option Addr) (m c : Nat) (news : List Value) (hx : a.eval x = .slice A m c) (hs : Src w size A m news) (h1 : ∀ u ∈ news, u.oneCell' = true)
    (h63 : n + m ≤ maxLen) (hbytes : (n + m) * bytes ≤ 140737488355328) (hbase : base ≤ w.heap.size)
    (h : ∀ v' w', w'.ownsRow base e size v' (n + m) (xs ++ news) → w.grownBy w' v.ownBlock → (v'.ownBlock = v.ownBlock ∨ v'.ownBlock = some w.heap.size) → K (a.put o.dst v') w') :
    if Region.wanted o (yielded ops a.tmps) = true then Oper.wp P o a w K Q else E := by
  have hw : Region.wanted o (yielded ops a.tmps) = true := by simp [Region.wanted, hg]
  rw [if_pos hw]
  exact wp_append_src w s x t ho e i z size bytes ht hi hz hsize hby hzs hsz base v n xs hv hown A m c news hx hs h1 h63 hbytes hbase h
end
theorem cell_one_new (w : World) (x : Value) (t : TypeId) : ∀ (j : Nat) u, [x][j]? = some u → (w.alloc (.cells #[x] t)).cell? ((⟨w.heap.size, 0, none⟩ : Addr).add j) = some u := fun j u hu => by
  rw [add_plain, Nat.zero_add, cell_of_row _ _ _ _ _ _ (heap_alloc_new w _)]
  simpa using hu
theorem zeros64 (w : World) : Calls Try.prog 30 #[.int .i64 64] w fun e w' => e = .returned (.string (str zeroS)) ∧ Below w.heap.size w w' := zeros_ok 64 (by omega) w
/-- A disk of the reference while it is made. -/
def Made (C q : Nat) (lv : Value) (k : Nat) (w : World) : Prop := C ≤ q ∧ w.heap[q]? = some (.cells #[lv, .slice none 0 0, .bool false, .int .i64 (-1)] 45 (0, 0)) ∧ w.ownsRow C 9 1 lv k (List.replicate k (.string (str zeroS)))
section
variable {C q k : Nat} {lv : Value} {w w' : World}
theorem Made.ref (h : Made C q lv k w) (hk : k ≤ 10000) : Ref C q lv (.slice none 0 0) (blank k) w := by
  refine ⟨h.1, h.2.1, ?_, World.ownsRow_nil _ _ _ _, Fits.nil _, by simpa [blank] using hk, by simp [blank], by simp [blank]⟩
  have := h.2.2
  simpa [blank, lcells] using this
theorem Made.row (h : Made C q lv k w) (g : Nat) (hg : lv.ownBlock = some g) : g ≠ q ∧ g < w.heap.size ∧ C ≤ g := by
  refine ⟨?_, (h.2.2.lt g hg).2, (h.2.2.lt g hg).1⟩
  rintro rfl
  rcases h.2.2.2 with ⟨h1, h2⟩ | ⟨g', cap, cur, h1, h2, h3, h4⟩
  · rw [h1] at hg; simp [Value.ownBlock] at hg
  · rw [h1] at hg
    simp only [Value.ownBlock, Option.some.injEq] at hg
    subst hg
    rw [h.2.1] at h3; simp at h3
theorem Made.lt (h : Made C q lv k w) : q < w.heap.size := (Array.getElem?_eq_some_iff.1 h.2.1).1
theorem Made.below (h : Made C q lv k w) (hb : Below w.heap.size w w') : Made C q lv k w' :=
  ⟨h.1, (hb.block q h.lt).trans h.2.1, by
    refine ⟨h.2.2.1, ?_⟩
    rcases h.2.2.2 with h1 | ⟨g, cap, cur, h1, h2, h3, h4⟩
    · exact .inl h1
    · exact .inr ⟨g, cap, cur, h1, h2, (hb.block g (Array.getElem?_eq_some_iff.1 h3).1).trans h3, h4⟩⟩
theorem Made.head {w3 : World} (h : Made C q lv k w) (ob : Obj) (hg : (w.alloc ob).grownBy w3 lv.ownBlock) : w3.heap[q]? = some (.cells #[lv, .slice none 0 0, .bool false, .int .i64 (-1)] 45 (0, 0)) := by
  refine (hg.block q (by have := h.lt; simp; omega) (fun e => ?_)).trans ?_
  · exact (h.row q e.symm).1 rfl
  · exact ((Below.refl w.heap.size w).alloc (Nat.le_refl _) ob).block q h.lt |>.trans h.2.1
theorem Made.next {w3 : World} {v3 : Value} (h : Made C q lv k w) (ob : Obj) (hg : (w.alloc ob).grownBy w3 lv.ownBlock) (hr : w3.ownsRow C 9 1 v3 (k + 1) (List.replicate k (.string (str zeroS)) ++ [.string (str zeroS)])) :
    Made C q v3 (k + 1) (w3.setCell ⟨q, 0, none⟩ v3) ∧ Below C w (w3.setCell ⟨q, 0, none⟩ v3) := by
  have hh := h.head ob hg
  refine ⟨⟨h.1, (heap_setCell_same _ _ _ _ _ _ hh).trans rfl, ?_⟩, ?_⟩
  · rw [List.replicate_succ']
    refine ⟨hr.1, ?_⟩
    rcases hr.2 with h1 | ⟨g, cap, cur, h1, h2, h3, h4⟩
    · exact .inl h1
    · refine .inr ⟨g, cap, cur, h1, h2, (heap_setCell_other _ _ _ _ ?_).trans h3, h4⟩
      show g ≠ q
      rintro rfl
      rw [hh] at h3; simp at h3
  · have hC : C ≤ w.heap.size := by have := h.1; have := h.lt; omega
    have b3 : Below C w w3 := (((Below.refl C w).alloc hC ob)).grown hg (by simp; omega) (fun g e => (h.row g e).2.2)
    exact b3.trans ((RLeaves.setCell w3 q 0 v3 h.1 hh (.inl rfl)).below)
end
theorem info_str : (Try.prog.info? 9).map (fun i => (i.zero, i.size, i.bytes)) = some (some (.string ⟨#[]⟩), 1, 16) := by kernel_rfl
set_option maxHeartbeats 1000000 in
theorem disks_none (n : Int) (hn : n < 1 ∨ 10000 < n) (w : World) : Calls Try.prog 14 #[.int .i64 n] w fun e w' => e = .returned (.pointer none) ∧ w = w' := by
  by_cases h : n < 1
  · clear hn
    go_enter Try.func14, Try.ntmps14
    go_wp2_with fail
    go_ret
    exact ⟨rfl, rfl⟩
  · have h2 : 10000 < n := by omega
    clear hn
    go_enter Try.func14, Try.ntmps14
    go_wp2_with fail
    go_ret
    exact ⟨rfl, rfl⟩
set_option maxHeartbeats 4000000 in
theorem disks_ok (n : Nat) (h1 : 1 ≤ n) (h2 : n ≤ 10000) (w : World) : Calls Try.prog 14 #[.int .i64 n] w fun e w' => e = .returned (ptr w.heap.size) ∧ RDisk w.heap.size w.heap.size (blank n) w' ∧ Below w.heap.size w w' := by
  have i1 : ¬ (n : Int) < 1 := by omega
  have i2 : ¬ (10000 : Int) < n := by omega
  have i3 : (1 : Int) ≤ n := by omega
  have i4 : (n : Int) ≤ 10000 := by omega
  have ZS := Lib.hid zeros64
  obtain ⟨i0, hi0, hz0, hz1, hz2⟩ := info_parts info_str
  obtain ⟨C, hC⟩ : ∃ C, C = w.heap.size := ⟨_, rfl⟩
  have HC := Lib.hid hC
  go_enter Try.func14, Try.ntmps14
  go_wp2_with fail
  rw [← hC]
  have HM0 := Lib.hid (show Made C C (.slice none 0 0) 0 (w.alloc (.cells #[.slice none 0 0, .slice none 0 0, .bool false, .int .i64 (-1)] 45)) from ⟨Nat.le_refl _, by rw [hC]; exact heap_alloc_new w _, World.ownsRow_nil _ _ _ _⟩)
  have HB0 := Lib.hid (show Below C w (w.alloc (.cells #[.slice none 0 0, .slice none 0 0, .bool false, .int .i64 (-1)] 45)) from (Below.refl _ _).alloc (by omega) _)
  clear hC
  go_loopw [4] (fun kv wr => ∃ (k : Nat) (lv : Value), k ≤ n ∧ kv = .int .i64 k ∧ Made C C lv k wr ∧ Below C w wr) (fun kv _ => n - (intOf kv).toNat)
  case atStart => exact ⟨0, _, Nat.zero_le _, rfl, HM0.out, HB0.out⟩
  case round =>
    clear HM0 HB0
    obtain ⟨k, lv, hk, rfl, hm, hb⟩ := hrel
    have HM := Lib.hid hm
    have HB := Lib.hid hb
    clear hm hb
    by_cases hlt : k < n
    · have hlk : (k : Int) < n := by omega
      obtain ⟨la, lc, hlv⟩ := own_shape HM.out.2.2
      subst hlv
      have x0 : wr.cell? ⟨C, 0, none⟩ = some (.slice la k lc) := cell_of_row wr C 0 _ _ _ HM.out.2.1
      have HMD := Lib.hid (HM.out.below (Below.refl _ wr).drew)
      have HBD := Lib.hid (HB.out.trans (Below.refl C wr).drew)
      have HSD := Lib.hid (show C ≤ wr.drew.heap.size from by have := HMD.out.lt; omega)
      go_wp2_with fail
      go_region_law (first
        | (refine step_append_src _ (by rfl) (.tmp 22) (.tmp 24) 42 (by rfl) 9 i0 (.string ⟨#[]⟩) 1 16 Try.underlying42 hi0 hz0 hz1 hz2 rfl (by decide) C (.slice la k lc) k (List.replicate k (.string (str zeroS))) (by rfl) (World.ownsRow.alloc HM2.out.2.2 _) (some ⟨w2.heap.size, 0, none⟩) 1 1 [.string (str zeroS)] (by rfl) ⟨rfl, fun _ => ⟨_, rfl, cell_one_new _ _ _⟩⟩ (by intro x hx; simp at hx; subst hx; rfl) (by unfold maxLen; omega) (by omega) (HZ2.out _) ?_; intro v3 w3 hown hgrow hat; obtain ⟨A3, c3, rfl⟩ := own_shape hown; have d1 := HM2.out.head _ hgrow; have d2 : w3.cell? ⟨C, 0, none⟩ = some (.slice la k lc) := cell_of_row w3 C 0 _ _ _ d1; have d3 : w3.frozen? ⟨C, 0, none⟩ = false := frozen_of_row w3 C 0 _ _ d1; have HN := Lib.hid (HM2.out.next _ hgrow hown); clear d1)
        | (go_simp; go_at_call 30; refine (ZS.out _).mono ?_; rintro e w2 ⟨rfl, hb2⟩; have HM2 := Lib.hid (HMD.out.below hb2); have HB2 := Lib.hid (HBD.out.trans (hb2.mono HSD.out)); clear hb2; have x2 : w2.cell? ⟨C, 0, none⟩ = some (.slice la k lc) := cell_of_row w2 C 0 _ _ _ HM2.out.2.1; have x3 : ∀ ob, (w2.alloc ob).cell? ⟨C, 0, none⟩ = some (.slice la k lc) := fun ob => Lib.cell?_alloc_some ob x2; have HZ2 : Hid (∀ ob, C ≤ (w2.alloc ob).heap.size) := Lib.hid (fun ob => by have := HM2.out.lt; simp; omega)))
      all_goals go_wp2_with fail
      all_goals go_roundw
      all_goals first
        | exact ⟨k + 1, _, by omega, by go_num, HN.out.1, HB2.out.trans HN.out.2⟩
        | (simp [intOf]; omega)
    · obtain rfl : n = k := by omega
      go_wp2_with fail
      go_ret
      refine ⟨by rw [← HC.out]; rfl, by rw [← HC.out]; exact ⟨_, _, HM.out.ref h2⟩, by rw [← HC.out]; exact HB.out⟩
end Go.Proofs.Ytnkhfgfiifadhaa
