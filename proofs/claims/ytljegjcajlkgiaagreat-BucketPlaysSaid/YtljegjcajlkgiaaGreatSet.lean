/- The contract of Set. -/
import Derived.Test.YtljegjcajlkgiaaGreatFind
import Derived.Test.YtljegjcajlkgiaaGreatConcat
import Derived.Deep.DeepCutAuto
import Derived.Deep.RegionHeld3
namespace Go.Proofs.YtljegjcajlkgiaaGreat
open Go.ChangeShapes Go.WideShapes Go.ChangeAt Go.RowKit
set_option linter.unusedVariables false
set_option linter.unusedSimpArgs false
set_option maxRecDepth 100000
theorem below_set4 {w w0 : World} {C B : Nat} {u0 u1 u2 u3 : Value} (h : Below C w0 w) (hC : C ≤ B) : Below C w0 ((((w.setCell ⟨B, 0, none⟩ u0).setCell ⟨B, 1, none⟩ u1).setCell ⟨B, 2, none⟩ u2).setCell ⟨B, 3, none⟩ u3) :=
  ⟨h.os, h.tape, h.output, by rw [World.size_setCell, World.size_setCell, World.size_setCell, World.size_setCell]; exact h.size, fun k hk => by
    have hne : k ≠ B := by omega
    rw [Below.heap_setCell _ _ _ _ hne, Below.heap_setCell _ _ _ _ hne, Below.heap_setCell _ _ _ _ hne, Below.heap_setCell _ _ _ _ hne]
    exact h.block k hk⟩
theorem below_set1 {w w0 : World} {C B i : Nat} {u : Value} (h : Below C w0 w) (hC : C ≤ B) : Below C w0 (w.setCell ⟨B, i, none⟩ u) :=
  ⟨h.os, h.tape, h.output, by rw [World.size_setCell]; exact h.size, fun k hk => by
    rw [Below.heap_setCell _ _ _ _ (show k ≠ B by omega)]
    exact h.block k hk⟩
/-- A page's parts. -/
structure Pg where
  k : Int
  d : Int
  x : Int
  b : BA
def pgV (p : Pg) : Value := pv p.k p.d p.x (str p.b)
def nilPg : Pg := ⟨0, 0, 0, []⟩
def setP (p : Pg) (c : Ce) : Pg × Int :=
  if goodP p.k p.b then (if okC c then (if putOk (setS (cellsP p.k p.b) c) then (⟨p.k, p.d, p.x, bodyOf (setS (cellsP p.k p.b) c)⟩, 0) else (nilPg, 13)) else (nilPg, 1)) else (nilPg, 2)
def cutP (p : Pg) (q : ByteArray) : Pg × Int :=
  if goodP p.k p.b then (if (cutS (cellsP p.k p.b) q).length = (cellsP p.k p.b).length then (nilPg, 3) else (⟨p.k, p.d, p.x, bodyOf (cutS (cellsP p.k p.b) q)⟩, 0)) else (nilPg, 2)
def resV (r : Pg × Int) : Value := .tuple #[pgV r.1, .int .i64 r.2]
theorem str_empty : str [] = ⟨#[]⟩ := rfl
theorem Ces.on {w w' : World} {A : Option Addr} {l : List Ce} (h : Ces w.heap.size w A l) (hb : Below w.heap.size w w') : Ces w'.heap.size w' A l := (h.kept hb).more hb.size
theorem ces_one (W : World) (c : Ce) (hk : c.key.size ≤ maxLen) (hv : c.val.size ≤ maxLen) : Ces (W.alloc (.cells #[.string c.key, .string c.val, .int .i64 c.blob, .int .i64 c.size] 42)).heap.size (W.alloc (.cells #[.string c.key, .string c.val, .int .i64 c.blob, .int .i64 c.size] 42)) (some ⟨W.heap.size, 0, none⟩) [c] := by
  obtain ⟨h0, h1, h2, h3⟩ := (Box.new W (.string c.key) (.string c.val) (.int .i64 c.blob) (.int .i64 c.size)).cells
  refine ⟨fun k hk => ⟨W.heap.size, 0, rfl, by rw [World.size_alloc]; omega, ?_⟩, fun p hp => ?_, by unfold maxLen; simp⟩
  · have : k = 0 := by simpa using hk
    subst this
    exact ⟨h0, h1, h2, h3⟩
  · rw [List.mem_singleton] at hp
    subst hp
    exact ⟨hk, hv⟩
theorem set_len {l : List Ce} (h : Rise l) (hl : l.length ≤ 47) (c : Ce) : (setS l c).length ≤ 48 := by
  rw [(set_perm h c).length_eq, List.length_cons]
  have := List.length_filter_le (otherB c.key) l
  unfold cutS
  omega
theorem set_sizes {l : List Ce} (h : putOk l = true) {c : Ce} (hc : c.Ok) : ∀ p ∈ setS l c, p.key.size ≤ maxLen ∧ p.val.size ≤ maxLen := fun p hp => by
  rcases (mem_set (putOk_rise h)).1 hp with rfl | hp
  · have := ok_sizes (l := [p]) (fun q hq => by rw [List.mem_singleton] at hq; rw [hq]; exact hc) p (List.mem_singleton.2 rfl)
    exact ⟨max_small (by omega), max_small (by omega)⟩
  · exact put_sizes h p (mem_cut.1 hp).1

set_option maxHeartbeats 4000000 in
theorem set_any (k d x : Int) (b : BA) (c : Ce) (hb : b.length ≤ 100000) (w : World) : Calls Tryz.prog 6 #[pv k d x (str b), cvC c] w fun e w' => e = .returned (resV (setP ⟨k, d, x, b⟩ c)) ∧ Below w.heap.size w w' := by
  have RD := Lib.hid (fun w => read_any k d x b hb w)
  have RI := Lib.hid (fun w => right_any c.key c.val c.blob c.size w)
  have HPS := Lib.hid (cellsP_ok k b)
  have V2 := Lib.hid (fun (h : goodP k b = false) => show resV (setP ⟨k, d, x, b⟩ c) = .tuple #[.agg #[.int .i64 0, .int .i64 0, .int .i64 0, .string ⟨#[]⟩], .int .i64 2] from by unfold setP; dsimp only; rw [h]; rfl)
  have V1 := Lib.hid (fun (h : goodP k b = true) (ho : okC c = false) => show resV (setP ⟨k, d, x, b⟩ c) = .tuple #[.agg #[.int .i64 0, .int .i64 0, .int .i64 0, .string ⟨#[]⟩], .int .i64 1] from by unfold setP; dsimp only; rw [h, ho]; rfl)
  have V13 := Lib.hid (fun (h : goodP k b = true) (ho : okC c = true) (hp : putOk (setS (cellsP k b) c) = false) => show resV (setP ⟨k, d, x, b⟩ c) = .tuple #[.agg #[.int .i64 0, .int .i64 0, .int .i64 0, .string ⟨#[]⟩], .int .i64 13] from by unfold setP; dsimp only; rw [h, ho, hp]; rfl)
  have V0 := Lib.hid (fun (h : goodP k b = true) (ho : okC c = true) (hp : putOk (setS (cellsP k b) c) = true) => show resV (setP ⟨k, d, x, b⟩ c) = .tuple #[.agg #[.int .i64 k, .int .i64 d, .int .i64 x, .string (str (bodyOf (setS (cellsP k b) c)))], .int .i64 0] from by unfold setP; dsimp only; rw [h, ho, hp]; rfl)
  generalize resV (setP ⟨k, d, x, b⟩ c) = rv at *
  unfold pv cvC cv ReadP at *
  change Hid (∀ w, Calls _ _ _ _ (fun e w' => e = .returned (.bool (okC c)) ∧ _)) at RI
  generalize cellsP k b = l at *
  generalize goodP k b = g at *
  generalize str b = s at *
  have HL := Lib.hid (put_len HPS.out)
  obtain ⟨m, hm⟩ : ∃ m, l.length = m := ⟨_, rfl⟩
  have HM := Lib.hid hm
  rw [hm] at RD
  clear hm hb
  obtain ⟨W1, hW1⟩ : ∃ W1, W1 = w.alloc (.cells #[.int .i64 k, .int .i64 d, .int .i64 x, .string s] 23) := ⟨_, rfl⟩
  obtain ⟨W2, hW2⟩ : ∃ W2, W2 = W1.alloc (.cells #[.string c.key, .string c.val, .int .i64 c.blob, .int .i64 c.size] 42) := ⟨_, rfl⟩
  obtain ⟨W3, hW3⟩ : ∃ W3, W3 = W2.alloc (.cells #[.int .i64 0, .int .i64 0, .int .i64 0, .string ⟨#[]⟩] 23) := ⟨_, rfl⟩
  have s1 : W1.heap.size = w.heap.size + 1 := by rw [hW1, World.size_alloc]
  have s2 : W2.heap.size = w.heap.size + 2 := by rw [hW2, World.size_alloc, s1]
  have HX := Lib.hid (show PBox W3 (w.heap.size) k d x s ∧ Box W3 (w.heap.size + 1) (.string c.key) (.string c.val) (.int .i64 c.blob) (.int .i64 c.size) ∧ PBox W3 (w.heap.size + 2) 0 0 0 ⟨#[]⟩ ∧ Below w.heap.size w W3 from by
    have b1 : Below w.heap.size w W1 := by rw [hW1]; exact (Below.refl _ _).alloc (Nat.le_refl _) _
    have b2 : Below W1.heap.size W1 W2 := by rw [hW2]; exact (Below.refl _ _).alloc (Nat.le_refl _) _
    have b3 : Below W2.heap.size W2 W3 := by rw [hW3]; exact (Below.refl _ _).alloc (Nat.le_refl _) _
    have p1 : PBox W1 w.heap.size k d x s := by rw [hW1]; exact PBox.new _ _ _ _ _
    have p2 : Box W2 (w.heap.size + 1) (.string c.key) (.string c.val) (.int .i64 c.blob) (.int .i64 c.size) := by rw [← s1, hW2]; exact Box.new _ _ _ _ _
    have p3 : PBox W3 (w.heap.size + 2) 0 0 0 ⟨#[]⟩ := by rw [← s2, hW3]; exact PBox.new _ _ _ _ _
    exact ⟨(p1.kept b2).kept b3, p2.kept b3, p3, (b1.trans (b2.mono b1.size)).trans (b3.mono (by omega))⟩)
  have HW := Lib.hid (show (((w.alloc (.cells #[.int .i64 k, .int .i64 d, .int .i64 x, .string s] 23)).alloc (.cells #[.string c.key, .string c.val, .int .i64 c.blob, .int .i64 c.size] 42)).alloc (.cells #[.int .i64 0, .int .i64 0, .int .i64 0, .string ⟨#[]⟩] 23)) = W3 by rw [hW3, hW2, hW1])
  clear hW1 hW2 hW3 s1 s2
  go_enter Tryz.func6, Tryz.ntmps6
  go_wp2_with fail
  rw [HW.out]
  obtain ⟨Bp, hBp⟩ : ∃ B, B = w.heap.size := ⟨_, rfl⟩
  obtain ⟨Bc, hBc⟩ : ∃ B, B = w.heap.size + 1 := ⟨_, rfl⟩
  obtain ⟨Br, hBr⟩ : ∃ B, B = w.heap.size + 1 + 1 := ⟨_, rfl⟩
  have HLE := Lib.hid (show w.heap.size ≤ Bp ∧ w.heap.size ≤ Bc ∧ w.heap.size ≤ Br ∧ Bp ≠ Br by omega)
  have HX0 := Lib.hid (show PBox W3 Bp k d x s ∧ Box W3 Bc (.string c.key) (.string c.val) (.int .i64 c.blob) (.int .i64 c.size) ∧ PBox W3 Br 0 0 0 ⟨#[]⟩ ∧ Below w.heap.size w W3 by rw [hBp, hBc, hBr]; exact HX.out)
  rw [← hBr, ← hBc, ← hBp]
  clear HW HX hBp hBc hBr
  have HK := Lib.hid (fun (wa wb : World) (h : PBox wa Bp k d x s ∧ Box wa Bc (.string c.key) (.string c.val) (.int .i64 c.blob) (.int .i64 c.size) ∧ PBox wa Br 0 0 0 ⟨#[]⟩ ∧ Below w.heap.size w wa) (hb : Below wa.heap.size wa wb) => show PBox wb Bp k d x s ∧ Box wb Bc (.string c.key) (.string c.val) (.int .i64 c.blob) (.int .i64 c.size) ∧ PBox wb Br 0 0 0 ⟨#[]⟩ ∧ Below w.heap.size w wb from ⟨h.1.kept hb, h.2.1.kept hb, h.2.2.1.kept hb, h.2.2.2.trans (hb.mono h.2.2.2.size)⟩)
  refine (RD.out _).mono ?_; rintro e w1 ⟨A, cp, rfl, ho, hb⟩
  have HX1 := Lib.hid (HK.out _ _ HX0.out hb)
  have HC1 := Lib.hid (Own.ces (own_n ho HM.out) HM.out (put_sizes HPS.out) (max_small (by have := HM.out; have := HL.out; omega)))
  clear ho hb HX0 RD
  cases g with
  | false =>
    have HV := Lib.hid (V2.out rfl)
    obtain ⟨⟨r0, r1, r2, r3⟩, f0, f1, f2, f3⟩ := And.intro HX1.out.2.2.1.cells HX1.out.2.2.1.free
    go_wp2_with fail
    refine bodyPost_ret (v := .tuple #[.agg #[.int .i64 0, .int .i64 0, .int .i64 0, .string ⟨#[]⟩], .int .i64 2]) (by simp [results, Tryz.results6, go_sem, r0, r1, r2, r3]) rfl ⟨by rw [HV.out], ?_⟩
    exact below_set4 HX1.out.2.2.2 HLE.out.2.2.1
  | true =>
    obtain ⟨x0, x1, x2, x3⟩ := HX1.out.2.1.cells
    cases ok : okC c with
    | false =>
      rw [ok] at RI
      have HV := Lib.hid (V1.out rfl ok)
      clear ok
      go_wp2_with fail
      refine (RI.out _).mono ?_; rintro e w2 ⟨rfl, hb⟩
      have HX2 := Lib.hid (HK.out _ _ HX1.out hb)
      clear hb HX1 x0 x1 x2 x3
      obtain ⟨⟨r0, r1, r2, r3⟩, f0, f1, f2, f3⟩ := And.intro HX2.out.2.2.1.cells HX2.out.2.2.1.free
      go_wp2_with fail
      refine bodyPost_ret (v := .tuple #[.agg #[.int .i64 0, .int .i64 0, .int .i64 0, .string ⟨#[]⟩], .int .i64 1]) (by simp [results, Tryz.results6, go_sem, r0, r1, r2, r3]) rfl ⟨by rw [HV.out], ?_⟩
      exact below_set4 HX2.out.2.2.2 HLE.out.2.2.1
    | true =>
      rw [ok] at RI
      have HOK := Lib.hid (okC_iff.1 ok)
      have W13 := Lib.hid (V13.out rfl ok)
      have W0 := Lib.hid (V0.out rfl ok)
      clear ok
      go_wp2_with fail
      refine (RI.out _).mono ?_; rintro e w2 ⟨rfl, hb⟩
      have HX2 := Lib.hid (HK.out _ _ HX1.out hb)
      have HC2 := Lib.hid (HC1.out.kept hb)
      have HD2 := Lib.hid hb.size
      clear hb HX1 x0 x1 x2 x3 RI HC1
      have HC3 := Lib.hid (HC2.out.more HD2.out)
      obtain ⟨x0, x1, x2, x3⟩ := HX2.out.2.1.cells
      go_upto_region 7 with fail
      go_cut [9] (fun s9 wx => ∃ A c2, s9 = .slice A (setS l c).length c2 ∧ Hid (Ces wx.heap.size wx A (setS l c) ∧ Below w2.heap.size w2 wx))
      case first =>
        have C0 := fun r (h : Held w2 r) => h.cell x0
        have C1 := fun r (h : Held w2 r) => h.cell x1
        have C2 := fun r (h : Held w2 r) => h.cell x2
        have C3 := fun r (h : Held w2 r) => h.cell x3
        clear x0 x1 x2 x3
        have hone := ok_sizes (l := [c]) (fun q hq => by rw [List.mem_singleton] at hq; rw [hq]; exact HOK.out) c (List.mem_singleton.2 rfl)
        have HO1 := Lib.hid (fun W => ces_one W c (max_small (by omega)) (max_small (by omega)))
        clear hone
        have hl47 := HL.out
        obtain ⟨n1, hn1⟩ : ∃ n, (l.filter (afterB c.key)).length = n := ⟨_, rfl⟩
        obtain ⟨n3, hn3⟩ : ∃ n, (l.filter (beforeB c.key)).length = n := ⟨_, rfl⟩
        have m1 : n1 ≤ 47 := by rw [← hn1]; exact Nat.le_trans (List.length_filter_le _ _) hl47
        have m3 : n3 ≤ 47 := by rw [← hn3]; exact Nat.le_trans (List.length_filter_le _ _) hl47
        have HM1 := Lib.hid hn1
        have HM3 := Lib.hid hn3
        clear hl47
        have CA := Lib.hid (fun r (h : Held w2 r) => (chosen_after (c := cp) c.key r ((HC3.out.kept h).more h.size) HM.out (by have := HM.out; have := HL.out; omega) (put_sizes2 HPS.out) (Nat.le_refl _)).mono fun e w' ⟨A, d, h1, h2, h3⟩ => by
          rw [HM1.out] at h1
          exact show ∃ A d, e = .returned (.slice A n1 d) ∧ Ces w'.heap.size w' A (l.filter (afterB c.key)) ∧ Below r.heap.size r w' from ⟨A, d, h1, own_ces h2 (fun p hp => put_sizes HPS.out p (List.mem_filter.1 hp).1) (max_small (by rw [HM1.out]; omega)), h3⟩)
        have CB := Lib.hid (fun r (h : Held w2 r) => (chosen_before (c := cp) c.key r ((HC3.out.kept h).more h.size) HM.out (by have := HM.out; have := HL.out; omega) (put_sizes2 HPS.out) (Nat.le_refl _)).mono fun e w' ⟨A, d, h1, h2, h3⟩ => by
          rw [HM3.out] at h1
          exact show ∃ A d, e = .returned (.slice A n3 d) ∧ Ces w'.heap.size w' A (l.filter (beforeB c.key)) ∧ Below r.heap.size r w' from ⟨A, d, h1, own_ces h2 (fun p hp => put_sizes HPS.out p (List.mem_filter.1 hp).1) (max_small (by rw [HM3.out]; omega)), h3⟩)
        have CO := Lib.hid (fun (V : World) (A1 : Option Addr) (d1 bC : Nat) (A3 : Option Addr) (d3 : Nat) (h1 : Ces V.heap.size V A1 (l.filter (afterB c.key))) (h2 : Ces V.heap.size V (some ⟨bC, 0, none⟩) [c]) (h3 : Ces V.heap.size V A3 (l.filter (beforeB c.key))) => show Calls Tryz.prog 24 #[.slice (some ⟨V.heap.size, 0, none⟩) 3 3] (V.alloc (.cells #[.slice A1 n1 d1, .slice (some ⟨bC, 0, none⟩) 1 1, .slice A3 n3 d3] 26)) (fun e w' => NewC (setS l c) (V.alloc (.cells #[.slice A1 n1 d1, .slice (some ⟨bC, 0, none⟩) 1 1, .slice A3 n3 d3] 26)) e w') from by
          have hbl := (Below.refl V.heap.size V).alloc (Nat.le_refl _) (.cells #[.slice A1 n1 d1, .slice (some ⟨bC, 0, none⟩) 1 1, .slice A3 n3 d3] 26)
          have hc := fun i => cell_of_row _ V.heap.size i _ _ _ (heap_alloc_new V (.cells #[.slice A1 n1 d1, .slice (some ⟨bC, 0, none⟩) 1 1, .slice A3 n3 d3] 26))
          exact concat_any _ (by rw [World.size_alloc]; omega) (hc 0) (hc 1) (hc 2) (h1.on hbl) (h2.on hbl) (h3.on hbl) HM1.out rfl HM3.out (by omega) (by omega) (by omega))
        clear hn1 hn3
        refine wp_region_noPanic ?_
        refine wp_region_held_drew (S := Held w2) (by kernel_rfl) ?_ (fun hHeld => ?_)
        · exact Held.start _
        refine wpAnyH_take (i := 0) (oi := { dst := some 25, op := Op.move (Operand.tmp 6), type := 26, pos := "bucket.go:35", after := #[], guard := none }) (v := .slice A m cp) rfl (by kernel_rfl) (by kernel_rfl) (by kernel_rfl) (fun _ _ _ h => h) (Or.inl ⟨by rfl, fun w' hSw => by ((try dsimp only at hSw); go_simp)⟩) (by assumption) ?_
        (try simp only [Act.put, List.setIfInBounds_toArray, List.set_cons_zero, List.set_cons_succ])
        refine wpAnyH_take (i := 1) (oi := { dst := some 26, op := Op.move (Operand.tmp 8), type := 65, pos := "bucket.go:35", after := #[], guard := none }) (v := .string c.key) rfl (by kernel_rfl) (by kernel_rfl) (by kernel_rfl) (fun _ _ _ h => h) (Or.inl ⟨by rfl, fun w' hSw => by ((try dsimp only at hSw); go_simp)⟩) (by assumption) ?_
        (try simp only [Act.put, List.setIfInBounds_toArray, List.set_cons_zero, List.set_cons_succ])
        refine wpAnyH_take (i := 2) (oi := { dst := some 27, op := Op.makeFunc (Go.Fn.func 26) #[Operand.tmp 26] #[], type := 49, pos := "bucket.go:35", after := #[{ on := 1, ground := Ground.data }], guard := none }) (v := .func (.func 26) #[.string c.key] #[]) rfl (by kernel_rfl) (by kernel_rfl) (by kernel_rfl) (fun _ _ _ h => h) (Or.inl ⟨by rfl, fun w' hSw => by ((try dsimp only at hSw); go_simp)⟩) (by assumption) ?_
        (try simp only [Act.put, List.setIfInBounds_toArray, List.set_cons_zero, List.set_cons_succ])
        refine wpAnyH_take (i := 4) (oi := { dst := some 29, op := Op.load 42 (Operand.tmp 3), type := 42, pos := "bucket.go:35", after := #[], guard := none }) (v := .agg #[.string c.key, .string c.val, .int .i64 c.blob, .int .i64 c.size]) rfl (by kernel_rfl) (by kernel_rfl) (by kernel_rfl) (fun _ _ _ h => h) (Or.inl ⟨by rfl, fun w' hSw => by ((try dsimp only at hSw); have := C0 _ hSw; have := C1 _ hSw; have := C2 _ hSw; have := C3 _ hSw; go_simp)⟩) (by assumption) ?_
        (try simp only [Act.put, List.setIfInBounds_toArray, List.set_cons_zero, List.set_cons_succ])
        refine wpAnyH_take (i := 6) (oi := { dst := some 31, op := Op.move (Operand.tmp 6), type := 26, pos := "bucket.go:35", after := #[], guard := none }) (v := .slice A m cp) rfl (by kernel_rfl) (by kernel_rfl) (by kernel_rfl) (fun _ _ _ h => h) (Or.inl ⟨by rfl, fun w' hSw => by ((try dsimp only at hSw); go_simp)⟩) (by assumption) ?_
        (try simp only [Act.put, List.setIfInBounds_toArray, List.set_cons_zero, List.set_cons_succ])
        refine wpAnyH_take (i := 7) (oi := { dst := some 32, op := Op.move (Operand.tmp 8), type := 65, pos := "bucket.go:35", after := #[], guard := none }) (v := .string c.key) rfl (by kernel_rfl) (by kernel_rfl) (by kernel_rfl) (fun _ _ _ h => h) (Or.inl ⟨by rfl, fun w' hSw => by ((try dsimp only at hSw); go_simp)⟩) (by assumption) ?_
        (try simp only [Act.put, List.setIfInBounds_toArray, List.set_cons_zero, List.set_cons_succ])
        refine wpAnyH_take (i := 8) (oi := { dst := some 33, op := Op.makeFunc (Go.Fn.func 27) #[Operand.tmp 32] #[], type := 49, pos := "bucket.go:35", after := #[{ on := 7, ground := Ground.data }], guard := none }) (v := .func (.func 27) #[.string c.key] #[]) rfl (by kernel_rfl) (by kernel_rfl) (by kernel_rfl) (fun _ _ _ h => h) (Or.inl ⟨by rfl, fun w' hSw => by ((try dsimp only at hSw); go_simp)⟩) (by assumption) ?_
        (try simp only [Act.put, List.setIfInBounds_toArray, List.set_cons_zero, List.set_cons_succ])
        refine wpAnyH_ready (rs := [3, 5]) (by kernel_rfl) (by simp) ?_
        refine AllReadyH.cons (o := { dst := some 28, op := Op.call { callee := Callee.value (Operand.func 25), args := #[Operand.tmp 25, Operand.tmp 27], argTypes := #[26, 49] }, type := 26, pos := "bucket.go:35", after := #[{ on := 0, ground := Ground.data }, { on := 2, ground := Ground.data }], guard := none }) rfl (fun K hK => ?_) ?_
        · go_simp; go_at_call 25; refine (CA.out _ (by assumption)).mono ?_; rintro e u3 ⟨A1, d1, rfl, hou3, hbu3⟩
          refine hK.out _ _ ?_ (fun hHeld => ?_)
          · exact Held.step (by assumption) hbu3
          clear hK K
          (try simp only [Act.put, List.setIfInBounds_toArray, List.set_cons_zero, List.set_cons_succ])
          refine wpAnyH_ready (rs := [5, 9]) (by kernel_rfl) (by simp) ?_
          refine AllReadyH.cons (o := { dst := some 30, op := Op.buildSlice 26 1 #[(0, Operand.tmp 29)], type := 26, pos := "bucket.go:35", after := #[{ on := 4, ground := Ground.data }], guard := none }) rfl (fun K hK => ?_) ?_
          · go_simp
            refine hK.out _ _ ?_ (fun hHeld => ?_)
            · exact Held.step (by assumption) ((Below.refl _ _).alloc (Nat.le_refl _) _)
            clear hK K
            (try simp only [Act.put, List.setIfInBounds_toArray, List.set_cons_zero, List.set_cons_succ])
            refine wpAnyH_ready (rs := [9]) (by kernel_rfl) (by simp) ?_
            refine AllReadyH.cons (o := { dst := some 34, op := Op.call { callee := Callee.value (Operand.func 25), args := #[Operand.tmp 31, Operand.tmp 33], argTypes := #[26, 49] }, type := 26, pos := "bucket.go:35", after := #[{ on := 6, ground := Ground.data }, { on := 8, ground := Ground.data }, { on := 3, ground := Ground.chain }], guard := none }) rfl (fun K hK => ?_) ?_
            · go_simp; go_at_call 25; refine (CB.out _ (by assumption)).mono ?_; rintro e u9 ⟨A3, d3, rfl, hou9, hbu9⟩
              refine hK.out _ _ ?_ (fun hHeld => ?_)
              · exact Held.step (by assumption) hbu9
              clear hK K
              (try simp only [Act.put, List.setIfInBounds_toArray, List.set_cons_zero, List.set_cons_succ])
              have HV := Lib.hid (CO.out (u9) A1 d1 (u3.heap.size) A3 d3 ((hou3.on ((Below.refl _ _).alloc (Nat.le_refl _) _)).on hbu9) ((HO1.out u3).on hbu9) (hou9))
              have HVH := Lib.hid hHeld
              refine wpAnyH_ready (rs := [10]) (by kernel_rfl) (by simp) ?_
              refine AllReadyH.cons (o := { dst := some 35, op := Op.buildSlice 32 3 #[(0, Operand.tmp 28), (1, Operand.tmp 30), (2, Operand.tmp 34)], type := 32, pos := "bucket.go:35", after := #[{ on := 3, ground := Ground.data }, { on := 5, ground := Ground.data }, { on := 9, ground := Ground.data }], guard := none }) rfl (fun K hK => ?_) ?_
              · go_simp
                refine hK.out _ _ ?_ (fun hHeld => ?_)
                · exact Held.step (by assumption) ((Below.refl _ _).alloc (Nat.le_refl _) _)
                clear hK K
                (try simp only [Act.put, List.setIfInBounds_toArray, List.set_cons_zero, List.set_cons_succ])
                refine wpAnyH_ready (rs := [11]) (by kernel_rfl) (by simp) ?_
                refine AllReadyH.cons (o := { dst := some 36, op := Op.call { callee := Callee.value (Operand.func 24), args := #[Operand.tmp 35], argTypes := #[32] }, type := 26, pos := "bucket.go:35", after := #[{ on := 10, ground := Ground.data }, { on := 9, ground := Ground.chain }], guard := none }) rfl (fun K hK => ?_) ?_
                · go_simp; go_at_call 24; refine HV.out.mono ?_; rintro e u11 ⟨A9, d9, rfl, hou11, hbu11⟩
                  refine hK.out _ _ ?_ (fun hHeld => ?_)
                  · exact Held.step (by assumption) hbu11
                  clear hK K
                  (try simp only [Act.put, List.setIfInBounds_toArray, List.set_cons_zero, List.set_cons_succ])
                  refine wpAnyH_take (i := 12) (oi := { dst := some 9, op := Op.assign (Operand.tmp 36), type := 26, pos := "bucket.go:35", after := #[{ on := 11, ground := Ground.data }, { on := 11, ground := Ground.chain }, { on := 0, ground := Ground.phase }, { on := 1, ground := Ground.phase }, { on := 2, ground := Ground.phase }, { on := 3, ground := Ground.phase }, { on := 4, ground := Ground.phase }, { on := 5, ground := Ground.phase }, { on := 6, ground := Ground.phase }, { on := 7, ground := Ground.phase }, { on := 8, ground := Ground.phase }, { on := 9, ground := Ground.phase }, { on := 10, ground := Ground.phase }, { on := 11, ground := Ground.phase }], guard := none }) (v := .slice A9 (setS l c).length d9) rfl (by kernel_rfl) (by kernel_rfl) (by kernel_rfl) (fun _ _ _ h => h) (Or.inl ⟨by rfl, fun w' hSw => by ((try dsimp only at hSw); go_simp)⟩) (by assumption) ?_
                  (try simp only [Act.put, List.setIfInBounds_toArray, List.set_cons_zero, List.set_cons_succ])
                  refine wpAnyH_done (by kernel_rfl) ?_ _
                  refine NoPanic.normal ?_
                  have HF := Lib.hid (show Ces u11.heap.size u11 A9 (setS l c) ∧ Below w2.heap.size w2 u11 from ⟨own_ces hou11 (set_sizes HPS.out HOK.out) (max_small (by have := set_len (putOk_rise HPS.out) HL.out c; omega)), hHeld⟩)
                  clear HVH HV
                  go_wp2_with fail
                  go_meet
                  exact ⟨_, _, rfl, HF.out⟩
                exact AllReadyH.nil
              exact AllReadyH.nil
            exact AllReadyH.nil
          refine AllReadyH.cons (o := { dst := some 34, op := Op.call { callee := Callee.value (Operand.func 25), args := #[Operand.tmp 31, Operand.tmp 33], argTypes := #[26, 49] }, type := 26, pos := "bucket.go:35", after := #[{ on := 6, ground := Ground.data }, { on := 8, ground := Ground.data }, { on := 3, ground := Ground.chain }], guard := none }) rfl (fun K hK => ?_) ?_
          · go_simp; go_at_call 25; refine (CB.out _ (by assumption)).mono ?_; rintro e u9 ⟨A3, d3, rfl, hou9, hbu9⟩
            refine hK.out _ _ ?_ (fun hHeld => ?_)
            · exact Held.step (by assumption) hbu9
            clear hK K
            (try simp only [Act.put, List.setIfInBounds_toArray, List.set_cons_zero, List.set_cons_succ])
            refine wpAnyH_ready (rs := [5]) (by kernel_rfl) (by simp) ?_
            refine AllReadyH.cons (o := { dst := some 30, op := Op.buildSlice 26 1 #[(0, Operand.tmp 29)], type := 26, pos := "bucket.go:35", after := #[{ on := 4, ground := Ground.data }], guard := none }) rfl (fun K hK => ?_) ?_
            · go_simp
              refine hK.out _ _ ?_ (fun hHeld => ?_)
              · exact Held.step (by assumption) ((Below.refl _ _).alloc (Nat.le_refl _) _)
              clear hK K
              (try simp only [Act.put, List.setIfInBounds_toArray, List.set_cons_zero, List.set_cons_succ])
              have HCs := Lib.hid (show Ces (u9.alloc (Obj.cells #[.string c.key, .string c.val, .int .i64 c.blob, .int .i64 c.size] 42)).heap.size (u9.alloc (Obj.cells #[.string c.key, .string c.val, .int .i64 c.blob, .int .i64 c.size] 42)) A1 (l.filter (afterB c.key)) ∧ Ces (u9.alloc (Obj.cells #[.string c.key, .string c.val, .int .i64 c.blob, .int .i64 c.size] 42)).heap.size (u9.alloc (Obj.cells #[.string c.key, .string c.val, .int .i64 c.blob, .int .i64 c.size] 42)) (some ⟨u9.heap.size, 0, none⟩) [c] ∧ Ces (u9.alloc (Obj.cells #[.string c.key, .string c.val, .int .i64 c.blob, .int .i64 c.size] 42)).heap.size (u9.alloc (Obj.cells #[.string c.key, .string c.val, .int .i64 c.blob, .int .i64 c.size] 42)) A3 (l.filter (beforeB c.key)) from ⟨(hou3.on hbu9).on ((Below.refl _ _).alloc (Nat.le_refl _) _), HO1.out u9, hou9.on ((Below.refl _ _).alloc (Nat.le_refl _) _)⟩)
              generalize u9.alloc (Obj.cells #[.string c.key, .string c.val, .int .i64 c.blob, .int .i64 c.size] 42) = VV at *
              have HV := Lib.hid (CO.out VV A1 d1 (u9.heap.size) A3 d3 HCs.out.1 HCs.out.2.1 HCs.out.2.2)
              have HVH := Lib.hid hHeld
              refine wpAnyH_ready (rs := [10]) (by kernel_rfl) (by simp) ?_
              refine AllReadyH.cons (o := { dst := some 35, op := Op.buildSlice 32 3 #[(0, Operand.tmp 28), (1, Operand.tmp 30), (2, Operand.tmp 34)], type := 32, pos := "bucket.go:35", after := #[{ on := 3, ground := Ground.data }, { on := 5, ground := Ground.data }, { on := 9, ground := Ground.data }], guard := none }) rfl (fun K hK => ?_) ?_
              · go_simp
                refine hK.out _ _ ?_ (fun hHeld => ?_)
                · exact Held.step (by assumption) ((Below.refl _ _).alloc (Nat.le_refl _) _)
                clear hK K
                (try simp only [Act.put, List.setIfInBounds_toArray, List.set_cons_zero, List.set_cons_succ])
                refine wpAnyH_ready (rs := [11]) (by kernel_rfl) (by simp) ?_
                refine AllReadyH.cons (o := { dst := some 36, op := Op.call { callee := Callee.value (Operand.func 24), args := #[Operand.tmp 35], argTypes := #[32] }, type := 26, pos := "bucket.go:35", after := #[{ on := 10, ground := Ground.data }, { on := 9, ground := Ground.chain }], guard := none }) rfl (fun K hK => ?_) ?_
                · go_simp; go_at_call 24; refine HV.out.mono ?_; rintro e u11 ⟨A9, d9, rfl, hou11, hbu11⟩
                  refine hK.out _ _ ?_ (fun hHeld => ?_)
                  · exact Held.step (by assumption) hbu11
                  clear hK K
                  (try simp only [Act.put, List.setIfInBounds_toArray, List.set_cons_zero, List.set_cons_succ])
                  refine wpAnyH_take (i := 12) (oi := { dst := some 9, op := Op.assign (Operand.tmp 36), type := 26, pos := "bucket.go:35", after := #[{ on := 11, ground := Ground.data }, { on := 11, ground := Ground.chain }, { on := 0, ground := Ground.phase }, { on := 1, ground := Ground.phase }, { on := 2, ground := Ground.phase }, { on := 3, ground := Ground.phase }, { on := 4, ground := Ground.phase }, { on := 5, ground := Ground.phase }, { on := 6, ground := Ground.phase }, { on := 7, ground := Ground.phase }, { on := 8, ground := Ground.phase }, { on := 9, ground := Ground.phase }, { on := 10, ground := Ground.phase }, { on := 11, ground := Ground.phase }], guard := none }) (v := .slice A9 (setS l c).length d9) rfl (by kernel_rfl) (by kernel_rfl) (by kernel_rfl) (fun _ _ _ h => h) (Or.inl ⟨by rfl, fun w' hSw => by ((try dsimp only at hSw); go_simp)⟩) (by assumption) ?_
                  (try simp only [Act.put, List.setIfInBounds_toArray, List.set_cons_zero, List.set_cons_succ])
                  refine wpAnyH_done (by kernel_rfl) ?_ _
                  refine NoPanic.normal ?_
                  have HF := Lib.hid (show Ces u11.heap.size u11 A9 (setS l c) ∧ Below w2.heap.size w2 u11 from ⟨own_ces hou11 (set_sizes HPS.out HOK.out) (max_small (by have := set_len (putOk_rise HPS.out) HL.out c; omega)), hHeld⟩)
                  clear HVH HV
                  go_wp2_with fail
                  go_meet
                  exact ⟨_, _, rfl, HF.out⟩
                exact AllReadyH.nil
              exact AllReadyH.nil
            exact AllReadyH.nil
          exact AllReadyH.nil
        refine AllReadyH.cons (o := { dst := some 30, op := Op.buildSlice 26 1 #[(0, Operand.tmp 29)], type := 26, pos := "bucket.go:35", after := #[{ on := 4, ground := Ground.data }], guard := none }) rfl (fun K hK => ?_) ?_
        · go_simp
          refine hK.out _ _ ?_ (fun hHeld => ?_)
          · exact Held.step (by assumption) ((Below.refl _ _).alloc (Nat.le_refl _) _)
          clear hK K
          (try simp only [Act.put, List.setIfInBounds_toArray, List.set_cons_zero, List.set_cons_succ])
          refine wpAnyH_ready (rs := [3]) (by kernel_rfl) (by simp) ?_
          refine AllReadyH.cons (o := { dst := some 28, op := Op.call { callee := Callee.value (Operand.func 25), args := #[Operand.tmp 25, Operand.tmp 27], argTypes := #[26, 49] }, type := 26, pos := "bucket.go:35", after := #[{ on := 0, ground := Ground.data }, { on := 2, ground := Ground.data }], guard := none }) rfl (fun K hK => ?_) ?_
          · go_simp; go_at_call 25; refine (CA.out _ (by assumption)).mono ?_; rintro e u3 ⟨A1, d1, rfl, hou3, hbu3⟩
            refine hK.out _ _ ?_ (fun hHeld => ?_)
            · exact Held.step (by assumption) hbu3
            clear hK K
            (try simp only [Act.put, List.setIfInBounds_toArray, List.set_cons_zero, List.set_cons_succ])
            refine wpAnyH_ready (rs := [9]) (by kernel_rfl) (by simp) ?_
            refine AllReadyH.cons (o := { dst := some 34, op := Op.call { callee := Callee.value (Operand.func 25), args := #[Operand.tmp 31, Operand.tmp 33], argTypes := #[26, 49] }, type := 26, pos := "bucket.go:35", after := #[{ on := 6, ground := Ground.data }, { on := 8, ground := Ground.data }, { on := 3, ground := Ground.chain }], guard := none }) rfl (fun K hK => ?_) ?_
            · go_simp; go_at_call 25; refine (CB.out _ (by assumption)).mono ?_; rintro e u9 ⟨A3, d3, rfl, hou9, hbu9⟩
              refine hK.out _ _ ?_ (fun hHeld => ?_)
              · exact Held.step (by assumption) hbu9
              clear hK K
              (try simp only [Act.put, List.setIfInBounds_toArray, List.set_cons_zero, List.set_cons_succ])
              have HV := Lib.hid (CO.out (u9) A1 d1 (w2.heap.size) A3 d3 (hou3.on hbu9) (((HO1.out w2.drew).on hbu3).on hbu9) (hou9))
              have HVH := Lib.hid hHeld
              refine wpAnyH_ready (rs := [10]) (by kernel_rfl) (by simp) ?_
              refine AllReadyH.cons (o := { dst := some 35, op := Op.buildSlice 32 3 #[(0, Operand.tmp 28), (1, Operand.tmp 30), (2, Operand.tmp 34)], type := 32, pos := "bucket.go:35", after := #[{ on := 3, ground := Ground.data }, { on := 5, ground := Ground.data }, { on := 9, ground := Ground.data }], guard := none }) rfl (fun K hK => ?_) ?_
              · go_simp
                refine hK.out _ _ ?_ (fun hHeld => ?_)
                · exact Held.step (by assumption) ((Below.refl _ _).alloc (Nat.le_refl _) _)
                clear hK K
                (try simp only [Act.put, List.setIfInBounds_toArray, List.set_cons_zero, List.set_cons_succ])
                refine wpAnyH_ready (rs := [11]) (by kernel_rfl) (by simp) ?_
                refine AllReadyH.cons (o := { dst := some 36, op := Op.call { callee := Callee.value (Operand.func 24), args := #[Operand.tmp 35], argTypes := #[32] }, type := 26, pos := "bucket.go:35", after := #[{ on := 10, ground := Ground.data }, { on := 9, ground := Ground.chain }], guard := none }) rfl (fun K hK => ?_) ?_
                · go_simp; go_at_call 24; refine HV.out.mono ?_; rintro e u11 ⟨A9, d9, rfl, hou11, hbu11⟩
                  refine hK.out _ _ ?_ (fun hHeld => ?_)
                  · exact Held.step (by assumption) hbu11
                  clear hK K
                  (try simp only [Act.put, List.setIfInBounds_toArray, List.set_cons_zero, List.set_cons_succ])
                  refine wpAnyH_take (i := 12) (oi := { dst := some 9, op := Op.assign (Operand.tmp 36), type := 26, pos := "bucket.go:35", after := #[{ on := 11, ground := Ground.data }, { on := 11, ground := Ground.chain }, { on := 0, ground := Ground.phase }, { on := 1, ground := Ground.phase }, { on := 2, ground := Ground.phase }, { on := 3, ground := Ground.phase }, { on := 4, ground := Ground.phase }, { on := 5, ground := Ground.phase }, { on := 6, ground := Ground.phase }, { on := 7, ground := Ground.phase }, { on := 8, ground := Ground.phase }, { on := 9, ground := Ground.phase }, { on := 10, ground := Ground.phase }, { on := 11, ground := Ground.phase }], guard := none }) (v := .slice A9 (setS l c).length d9) rfl (by kernel_rfl) (by kernel_rfl) (by kernel_rfl) (fun _ _ _ h => h) (Or.inl ⟨by rfl, fun w' hSw => by ((try dsimp only at hSw); go_simp)⟩) (by assumption) ?_
                  (try simp only [Act.put, List.setIfInBounds_toArray, List.set_cons_zero, List.set_cons_succ])
                  refine wpAnyH_done (by kernel_rfl) ?_ _
                  refine NoPanic.normal ?_
                  have HF := Lib.hid (show Ces u11.heap.size u11 A9 (setS l c) ∧ Below w2.heap.size w2 u11 from ⟨own_ces hou11 (set_sizes HPS.out HOK.out) (max_small (by have := set_len (putOk_rise HPS.out) HL.out c; omega)), hHeld⟩)
                  clear HVH HV
                  go_wp2_with fail
                  go_meet
                  exact ⟨_, _, rfl, HF.out⟩
                exact AllReadyH.nil
              exact AllReadyH.nil
            exact AllReadyH.nil
          exact AllReadyH.nil
        exact AllReadyH.nil
      case rest =>
        clear x0 x1 x2 x3
        obtain ⟨A2, c2, rfl, hq⟩ := hcut
        have HQ := Lib.hid hq.out
        clear hq
        have HX3 := Lib.hid (HK.out _ _ HX2.out HQ.out.2)
        have PU := Lib.hid (put_any (c := c2) wc HQ.out.1 rfl (by have := set_len (putOk_rise HPS.out) HL.out c; omega) (Nat.le_refl _))
        obtain ⟨N, hN⟩ : ∃ N, (setS l c).length = N := ⟨_, rfl⟩
        rw [hN] at PU
        have HN := Lib.hid hN
        rw [hN]
        clear hN HX2 HC2 HC3 HQ
        unfold putS at PU
        cases hpo : putOk (setS l c) with
        | false =>
          rw [hpo] at PU
          have HV := Lib.hid (W13.out hpo)
          generalize str (if false = true then bodyOf (setS l c) else []) = bs at *
          clear hpo
          go_wp2_with fail
          refine PU.out.mono ?_; rintro e w4 ⟨rfl, hb⟩
          have HX4 := Lib.hid (HK.out _ _ HX3.out hb)
          clear hb PU HX3
          obtain ⟨⟨r0, r1, r2, r3⟩, f0, f1, f2, f3⟩ := And.intro HX4.out.2.2.1.cells HX4.out.2.2.1.free
          go_wp2_with fail
          refine bodyPost_ret (v := .tuple #[.agg #[.int .i64 0, .int .i64 0, .int .i64 0, .string ⟨#[]⟩], .int .i64 13]) (by simp [results, Tryz.results6, go_sem, r0, r1, r2, r3]) rfl ⟨by rw [HV.out], ?_⟩
          exact below_set4 HX4.out.2.2.2 HLE.out.2.2.1
        | true =>
          rw [hpo, if_pos rfl] at PU
          have HV := Lib.hid (W0.out hpo)
          generalize str (bodyOf (setS l c)) = bs at *
          clear hpo
          go_wp2_with fail
          refine PU.out.mono ?_; rintro e w4 ⟨rfl, hb⟩
          have HX4 := Lib.hid (HK.out _ _ HX3.out hb)
          clear hb PU HX3
          obtain ⟨⟨r0, r1, r2, r3⟩, f0, f1, f2, f3⟩ := And.intro HX4.out.2.2.1.cells HX4.out.2.2.1.free
          obtain ⟨⟨p0, p1, p2, p3⟩, pf0, pf1, pf2, pf3⟩ := And.intro HX4.out.1.cells HX4.out.1.free
          have hne : ¬ Bp = Br := HLE.out.2.2.2
          have hne' : ¬ Br = Bp := fun e => HLE.out.2.2.2 e.symm
          go_wp2_with fail
          refine bodyPost_ret (v := .tuple #[.agg #[.int .i64 k, .int .i64 d, .int .i64 x, .string bs], .int .i64 0]) (by simp [results, Tryz.results6, go_sem, r0, r1, r2, r3, hne, hne']) rfl ⟨by rw [HV.out], ?_⟩
          exact below_set4 (below_set1 HX4.out.2.2.2 HLE.out.1) HLE.out.2.2.1
end Go.Proofs.YtljegjcajlkgiaaGreat
