/- The contracts of a table's at, of a turned one's; of with. -/
import Derived.Test.YtojfnafahlpjjaaMem
import Derived.Deep.RegionLaw
import Derived.Deep.RegionWith
import Derived.Deep.RegionHeld3
namespace Go.Proofs.Ytojfnafahlpjjaa
open Go.ChangeShapes Go.WideShapes Go.ChangeAt Go.RowKit
set_option linter.unusedVariables false
set_option linter.unusedSimpArgs false
set_option maxRecDepth 100000
theorem rem_val (i n : Nat) : (i : Int) % (n : Int) = ((i % n : Nat) : Int) := rfl
theorem tat_any (n₀ : Nat) (A : Option Addr) (n c : Nat) (l : List Int) (i : Nat) (w : World) (h : Nums n₀ w (.slice A n c) l) (h0 : 0 < n) (hn : n ≤ 1000) (hi : i ≤ 1000000) :
    Calls Try.prog 23 #[.slice A n c, .int .i64 i] w fun e w' => e = .returned (.int .i64 (tatF l i)) ∧ w = w' := by
  have hl := h.len
  have RM := rem_val i n
  have hr : i % n < n := Nat.mod_lt _ h0
  obtain ⟨b, off, rfl, hb, hc⟩ := h.at hr
  have hx : tatF l i = l.getD (i % n) 0 := by unfold tatF; rw [← hl]
  rw [hx]
  generalize l.getD (i % n) 0 = x at *
  generalize i % n = r at *
  have b1 : (0 : Int) ≤ (r : Int) := by omega
  have b2 : (r : Int) < (n : Int) := by omega
  have b3 : ((n : Int) == 0) = false := by rw [beq_eq_false_iff_ne]; omega
  have b4 : (n : Int) ≠ 0 := by omega
  clear h hl hx hb
  go_enter Try.func23, Try.ntmps23
  go_wp2_with fail
  go_ret
  exact ⟨rfl, rfl⟩
theorem below_drewN {C : Nat} {a b : World} (h : Below C a b) (k : Nat) : Below C a (b.drewN k) := h.trans ⟨rfl, rfl, rfl, Nat.le_refl _, fun _ _ => rfl⟩
/-- The box of a turned table. -/
def TBox (w : World) (B : Nat) (v : Value) (b d n : Int) : Prop := w.heap[B]? = some (.cells #[v, .int .i64 b, .int .i64 d, .int .i64 n] 73 (0, 0))
theorem TBox.cells {w : World} {B : Nat} {v : Value} {b d n : Int} (h : TBox w B v b d n) : w.cell? ⟨B, 0, none⟩ = some v ∧ w.cell? ⟨B, 1, none⟩ = some (.int .i64 b) ∧ w.cell? ⟨B, 2, none⟩ = some (.int .i64 d) ∧ w.cell? ⟨B, 3, none⟩ = some (.int .i64 n) :=
  ⟨(cell_of_row _ _ _ _ _ _ h).trans rfl, (cell_of_row _ _ _ _ _ _ h).trans rfl, (cell_of_row _ _ _ _ _ _ h).trans rfl, (cell_of_row _ _ _ _ _ _ h).trans rfl⟩
theorem TBox.new (w : World) (v : Value) (b d n : Int) : TBox (w.alloc (.cells #[v, .int .i64 b, .int .i64 d, .int .i64 n] 73)) w.heap.size v b d n := heap_alloc_new w _
theorem TBox.lt {w : World} {B : Nat} {v : Value} {b d n : Int} (h : TBox w B v b d n) : B < w.heap.size := (Array.getElem?_eq_some_iff.1 h).1
theorem TBox.kept {w w' : World} {B : Nat} {v : Value} {b d n : Int} (h : TBox w B v b d n) (hb : Below w.heap.size w w') : TBox w' B v b d n := (hb.block _ h.lt).trans h
set_option maxHeartbeats 1000000 in
theorem uat_any (n₀ : Nat) (A : Option Addr) (n c : Nat) (l : List Int) (bits depth i : Nat) (x : Int) (w : World) (h : Nums n₀ w (.slice A n c) l) (hw : n₀ ≤ w.heap.size) (h0 : 0 < n) (hn : n ≤ 1000) (hi : i ≤ 1000000) (hd : depth ≤ 60) :
    Calls Try.prog 31 #[.agg #[.slice A n c, .int .i64 bits, .int .i64 depth, .int .i64 x], .int .i64 i] w fun e w' => e = .returned (.int .i64 (setF l bits depth x i)) ∧ Below w.heap.size w w' := by
  have hal := (Below.refl w.heap.size w).alloc (Nat.le_refl _) (.cells #[.slice A n c, .int .i64 bits, .int .i64 depth, .int .i64 x] 73)
  have HT := Lib.hid (TBox.new w (.slice A n c) bits depth x)
  have HB := Lib.hid hal
  have TA := Lib.hid (fun (w' : World) (hb : Below w.heap.size w w') => tat_any n₀ A n c l i w' (h.below (hb.mono hw)) h0 hn hi)
  have EN := Lib.hid (entries_any depth hd)
  have hp : 1 ≤ 2 ^ depth := Nat.one_le_two_pow
  have RM := Lib.hid (rem_val i (2 ^ depth))
  obtain ⟨r, hr⟩ : ∃ r, r = setF l bits depth x i := ⟨_, rfl⟩
  rw [← hr]
  unfold setF at hr
  generalize tatF l i = t at *
  generalize i % 2 ^ depth = q at *
  generalize 2 ^ depth = N at *
  have b3 : ((N : Int) == 0) = false := by rw [beq_eq_false_iff_ne]; omega
  have b4 : (N : Int) ≠ 0 := by omega
  clear h hal hp hd
  obtain ⟨W, hW⟩ : ∃ W, W = w.alloc (.cells #[.slice A n c, .int .i64 bits, .int .i64 depth, .int .i64 x] 73) := ⟨_, rfl⟩
  have HW := Lib.hid hW.symm
  rw [← hW] at HT HB
  clear hW
  have KQ : q = bits ∨ q ≠ bits := Decidable.em _
  rcases KQ with hq | hq
  · rw [if_pos hq] at hr
    subst hr hq
    have RM1 := RM.out
    obtain ⟨x0, x1, x2, x3⟩ := HT.out.cells
    go_enter Try.func31, Try.ntmps31
    go_wp2_with fail
    rw [HW.out]
    go_upto_region 1 with fail
    go_quiet ((go_at_call 30; exact Calls.quiet_of_same ((EN.out _).mono fun e w' h => ⟨h.1, h.2.symm⟩)))
    go_wp2_with fail
    go_ret
    exact ⟨rfl, below_drewN HB.out _⟩
  · rw [if_neg hq] at hr
    subst hr
    have RM1 := RM.out
    have b5 : ((q : Int) == (bits : Int)) = false := by rw [beq_eq_false_iff_ne]; omega
    have b6 : (q : Int) ≠ (bits : Int) := by omega
    have TA1 := Lib.hid (fun k => TA.out (W.drewN k) (below_drewN HB.out k))
    obtain ⟨x0, x1, x2, x3⟩ := HT.out.cells
    clear TA hq
    go_enter Try.func31, Try.ntmps31
    go_wp2_with fail
    rw [HW.out]
    go_upto_region 1 with fail
    go_quiet ((go_at_call 30; exact Calls.quiet_of_same ((EN.out _).mono fun e w' h => ⟨h.1, h.2.symm⟩)))
    go_wp2_with fail
    refine (TA1.out _).mono ?_; rintro e w1 ⟨rfl, rfl⟩
    go_wp2_with fail
    go_ret
    exact ⟨rfl, below_drewN HB.out _⟩
/-! with. -/
/-- The bytes behind i rounds. -/
def bytS (f : Nat → Int) (i : Nat) : BA := bdL (tabF f i) ++ zs (240 - 2 * i)
theorem bytS_length {f : Nat → Int} {i : Nat} (h : i ≤ 120) : (bytS f i).length = 240 := by unfold bytS; rw [List.length_append, bdL_length, tabF_length, zs_length]; omega
theorem bytS_zero (f : Nat → Int) : zs 240 = bytS f 0 := rfl
theorem bytS_step {f : Nat → Int} {i : Nat} (h : i < 120) : ((bytS f i).set (i * 2) 0).set (i * 2 + 1) (UInt8.ofNat (f i).toNat) = bytS f (i + 1) := by
  apply List.ext_getElem?
  intro j
  have hl := bytS_length (f := f) (show i ≤ 120 by omega)
  have g : ∀ m, m ≤ 120 → ∀ j, (bytS f m)[j]? = if j < 2 * m then some (if j % 2 = 0 then 0 else UInt8.ofNat (f (j / 2)).toNat) else if j < 240 then some 0 else none := by
    intro m hm j
    unfold bytS
    by_cases hj : j < 2 * m
    · rw [List.getElem?_append_left (by rw [bdL_length, tabF_length]; exact hj), bdL_get, tabF_length, if_pos hj, if_pos hj, tabF_getD _ (by omega)]
    · rw [List.getElem?_append_right (by rw [bdL_length, tabF_length]; omega), bdL_length, tabF_length, getElem_zs, if_neg hj]
      by_cases h2 : j < 240
      · rw [if_pos (by omega), if_pos h2]
      · rw [if_neg (by omega), if_neg h2]
  rw [List.getElem?_set, List.getElem?_set, List.length_set, hl, g i (by omega), g (i + 1) (by omega)]
  by_cases h1 : i * 2 + 1 = j
  · rw [if_pos h1, if_pos (by omega), if_pos (show j < 2 * (i + 1) by omega), if_neg (by omega), show j / 2 = i by omega]
  · rw [if_neg h1]
    by_cases h2 : i * 2 = j
    · rw [if_pos h2, if_pos (by omega), if_pos (show j < 2 * (i + 1) by omega), if_pos (by omega)]
    · rw [if_neg h2]
      by_cases h3 : j < 2 * i
      · rw [if_pos h3, if_pos (show j < 2 * (i + 1) by omega)]
      · rw [if_neg h3, if_neg (show ¬ j < 2 * (i + 1) by omega)]
theorem bytS_end {f : Nat → Int} {e : Nat} : bytS f (2 ^ e) = mkD (tabF f (2 ^ e)) := by unfold bytS mkD; rw [tabF_length]
theorem two_start (w : World) (k d x : Int) (b : ByteArray) :
    PBox ((w.alloc (.cells #[.int .i64 k, .int .i64 d, .int .i64 x, .string b] 23)).alloc (.cells #[.int .i64 0, .int .i64 0, .int .i64 0, .string ⟨#[]⟩] 23)) w.heap.size k d x b ∧
    PBox ((w.alloc (.cells #[.int .i64 k, .int .i64 d, .int .i64 x, .string b] 23)).alloc (.cells #[.int .i64 0, .int .i64 0, .int .i64 0, .string ⟨#[]⟩] 23)) (w.heap.size + 1) 0 0 0 ⟨#[]⟩ ∧
    Below w.heap.size w ((w.alloc (.cells #[.int .i64 k, .int .i64 d, .int .i64 x, .string b] 23)).alloc (.cells #[.int .i64 0, .int .i64 0, .int .i64 0, .string ⟨#[]⟩] 23)) := by
  refine ⟨(PBox.new w k d x b).kept ((Below.refl _ _).alloc (Nat.le_refl _) _), ?_, ((Below.refl w.heap.size w).alloc (Nat.le_refl _) _).alloc (by simp) _⟩
  have := PBox.new (w.alloc (.cells #[.int .i64 k, .int .i64 d, .int .i64 x, .string b] 23)) 0 0 0 ⟨#[]⟩
  rw [World.size_alloc] at this
  exact this
/-- What stands in with's rounds. -/
def WSt (w : World) (k d x : Int) (b : ByteArray) (f : Nat → Int) (P Z g : Nat) (i : Nat) (w' : World) : Prop := PBox w' P k d x b ∧ PBox w' Z 0 0 0 ⟨#[]⟩ ∧ Byt w' g (bytS f i) ∧ Below w.heap.size w w'
theorem WSt.kept {w : World} {k d x : Int} {b : ByteArray} {f : Nat → Int} {P Z g i : Nat} {w' w2 : World} (h : WSt w k d x b f P Z g i w') (hb : Below w'.heap.size w' w2) : WSt w k d x b f P Z g i w2 :=
  ⟨h.1.kept hb, h.2.1.kept hb, h.2.2.1.kept hb, h.2.2.2.trans (hb.mono (Below.size h.2.2.2))⟩
theorem byte_lit {n : Int} (h : 0 ≤ n ∧ n < 256) : (((UInt8.ofNat n.toNat).toNat : Nat) : Int) = n := by
  rw [UInt8.toNat_ofNat', Nat.mod_eq_of_lt (by omega)]; omega
theorem WSt.step {w : World} {k d x : Int} {b : ByteArray} {f : Nat → Int} {P Z g i : Nat} {w' : World} (h : WSt w k d x b f P Z g i w') (hi : i < 120) (hf : 0 ≤ f i ∧ f i < 256) (hg : P ≠ g ∧ Z ≠ g ∧ w.heap.size ≤ g) :
    WSt w k d x b f P Z g (i + 1) ((w'.setCell ⟨g, i * 2, none⟩ (.int .u8 0)).setCell ⟨g, i * 2 + 1, none⟩ (.int .u8 (f i))) := by
  refine ⟨h.1.heap (heap_set2 _ _ _ _ _ _ _ hg.1), h.2.1.heap (heap_set2 _ _ _ _ _ _ _ hg.2.1), ?_, below_set2 h.2.2.2 hg.2.2⟩
  have := ((h.2.2.1.set (i * 2) 0).set (i * 2 + 1) (UInt8.ofNat (f i).toNat))
  rw [bytS_step hi, byte_lit hf] at this
  exact this
set_option maxHeartbeats 2000000 in
theorem with_tat (k d x : Int) (b : BA) (e : Nat) (v : Value) (f : Nat → Int) (he : e ≤ 5) (hf : ∀ i, i < 2 ^ e → 2 ≤ f i ∧ f i < 64) (w : World)
    (hat : ∀ (i : Nat) (w' : World), i < 2 ^ e → Below w.heap.size w w' → Calls Try.prog 23 #[v, .int .i64 i] w' fun e w'' => e = .returned (.int .i64 (f i)) ∧ Below w'.heap.size w' w'') :
    Calls Try.prog 22 #[pv k d x b, .int .i64 e, .func (.func 23) #[v] #[]] w fun q w' => q = .returned (pv k e x (mkD (tabF f (2 ^ e)))) ∧ Below w.heap.size w w' := by
  have H0 := Lib.hid (two_start w k d x (str b))
  have EN := Lib.hid (entries_any e (by omega))
  have hp := pow_le he
  have HE := Lib.hid (bytS_end (f := f) (e := e))
  unfold pv
  generalize str b = s at *
  obtain ⟨s2, hs2⟩ : ∃ s2, s2 = str (mkD (tabF f (2 ^ e))) := ⟨_, rfl⟩
  rw [← hs2]
  have HS2 := Lib.hid hs2
  clear hs2
  generalize 2 ^ e = N at *
  have HAT := Lib.hid hat
  have HF := Lib.hid hf
  have hp1 := hp.1
  have hp2 := hp.2
  clear hat hf hp
  obtain ⟨W0, hW⟩ : ∃ W0, W0 = (w.alloc (.cells #[.int .i64 k, .int .i64 d, .int .i64 x, .string s] 23)).alloc (.cells #[.int .i64 0, .int .i64 0, .int .i64 0, .string ⟨#[]⟩] 23) := ⟨_, rfl⟩
  rw [← hW] at H0
  obtain ⟨P, hP⟩ : ∃ P, P = w.heap.size := ⟨_, rfl⟩
  obtain ⟨Z, hZ⟩ : ∃ Z, Z = w.heap.size + 1 := ⟨_, rfl⟩
  rw [← hZ, ← hP] at H0
  have HPE := Lib.hid hP.symm
  have HZE := Lib.hid hZ.symm
  have HL := Lib.hid (show w.heap.size ≤ P ∧ w.heap.size ≤ Z from ⟨by omega, by omega⟩)
  have HPZ := Lib.hid (show P ≠ Z by omega)
  clear hP hZ
  obtain ⟨W1, hmk, hby, hbl⟩ := make_byt 240 (by omega) W0
  rw [show ((240 : Nat) : Int) = 240 from rfl] at hmk
  obtain ⟨g, hg⟩ : ∃ g, g = W0.heap.size := ⟨_, rfl⟩
  have HG := Lib.hid (show P ≠ g ∧ Z ≠ g ∧ w.heap.size ≤ g from by
    have h1 := H0.out.1.lt
    have h2 := H0.out.2.1.lt
    have h3 := Below.size H0.out.2.2
    have h4 := HPE.out
    rw [← hg] at h1 h2
    omega)
  rw [← hg] at hmk hby
  have HST := Lib.hid (show WSt w k d x s f P Z g 0 W1 from ⟨H0.out.1.kept hbl, H0.out.2.1.kept hbl, hby, by
    have h := H0.out.2.2
    rw [← HPE.out] at h
    exact h.trans (hbl.mono (Below.size h))⟩)
  clear hby hbl hg H0
  go_enter Try.func22, Try.ntmps22
  go_upto_region 1 with fail
  rw [← hW]
  clear hW
  rw [HZE.out, HPE.out]
  go_wp2_with fail
  refine (EN.out _).mono ?_; rintro q w1 ⟨rfl, rfl⟩
  go_wp2_with fail
  go_loopw [13] (fun u wr => ∃ i : Nat, i ≤ N ∧ u = .int .i64 i ∧ Hid (WSt w k d x s f P Z g i wr)) (fun u _ => N - (intOf u).toNat)
  case atStart => exact ⟨0, Nat.zero_le _, rfl, HST.out⟩
  case round =>
    obtain ⟨i, hi, rfl, hq⟩ := hrel
    have HQ := Lib.hid hq.out
    clear hq HST
    have b0 : (0 : Int) ≤ (i : Int) := by omega
    by_cases hlt : i < N
    · have b1 : (i : Int) < (N : Int) := by omega
      have b2 : (i : Int) ≤ 1000 := by omega
      have HAT1 := Lib.hid (HAT.out i wr hlt HQ.out.2.2.2)
      have hf1 := HF.out i hlt
      have HFI := Lib.hid (show 0 ≤ f i ∧ f i < 256 from ⟨by omega, by omega⟩)
      have c1 : f i / 256 = 0 := by omega
      have c2 : f i % 256 = f i := by omega
      have c3 : 0 ≤ f i := by omega
      have c4 : f i < 64 := by omega
      clear hf1
      go_wp2_with fail
      refine HAT1.out.mono ?_; rintro q w2 ⟨rfl, hb⟩
      have HQ2 := Lib.hid (HQ.out.kept hb)
      clear hb HQ HAT1
      have y0 := HQ2.out.2.2.1.cell (i := i * 2) (by rw [bytS_length (by omega)]; omega)
      have y1 := HQ2.out.2.2.1.cell (i := i * 2 + 1) (by rw [bytS_length (by omega)]; omega)
      have z0 := HQ2.out.2.2.1.free (i * 2)
      have z1 := HQ2.out.2.2.1.free (i * 2 + 1)
      go_wp2_with fail
      clear y0 y1 z0 z1 c1 c2 c3 c4
      go_roundw
      case rel => exact ⟨i + 1, by omega, by go_num, HQ2.out.step (by omega) HFI.out HG.out⟩
      case measure => simp [intOf]; omega
    · obtain rfl : N = i := by omega
      have b1 : ¬ (N : Int) < (N : Int) := by omega
      have hby := HQ.out.2.2.1
      have hbl := bytS_length (f := f) (show N ≤ 120 by omega)
      rw [HE.out] at hby hbl
      have CV := Lib.hid (fun (w' : World) (h : Byt w' g (mkD (tabF f N))) => (show (convert 93 9 (.slice (some ⟨g, 0, none⟩) 240 240)).run Try.prog w' = .ok (.string s2) w' from by
        have := Byt.string (w := w') h
        rw [hbl, ← HS2.out] at this
        exact this))
      have HKB := Lib.hid (fun (w' : World) (u : Value) (h : Byt w' g (mkD (tabF f N))) => (show Byt (w'.setCell ⟨P, 1, none⟩ u) g (mkD (tabF f N)) from h.heap (Below.heap_setCell _ _ _ _ (Ne.symm HG.out.1))))
      have HKC := Lib.hid (fun (w' : World) (u : Value) (h : Byt w' g (mkD (tabF f N))) => (show Byt (w'.setCell ⟨P, 3, none⟩ u) g (mkD (tabF f N)) from h.heap (Below.heap_setCell _ _ _ _ (Ne.symm HG.out.1))))
      have HBY := Lib.hid (show Byt wr.drew g (mkD (tabF f N)) from hby)
      generalize mkD (tabF f N) = BB at *
      clear hby hbl
      have x1 : wr.drew.cell? ⟨P, 1, none⟩ = some (.int .i64 d) := HQ.out.1.cells.2.1
      have f1 : wr.drew.frozen? ⟨P, 1, none⟩ = false := HQ.out.1.free.2.1
      have x3 : (wr.setCell ⟨P, 1, none⟩ (.int .i64 e)).drew.cell? ⟨P, 3, none⟩ = some (.string s) := (HQ.out.1.setD e).cells.2.2.2
      have f3 : (wr.setCell ⟨P, 1, none⟩ (.int .i64 e)).drew.frozen? ⟨P, 3, none⟩ = false := (HQ.out.1.setD e).free.2.2.2
      have HP3 := Lib.hid (HQ.out.1.set2 (e : Int) s2).drew
      have HZ3 := Lib.hid (show PBox (((wr.setCell ⟨P, 1, none⟩ (.int .i64 e)).setCell ⟨P, 3, none⟩ (.string s2)).drew) Z 0 0 0 ⟨#[]⟩ from HQ.out.2.1.heap (heap_set2 _ _ _ _ _ _ _ (Ne.symm HPZ.out)))
      have HB3 := Lib.hid (below_set2 (i1 := 1) (i2 := 3) (u1 := .int .i64 e) (u2 := .string s2) HQ.out.2.2.2 HL.out.1).drew
      clear HQ
      go_wp2_with fail
      refine wp_region_noPanic ?_
      refine wp_region_held_drew (S := fun w9 => Byt w9 g BB) (by kernel_rfl) ?_ (fun hHeld => ?_)
      · exact HBY.out
      refine wpAnyH_take (i := 0) (oi := { dst := some 34, op := Op.move (Operand.tmp 1), type := 3, pos := "dir.go:127", after := #[], guard := none }) (v := .int .i64 e) rfl (by kernel_rfl) (by kernel_rfl) (by kernel_rfl) (fun _ _ _ h => h) (Or.inl ⟨by rfl, fun w' hSw => by ((try dsimp only at hSw); go_simp)⟩) (by assumption) ?_
      (try simp only [Act.put, List.setIfInBounds_toArray, List.set_cons_zero, List.set_cons_succ])
      refine wpAnyH_take (i := 1) (oi := { dst := some 35, op := Op.move (Operand.tmp 7), type := 93, pos := "dir.go:127", after := #[{ on := 4, ground := Ground.gcOnly Go.Departure.lateStores }], guard := none }) (v := .slice (some ⟨g, 0, none⟩) 240 240) rfl (by kernel_rfl) (by kernel_rfl) (by kernel_rfl) (fun _ _ _ h => h) (Or.inl ⟨by rfl, fun w' hSw => by ((try dsimp only at hSw); go_simp)⟩) (by assumption) ?_
      (try simp only [Act.put, List.setIfInBounds_toArray, List.set_cons_zero, List.set_cons_succ])
      refine wpAnyH_take (i := 2) (oi := { dst := some 36, op := Op.convert 93 9 (Operand.tmp 35), type := 9, pos := "dir.go:127", after := #[{ on := 1, ground := Ground.data }, { on := 4, ground := Ground.gcOnly Go.Departure.lateStores }], guard := none }) (v := .string s2) rfl (by kernel_rfl) (by kernel_rfl) (by kernel_rfl) (fun _ _ _ h => h) (Or.inl ⟨by rfl, fun w' hSw => by ((try dsimp only at hSw); have := CV.out _ hSw; go_simp)⟩) (by assumption) ?_
      (try simp only [Act.put, List.setIfInBounds_toArray, List.set_cons_zero, List.set_cons_succ])
      refine wpAnyH_take (i := 3) (oi := { dst := some 37, op := Op.fieldAddr 23 (Operand.tmp 3) 1, type := 0, pos := "dir.go:127", after := #[{ on := 0, ground := Ground.phase }, { on := 1, ground := Ground.textOnly Go.Departure.lateStores }, { on := 2, ground := Ground.textOnly Go.Departure.lateStores }], guard := none }) (v := .pointer (some ⟨P, 1, none⟩)) rfl (by kernel_rfl) (by kernel_rfl) (by kernel_rfl) (fun _ _ _ h => h) (Or.inl ⟨by rfl, fun w' hSw => by ((try dsimp only at hSw); go_simp)⟩) (by assumption) ?_
      (try simp only [Act.put, List.setIfInBounds_toArray, List.set_cons_zero, List.set_cons_succ])
      refine wpAnyH_ready (rs := [4]) (by kernel_rfl) (by simp) ?_
      refine AllReadyH.cons (o := { dst := none, op := Op.store 3 (Operand.tmp 37) (Operand.tmp 34), type := 0, pos := "dir.go:127", after := #[{ on := 3, ground := Ground.data }, { on := 0, ground := Ground.data }, { on := 0, ground := Ground.phase }, { on := 1, ground := Ground.textOnly Go.Departure.lateStores }, { on := 2, ground := Ground.textOnly Go.Departure.lateStores }], guard := none }) rfl (fun K hK => ?_) ?_
      · go_simp
        refine hK.out _ _ ?_ (fun hHeld => ?_)
        · exact HKB.out _ _ (by assumption)
        clear hK K
        (try simp only [Act.put, List.setIfInBounds_toArray, List.set_cons_zero, List.set_cons_succ])
        refine wpAnyH_take (i := 5) (oi := { dst := some 38, op := Op.fieldAddr 23 (Operand.tmp 3) 3, type := 0, pos := "dir.go:127", after := #[{ on := 0, ground := Ground.phase }, { on := 1, ground := Ground.phase }, { on := 2, ground := Ground.phase }, { on := 3, ground := Ground.phase }, { on := 4, ground := Ground.phase }], guard := none }) (v := .pointer (some ⟨P, 3, none⟩)) rfl (by kernel_rfl) (by kernel_rfl) (by kernel_rfl) (fun _ _ _ h => h) (Or.inl ⟨by rfl, fun w' hSw => by ((try dsimp only at hSw); go_simp)⟩) (by assumption) ?_
        (try simp only [Act.put, List.setIfInBounds_toArray, List.set_cons_zero, List.set_cons_succ])
        refine wpAnyH_ready (rs := [6]) (by kernel_rfl) (by simp) ?_
        refine AllReadyH.cons (o := { dst := none, op := Op.store 9 (Operand.tmp 38) (Operand.tmp 36), type := 0, pos := "dir.go:127", after := #[{ on := 5, ground := Ground.data }, { on := 2, ground := Ground.data }, { on := 4, ground := Ground.chain }, { on := 0, ground := Ground.phase }, { on := 1, ground := Ground.phase }, { on := 2, ground := Ground.phase }, { on := 3, ground := Ground.phase }, { on := 4, ground := Ground.phase }], guard := none }) rfl (fun K hK => ?_) ?_
        · go_simp
          refine hK.out _ _ ?_ (fun hHeld => ?_)
          · exact HKC.out _ _ (by assumption)
          clear hK K
          (try simp only [Act.put, List.setIfInBounds_toArray, List.set_cons_zero, List.set_cons_succ])
          refine wpAnyH_done (by kernel_rfl) ?_ _
          refine NoPanic.normal ?_
          generalize ((wr.setCell ⟨P, 1, none⟩ (.int .i64 e)).setCell ⟨P, 3, none⟩ (.string s2)).drew = V at *
          clear x1 x3 f1 f3 hHeld
          obtain ⟨⟨x0, x1, x2, x3⟩, f0, f1, f2, f3⟩ := And.intro HP3.out.cells HP3.out.free
          obtain ⟨⟨y0, y1, y2, y3⟩, g0, g1, g2, g3⟩ := And.intro HZ3.out.cells HZ3.out.free
          go_wp2_with fail
          have HZ4 := Lib.hid (HZ3.out.set4 k e x s2)
          obtain ⟨z0, z1, z2, z3⟩ := HZ4.out.cells
          refine bodyPost_ret (v := .agg #[.int .i64 k, .int .i64 e, .int .i64 x, .string s2]) (by simp [results, Try.results22, go_sem, z0, z1, z2, z3]) rfl ⟨rfl, ?_⟩
          exact below_set4 HB3.out HL.out.2
        exact AllReadyH.nil
      exact AllReadyH.nil
set_option maxHeartbeats 2000000 in
theorem with_uat (k d x : Int) (b : BA) (e : Nat) (v : Value) (f : Nat → Int) (he : e ≤ 5) (hf : ∀ i, i < 2 ^ e → 2 ≤ f i ∧ f i < 64) (w : World)
    (hat : ∀ (i : Nat) (w' : World), i < 2 ^ e → Below w.heap.size w w' → Calls Try.prog 31 #[v, .int .i64 i] w' fun e w'' => e = .returned (.int .i64 (f i)) ∧ Below w'.heap.size w' w'') :
    Calls Try.prog 22 #[pv k d x b, .int .i64 e, .func (.func 31) #[v] #[]] w fun q w' => q = .returned (pv k e x (mkD (tabF f (2 ^ e)))) ∧ Below w.heap.size w w' := by
  have H0 := Lib.hid (two_start w k d x (str b))
  have EN := Lib.hid (entries_any e (by omega))
  have hp := pow_le he
  have HE := Lib.hid (bytS_end (f := f) (e := e))
  unfold pv
  generalize str b = s at *
  obtain ⟨s2, hs2⟩ : ∃ s2, s2 = str (mkD (tabF f (2 ^ e))) := ⟨_, rfl⟩
  rw [← hs2]
  have HS2 := Lib.hid hs2
  clear hs2
  generalize 2 ^ e = N at *
  have HAT := Lib.hid hat
  have HF := Lib.hid hf
  have hp1 := hp.1
  have hp2 := hp.2
  clear hat hf hp
  obtain ⟨W0, hW⟩ : ∃ W0, W0 = (w.alloc (.cells #[.int .i64 k, .int .i64 d, .int .i64 x, .string s] 23)).alloc (.cells #[.int .i64 0, .int .i64 0, .int .i64 0, .string ⟨#[]⟩] 23) := ⟨_, rfl⟩
  rw [← hW] at H0
  obtain ⟨P, hP⟩ : ∃ P, P = w.heap.size := ⟨_, rfl⟩
  obtain ⟨Z, hZ⟩ : ∃ Z, Z = w.heap.size + 1 := ⟨_, rfl⟩
  rw [← hZ, ← hP] at H0
  have HPE := Lib.hid hP.symm
  have HZE := Lib.hid hZ.symm
  have HL := Lib.hid (show w.heap.size ≤ P ∧ w.heap.size ≤ Z from ⟨by omega, by omega⟩)
  have HPZ := Lib.hid (show P ≠ Z by omega)
  clear hP hZ
  obtain ⟨W1, hmk, hby, hbl⟩ := make_byt 240 (by omega) W0
  rw [show ((240 : Nat) : Int) = 240 from rfl] at hmk
  obtain ⟨g, hg⟩ : ∃ g, g = W0.heap.size := ⟨_, rfl⟩
  have HG := Lib.hid (show P ≠ g ∧ Z ≠ g ∧ w.heap.size ≤ g from by
    have h1 := H0.out.1.lt
    have h2 := H0.out.2.1.lt
    have h3 := Below.size H0.out.2.2
    have h4 := HPE.out
    rw [← hg] at h1 h2
    omega)
  rw [← hg] at hmk hby
  have HST := Lib.hid (show WSt w k d x s f P Z g 0 W1 from ⟨H0.out.1.kept hbl, H0.out.2.1.kept hbl, hby, by
    have h := H0.out.2.2
    rw [← HPE.out] at h
    exact h.trans (hbl.mono (Below.size h))⟩)
  clear hby hbl hg H0
  go_enter Try.func22, Try.ntmps22
  go_upto_region 1 with fail
  rw [← hW]
  clear hW
  rw [HZE.out, HPE.out]
  go_wp2_with fail
  refine (EN.out _).mono ?_; rintro q w1 ⟨rfl, rfl⟩
  go_wp2_with fail
  go_loopw [13] (fun u wr => ∃ i : Nat, i ≤ N ∧ u = .int .i64 i ∧ Hid (WSt w k d x s f P Z g i wr)) (fun u _ => N - (intOf u).toNat)
  case atStart => exact ⟨0, Nat.zero_le _, rfl, HST.out⟩
  case round =>
    obtain ⟨i, hi, rfl, hq⟩ := hrel
    have HQ := Lib.hid hq.out
    clear hq HST
    have b0 : (0 : Int) ≤ (i : Int) := by omega
    by_cases hlt : i < N
    · have b1 : (i : Int) < (N : Int) := by omega
      have b2 : (i : Int) ≤ 1000 := by omega
      have HAT1 := Lib.hid (HAT.out i wr hlt HQ.out.2.2.2)
      have hf1 := HF.out i hlt
      have HFI := Lib.hid (show 0 ≤ f i ∧ f i < 256 from ⟨by omega, by omega⟩)
      have c1 : f i / 256 = 0 := by omega
      have c2 : f i % 256 = f i := by omega
      have c3 : 0 ≤ f i := by omega
      have c4 : f i < 64 := by omega
      clear hf1
      go_wp2_with fail
      refine HAT1.out.mono ?_; rintro q w2 ⟨rfl, hb⟩
      have HQ2 := Lib.hid (HQ.out.kept hb)
      clear hb HQ HAT1
      have y0 := HQ2.out.2.2.1.cell (i := i * 2) (by rw [bytS_length (by omega)]; omega)
      have y1 := HQ2.out.2.2.1.cell (i := i * 2 + 1) (by rw [bytS_length (by omega)]; omega)
      have z0 := HQ2.out.2.2.1.free (i * 2)
      have z1 := HQ2.out.2.2.1.free (i * 2 + 1)
      go_wp2_with fail
      clear y0 y1 z0 z1 c1 c2 c3 c4
      go_roundw
      case rel => exact ⟨i + 1, by omega, by go_num, HQ2.out.step (by omega) HFI.out HG.out⟩
      case measure => simp [intOf]; omega
    · obtain rfl : N = i := by omega
      have b1 : ¬ (N : Int) < (N : Int) := by omega
      have hby := HQ.out.2.2.1
      have hbl := bytS_length (f := f) (show N ≤ 120 by omega)
      rw [HE.out] at hby hbl
      have CV := Lib.hid (fun (w' : World) (h : Byt w' g (mkD (tabF f N))) => (show (convert 93 9 (.slice (some ⟨g, 0, none⟩) 240 240)).run Try.prog w' = .ok (.string s2) w' from by
        have := Byt.string (w := w') h
        rw [hbl, ← HS2.out] at this
        exact this))
      have HKB := Lib.hid (fun (w' : World) (u : Value) (h : Byt w' g (mkD (tabF f N))) => (show Byt (w'.setCell ⟨P, 1, none⟩ u) g (mkD (tabF f N)) from h.heap (Below.heap_setCell _ _ _ _ (Ne.symm HG.out.1))))
      have HKC := Lib.hid (fun (w' : World) (u : Value) (h : Byt w' g (mkD (tabF f N))) => (show Byt (w'.setCell ⟨P, 3, none⟩ u) g (mkD (tabF f N)) from h.heap (Below.heap_setCell _ _ _ _ (Ne.symm HG.out.1))))
      have HBY := Lib.hid (show Byt wr.drew g (mkD (tabF f N)) from hby)
      generalize mkD (tabF f N) = BB at *
      clear hby hbl
      have x1 : wr.drew.cell? ⟨P, 1, none⟩ = some (.int .i64 d) := HQ.out.1.cells.2.1
      have f1 : wr.drew.frozen? ⟨P, 1, none⟩ = false := HQ.out.1.free.2.1
      have x3 : (wr.setCell ⟨P, 1, none⟩ (.int .i64 e)).drew.cell? ⟨P, 3, none⟩ = some (.string s) := (HQ.out.1.setD e).cells.2.2.2
      have f3 : (wr.setCell ⟨P, 1, none⟩ (.int .i64 e)).drew.frozen? ⟨P, 3, none⟩ = false := (HQ.out.1.setD e).free.2.2.2
      have HP3 := Lib.hid (HQ.out.1.set2 (e : Int) s2).drew
      have HZ3 := Lib.hid (show PBox (((wr.setCell ⟨P, 1, none⟩ (.int .i64 e)).setCell ⟨P, 3, none⟩ (.string s2)).drew) Z 0 0 0 ⟨#[]⟩ from HQ.out.2.1.heap (heap_set2 _ _ _ _ _ _ _ (Ne.symm HPZ.out)))
      have HB3 := Lib.hid (below_set2 (i1 := 1) (i2 := 3) (u1 := .int .i64 e) (u2 := .string s2) HQ.out.2.2.2 HL.out.1).drew
      clear HQ
      go_wp2_with fail
      refine wp_region_noPanic ?_
      refine wp_region_held_drew (S := fun w9 => Byt w9 g BB) (by kernel_rfl) ?_ (fun hHeld => ?_)
      · exact HBY.out
      refine wpAnyH_take (i := 0) (oi := { dst := some 34, op := Op.move (Operand.tmp 1), type := 3, pos := "dir.go:127", after := #[], guard := none }) (v := .int .i64 e) rfl (by kernel_rfl) (by kernel_rfl) (by kernel_rfl) (fun _ _ _ h => h) (Or.inl ⟨by rfl, fun w' hSw => by ((try dsimp only at hSw); go_simp)⟩) (by assumption) ?_
      (try simp only [Act.put, List.setIfInBounds_toArray, List.set_cons_zero, List.set_cons_succ])
      refine wpAnyH_take (i := 1) (oi := { dst := some 35, op := Op.move (Operand.tmp 7), type := 93, pos := "dir.go:127", after := #[{ on := 4, ground := Ground.gcOnly Go.Departure.lateStores }], guard := none }) (v := .slice (some ⟨g, 0, none⟩) 240 240) rfl (by kernel_rfl) (by kernel_rfl) (by kernel_rfl) (fun _ _ _ h => h) (Or.inl ⟨by rfl, fun w' hSw => by ((try dsimp only at hSw); go_simp)⟩) (by assumption) ?_
      (try simp only [Act.put, List.setIfInBounds_toArray, List.set_cons_zero, List.set_cons_succ])
      refine wpAnyH_take (i := 2) (oi := { dst := some 36, op := Op.convert 93 9 (Operand.tmp 35), type := 9, pos := "dir.go:127", after := #[{ on := 1, ground := Ground.data }, { on := 4, ground := Ground.gcOnly Go.Departure.lateStores }], guard := none }) (v := .string s2) rfl (by kernel_rfl) (by kernel_rfl) (by kernel_rfl) (fun _ _ _ h => h) (Or.inl ⟨by rfl, fun w' hSw => by ((try dsimp only at hSw); have := CV.out _ hSw; go_simp)⟩) (by assumption) ?_
      (try simp only [Act.put, List.setIfInBounds_toArray, List.set_cons_zero, List.set_cons_succ])
      refine wpAnyH_take (i := 3) (oi := { dst := some 37, op := Op.fieldAddr 23 (Operand.tmp 3) 1, type := 0, pos := "dir.go:127", after := #[{ on := 0, ground := Ground.phase }, { on := 1, ground := Ground.textOnly Go.Departure.lateStores }, { on := 2, ground := Ground.textOnly Go.Departure.lateStores }], guard := none }) (v := .pointer (some ⟨P, 1, none⟩)) rfl (by kernel_rfl) (by kernel_rfl) (by kernel_rfl) (fun _ _ _ h => h) (Or.inl ⟨by rfl, fun w' hSw => by ((try dsimp only at hSw); go_simp)⟩) (by assumption) ?_
      (try simp only [Act.put, List.setIfInBounds_toArray, List.set_cons_zero, List.set_cons_succ])
      refine wpAnyH_ready (rs := [4]) (by kernel_rfl) (by simp) ?_
      refine AllReadyH.cons (o := { dst := none, op := Op.store 3 (Operand.tmp 37) (Operand.tmp 34), type := 0, pos := "dir.go:127", after := #[{ on := 3, ground := Ground.data }, { on := 0, ground := Ground.data }, { on := 0, ground := Ground.phase }, { on := 1, ground := Ground.textOnly Go.Departure.lateStores }, { on := 2, ground := Ground.textOnly Go.Departure.lateStores }], guard := none }) rfl (fun K hK => ?_) ?_
      · go_simp
        refine hK.out _ _ ?_ (fun hHeld => ?_)
        · exact HKB.out _ _ (by assumption)
        clear hK K
        (try simp only [Act.put, List.setIfInBounds_toArray, List.set_cons_zero, List.set_cons_succ])
        refine wpAnyH_take (i := 5) (oi := { dst := some 38, op := Op.fieldAddr 23 (Operand.tmp 3) 3, type := 0, pos := "dir.go:127", after := #[{ on := 0, ground := Ground.phase }, { on := 1, ground := Ground.phase }, { on := 2, ground := Ground.phase }, { on := 3, ground := Ground.phase }, { on := 4, ground := Ground.phase }], guard := none }) (v := .pointer (some ⟨P, 3, none⟩)) rfl (by kernel_rfl) (by kernel_rfl) (by kernel_rfl) (fun _ _ _ h => h) (Or.inl ⟨by rfl, fun w' hSw => by ((try dsimp only at hSw); go_simp)⟩) (by assumption) ?_
        (try simp only [Act.put, List.setIfInBounds_toArray, List.set_cons_zero, List.set_cons_succ])
        refine wpAnyH_ready (rs := [6]) (by kernel_rfl) (by simp) ?_
        refine AllReadyH.cons (o := { dst := none, op := Op.store 9 (Operand.tmp 38) (Operand.tmp 36), type := 0, pos := "dir.go:127", after := #[{ on := 5, ground := Ground.data }, { on := 2, ground := Ground.data }, { on := 4, ground := Ground.chain }, { on := 0, ground := Ground.phase }, { on := 1, ground := Ground.phase }, { on := 2, ground := Ground.phase }, { on := 3, ground := Ground.phase }, { on := 4, ground := Ground.phase }], guard := none }) rfl (fun K hK => ?_) ?_
        · go_simp
          refine hK.out _ _ ?_ (fun hHeld => ?_)
          · exact HKC.out _ _ (by assumption)
          clear hK K
          (try simp only [Act.put, List.setIfInBounds_toArray, List.set_cons_zero, List.set_cons_succ])
          refine wpAnyH_done (by kernel_rfl) ?_ _
          refine NoPanic.normal ?_
          generalize ((wr.setCell ⟨P, 1, none⟩ (.int .i64 e)).setCell ⟨P, 3, none⟩ (.string s2)).drew = V at *
          clear x1 x3 f1 f3 hHeld
          obtain ⟨⟨x0, x1, x2, x3⟩, f0, f1, f2, f3⟩ := And.intro HP3.out.cells HP3.out.free
          obtain ⟨⟨y0, y1, y2, y3⟩, g0, g1, g2, g3⟩ := And.intro HZ3.out.cells HZ3.out.free
          go_wp2_with fail
          have HZ4 := Lib.hid (HZ3.out.set4 k e x s2)
          obtain ⟨z0, z1, z2, z3⟩ := HZ4.out.cells
          refine bodyPost_ret (v := .agg #[.int .i64 k, .int .i64 e, .int .i64 x, .string s2]) (by simp [results, Try.results22, go_sem, z0, z1, z2, z3]) rfl ⟨rfl, ?_⟩
          exact below_set4 HB3.out HL.out.2
        exact AllReadyH.nil
      exact AllReadyH.nil
end Go.Proofs.Ytojfnafahlpjjaa
