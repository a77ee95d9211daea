/- The contract of chosen, with each of the methods that it is called with. -/
import Derived.Test.YtljegjcajlkgiaaGreatMethods
import Derived.Test.YtljegjcajlkgiaaGreatRead
import Derived.Deep.RegionHeld3
namespace Go.Proofs.YtljegjcajlkgiaaGreat
open Go.ChangeShapes Go.WideShapes Go.ChangeAt Go.RowKit
set_option linter.unusedVariables false
set_option linter.unusedSimpArgs false
set_option maxRecDepth 100000
def NewL (l : List Ce) (w : World) (e : Ending) (w' : World) : Prop := ∃ A c, e = .returned (.slice A l.length c) ∧ Own w.heap.size w' (.slice A l.length c) l ∧ Below w.heap.size w w'
/-- A cell's box stays as it is. -/
def BoxS (B : Nat) (w0 : World) (c : Ce) (w : World) : Prop := Box w B (.string c.key) (.string c.val) (.int .i64 c.blob) (.int .i64 c.size) ∧ Below B w0 w
theorem BoxS.call {B : Nat} {w0 w w' : World} {c : Ce} (h : BoxS B w0 c w) (hb : Below w.heap.size w w') : BoxS B w0 c w' := ⟨h.1.kept hb, h.2.trans (hb.mono (Nat.le_of_lt h.1.lt))⟩
theorem BoxS.cells {B : Nat} {w0 w : World} {c : Ce} (h : BoxS B w0 c w) : (w.cell? ⟨B, 0, none⟩ = some (.string c.key) ∧ w.cell? ⟨B, 1, none⟩ = some (.string c.val) ∧ w.cell? ⟨B, 2, none⟩ = some (.int .i64 c.blob) ∧ w.cell? ⟨B, 3, none⟩ = some (.int .i64 c.size)) := h.1.cells
theorem BoxS.set {B i : Nat} {w0 w : World} {c : Ce} {u : Value} (h : BoxS B w0 c w) (hu : (ccell c)[i]? = some u) : BoxS B w0 c (w.setCell ⟨B, i, none⟩ u) := by
  obtain ⟨h1, h2⟩ := h
  refine ⟨?_, h2.os, h2.tape, h2.output, by rw [World.size_setCell]; exact h2.size, fun k hk => ?_⟩
  · unfold Box at h1 ⊢
    rcases i with _ | _ | _ | _ | i
    · simp only [ccell, List.getElem?_cons_zero, Option.some.injEq] at hu; subst hu; simp [World.setCell, Array.getElem?_modify, h1]
    · simp only [ccell, List.getElem?_cons_succ, List.getElem?_cons_zero, Option.some.injEq] at hu; subst hu; simp [World.setCell, Array.getElem?_modify, h1]
    · simp only [ccell, List.getElem?_cons_succ, List.getElem?_cons_zero, Option.some.injEq] at hu; subst hu; simp [World.setCell, Array.getElem?_modify, h1]
    · simp only [ccell, List.getElem?_cons_succ, List.getElem?_cons_zero, Option.some.injEq] at hu; subst hu; simp [World.setCell, Array.getElem?_modify, h1]
    · simp [ccell] at hu
  · rw [Below.heap_setCell _ _ _ _ (show k ≠ B by omega)]
    exact h2.block k hk
theorem take_filter {l : List Ce} {k : Nat} (hk : k < l.length) (p : Ce → Bool) : (l.take (k + 1)).filter p = (l.take k).filter p ++ (if p (l.getD k nilC) then [l.getD k nilC] else []) := by
  rw [take_snoc l k hk, List.filter_append]
  congr 1
  rw [List.filter_cons]
  rfl

set_option maxHeartbeats 2000000 in
theorem chosen_after {C n c : Nat} {A : Option Addr} {l : List Ce} (q : ByteArray) (w : World) (h : Ces C w A l) (hn : l.length = n) (hm : n ≤ 1000000) (hs : ∀ p ∈ l, p.key.size ≤ 281474976710656 ∧ p.val.size ≤ 281474976710656) (hC : C ≤ w.heap.size) :
    Calls Tryz.prog 25 #[.slice A n c, .func (.func 26) #[.string q] #[]] w fun e w' => NewL (l.filter (afterB q)) w e w' := by
  obtain ⟨i0, hi, hz0, hz1, hz2⟩ := info_parts info_c
  have HP := Lib.hid h
  have HN := Lib.hid hn
  have HC := Lib.hid hC
  have HS := Lib.hid hs
  have hN : (n : Int) ≤ 1000000 := by omega
  clear h hn hC hs
  go_enter Tryz.func25, Tryz.ntmps25
  go_wp2_with fail
  go_loopw [5, 10] (fun v x wr => ∃ k : Nat, k ≤ n ∧ x = .int .i64 k ∧ ∃ A2 m c2, v = .slice A2 m c2 ∧ Hid (((l.take k).filter (afterB q)).length = m ∧ wr.ownsRow w.heap.size 42 4 (.slice A2 m c2) m (ccs ((l.take k).filter (afterB q))) ∧ Below w.heap.size w wr)) (fun _ x _ => n - (intOf x).toNat)
  case atStart => exact ⟨0, Nat.zero_le _, rfl, none, 0, 0, rfl, rfl, World.ownsRow_nil _ _ _ _, Below.refl _ _⟩
  case round =>
    obtain ⟨k, hk, rfl, A2, m, c2, rfl, hq⟩ := hrel
    have HQ := Lib.hid hq
    clear hq
    by_cases hlt : k < n
    · obtain ⟨b, off, rfl, hb, hp⟩ := HP.out.1 k (by rw [HN.out]; omega)
      obtain ⟨c0, c1, c2', c3⟩ := hp.kept (w' := wr) (Nat.lt_of_lt_of_le hb HC.out) HQ.out.out.2.2
      have hsz := HS.out _ (getD_mem (show k < l.length by rw [HN.out]; exact hlt))
      have hszm := HP.out.2.1 _ (getD_mem (show k < l.length by rw [HN.out]; exact hlt))
      have CK := Lib.hid (fun w => clone_any (l.getD k nilC).key hsz.1 w)
      have CV := Lib.hid (fun w => clone_any (l.getD k nilC).val hsz.2 w)
      have IS := Lib.hid (fun w => after_any q (l.getD k nilC)  w)
      have HT := Lib.hid (take_filter (l := l) (k := k) (by rw [HN.out]; exact hlt) (afterB q))
      have HM := Lib.hid (show m ≤ k by
        have h1 := HQ.out.out.1
        have h2 := List.length_filter_le (afterB q) (l.take k)
        rw [List.length_take] at h2
        omega)
      clear hb hp hsz hszm
      generalize l.getD k nilC = x at *
      have b1 : (0 : Int) ≤ (k : Int) := by omega
      have b2 : (k : Int) < (n : Int) := by omega
      have HX := Lib.hid (Box.new wr (.string x.key) (.string x.val) (.int .i64 x.blob) (.int .i64 x.size))
      have HA := Lib.hid ((Below.refl wr.heap.size wr).alloc (Nat.le_refl _) (.cells #[.string x.key, .string x.val, .int .i64 x.blob, .int .i64 x.size] 42))
      have HO := Lib.hid (show (wr.alloc (.cells #[.string x.key, .string x.val, .int .i64 x.blob, .int .i64 x.size] 42)).ownsRow w.heap.size 42 4 (.slice A2 m c2) m (ccs ((l.take k).filter (afterB q))) from HQ.out.out.2.1.alloc _)
      have HOW := Lib.hid (fun g (hg : (Value.slice A2 m c2).ownBlock = some g) => (HQ.out.out.2.1.lt g hg))
      have HWS := Lib.hid HQ.out.out.2.2.size
      unfold cvC cv at IS
      cases g : afterB q x with
      | false =>
        rw [g] at IS HT
        have HT2 := Lib.hid (show (l.take (k + 1)).filter (afterB q) = (l.take k).filter (afterB q) by rw [HT.out, if_neg (by simp), List.append_nil])
        clear HT CK CV
        go_wp2_with fail
        obtain ⟨B, hB⟩ : ∃ B, B = wr.heap.size := ⟨_, rfl⟩
        have HBE := Lib.hid hB
        rw [← hB] at HX HA HWS ⊢
        clear hB c0 c1 c2' c3
        generalize wr.alloc (.cells #[.string x.key, .string x.val, .int .i64 x.blob, .int .i64 x.size] 42) = W at *
        obtain ⟨x0, x1, x2, x3⟩ := HX.out.cells
        go_wp2_with fail
        refine (IS.out _).mono ?_; rintro e w1 ⟨rfl, hb⟩
        have HB := Lib.hid hb
        clear hb x0 x1 x2 x3
        go_wp2_with fail
        go_roundw
        case rel =>
          refine ⟨k + 1, by omega, by go_num, A2, m, c2, rfl, ?_⟩
          rw [HT2.out]
          refine ⟨HQ.out.out.1, owns_kept2 HO.out fun q hq => HB.out.block q (HO.out.lt q hq).2, HQ.out.out.2.2.trans ((HA.out.mono HWS.out).trans (HB.out.mono ?_))⟩
          exact Nat.le_trans HWS.out (by rw [HBE.out]; exact HA.out.size)
        case measure => simp [intOf]; omega
      | true =>
        rw [g] at IS HT
        have HT2 := Lib.hid (show (l.take (k + 1)).filter (afterB q) = (l.take k).filter (afterB q) ++ [x] by rw [HT.out, if_pos rfl])
        clear HT
        go_wp2_with fail
        obtain ⟨B, hB⟩ : ∃ B, B = wr.heap.size := ⟨_, rfl⟩
        have HBE := Lib.hid hB
        rw [← hB] at HX HA HWS HOW ⊢
        clear hB c0 c1 c2' c3
        generalize wr.alloc (.cells #[.string x.key, .string x.val, .int .i64 x.blob, .int .i64 x.size] 42) = W at *
        obtain ⟨x0, x1, x2, x3⟩ := HX.out.cells
        go_wp2_with fail
        refine (IS.out _).mono ?_; rintro e w1 ⟨rfl, hb⟩
        have hS : BoxS B wr x w1 := BoxS.call ⟨HX.out, HA.out⟩ hb
        have HS1 := Lib.hid hS
        clear hb x0 x1 x2 x3 hS
        have X0 := fun r (h : BoxS B wr x r) => h.cells.1
        have X1 := fun r (h : BoxS B wr x r) => h.cells.2.1
        have F0 := fun r (h : BoxS B wr x r) => h.1.free.1
        have F1 := fun r (h : BoxS B wr x r) => h.1.free.2.1
        go_wp2_with fail
        have ST0 := Lib.hid (fun r (h : BoxS B wr x r) => h.set (i := 0) (u := .string x.key) rfl)
        have ST1 := Lib.hid (fun r (h : BoxS B wr x r) => h.set (i := 1) (u := .string x.val) rfl)
        have HS2 := Lib.hid (HS1.out.call (Below.refl _ _).drew)
        go_region_held3 (fun w' => BoxS B wr x w') (first | assumption | exact BoxS.call (by assumption) (by assumption) | exact ST0.out _ (by assumption) | exact ST1.out _ (by assumption) | exact HS2.out) (first | (go_at_call 79; refine (CK.out _).mono ?_; rintro e u ⟨rfl, hb⟩) | (go_at_call 79; refine (CV.out _).mono ?_; rintro e u ⟨rfl, hb⟩))
        rename_i hHeld
        obtain ⟨V, hV⟩ : ∃ V, V = ((u.setCell ⟨B, 0, none⟩ (.string x.key)).setCell ⟨B, 1, none⟩ (.string x.val)) := ⟨_, rfl⟩
        rw [← hV] at hHeld ⊢
        have HV := Lib.hid hHeld
        clear hV hHeld X0 X1 F0 F1 ST0 ST1 HS2 HX HA HO
        obtain ⟨x0, x1, x2, x3⟩ := HV.out.cells
        have HBW := Lib.hid (show Below w.heap.size w V from HQ.out.out.2.2.trans (HV.out.2.mono HWS.out))
        have HO := Lib.hid (show V.ownsRow w.heap.size 42 4 (.slice A2 m c2) m (ccs ((l.take k).filter (afterB q))) from owns_kept2 HQ.out.out.2.1 fun q hq => HV.out.2.block q (HOW.out q hq).2)
        go_wp2_with (at_builtin; refine wpList_append_own _ rfl _ _ 26 rfl w.heap.size 42 i0 (.agg #[.string ⟨#[]⟩, .string ⟨#[]⟩, .int .i64 0, .int .i64 0]) 4 48 Tryz.underlying26 hi hz0 hz1 hz2 rfl (by decide) _ _ _ rfl (HO.out.alloc _) ⟨V.heap.size, 0, none⟩ 1 1 (ccell x) rfl rfl (news_four _ _ _ _ _ _) (ccell_one x) (by have := HM.out; unfold maxLen; omega) (by have := HM.out; omega) (by have := HBW.out.size; simp; omega) ?_; intro v' w3 hown hgrow _; obtain ⟨A', c', rfl⟩ := own_shape hown)
        have HN2 := Lib.hid (show Below w.heap.size w w3 from (HBW.out.alloc HBW.out.size _).grown hgrow (by have := HBW.out.size; simp; omega) (fun g hg => (HO.out.lt g hg).1))
        have HO2 := Lib.hid hown
        clear hown hgrow x0 x1 x2 x3
        go_wp2_with fail
        go_roundw
        case rel =>
          refine ⟨k + 1, by omega, by go_num, A', m + 1, c', rfl, ?_⟩
          rw [HT2.out, ccs_append, ccs_single, List.length_append]
          exact ⟨by rw [HQ.out.out.1]; rfl, HO2.out, HN2.out⟩
        case measure => simp [intOf]; omega
    · obtain rfl : n = k := by omega
      have b1 : ¬ (n : Int) < (n : Int) := by omega
      go_wp2_with fail
      go_ret
      have h1 := HQ.out.out
      rw [List.take_of_length_le (by rw [HN.out]; exact Nat.le_refl _)] at h1
      obtain ⟨h1, h2, h3⟩ := h1
      refine ⟨A2, c2, by rw [h1]; rfl, ?_, h3⟩
      unfold Own
      rw [h1]
      exact h2

set_option maxHeartbeats 2000000 in
theorem chosen_before {C n c : Nat} {A : Option Addr} {l : List Ce} (q : ByteArray) (w : World) (h : Ces C w A l) (hn : l.length = n) (hm : n ≤ 1000000) (hs : ∀ p ∈ l, p.key.size ≤ 281474976710656 ∧ p.val.size ≤ 281474976710656) (hC : C ≤ w.heap.size) :
    Calls Tryz.prog 25 #[.slice A n c, .func (.func 27) #[.string q] #[]] w fun e w' => NewL (l.filter (beforeB q)) w e w' := by
  obtain ⟨i0, hi, hz0, hz1, hz2⟩ := info_parts info_c
  have HP := Lib.hid h
  have HN := Lib.hid hn
  have HC := Lib.hid hC
  have HS := Lib.hid hs
  have hN : (n : Int) ≤ 1000000 := by omega
  clear h hn hC hs
  go_enter Tryz.func25, Tryz.ntmps25
  go_wp2_with fail
  go_loopw [5, 10] (fun v x wr => ∃ k : Nat, k ≤ n ∧ x = .int .i64 k ∧ ∃ A2 m c2, v = .slice A2 m c2 ∧ Hid (((l.take k).filter (beforeB q)).length = m ∧ wr.ownsRow w.heap.size 42 4 (.slice A2 m c2) m (ccs ((l.take k).filter (beforeB q))) ∧ Below w.heap.size w wr)) (fun _ x _ => n - (intOf x).toNat)
  case atStart => exact ⟨0, Nat.zero_le _, rfl, none, 0, 0, rfl, rfl, World.ownsRow_nil _ _ _ _, Below.refl _ _⟩
  case round =>
    obtain ⟨k, hk, rfl, A2, m, c2, rfl, hq⟩ := hrel
    have HQ := Lib.hid hq
    clear hq
    by_cases hlt : k < n
    · obtain ⟨b, off, rfl, hb, hp⟩ := HP.out.1 k (by rw [HN.out]; omega)
      obtain ⟨c0, c1, c2', c3⟩ := hp.kept (w' := wr) (Nat.lt_of_lt_of_le hb HC.out) HQ.out.out.2.2
      have hsz := HS.out _ (getD_mem (show k < l.length by rw [HN.out]; exact hlt))
      have hszm := HP.out.2.1 _ (getD_mem (show k < l.length by rw [HN.out]; exact hlt))
      have CK := Lib.hid (fun w => clone_any (l.getD k nilC).key hsz.1 w)
      have CV := Lib.hid (fun w => clone_any (l.getD k nilC).val hsz.2 w)
      have IS := Lib.hid (fun w => before_any q (l.getD k nilC)  w)
      have HT := Lib.hid (take_filter (l := l) (k := k) (by rw [HN.out]; exact hlt) (beforeB q))
      have HM := Lib.hid (show m ≤ k by
        have h1 := HQ.out.out.1
        have h2 := List.length_filter_le (beforeB q) (l.take k)
        rw [List.length_take] at h2
        omega)
      clear hb hp hsz hszm
      generalize l.getD k nilC = x at *
      have b1 : (0 : Int) ≤ (k : Int) := by omega
      have b2 : (k : Int) < (n : Int) := by omega
      have HX := Lib.hid (Box.new wr (.string x.key) (.string x.val) (.int .i64 x.blob) (.int .i64 x.size))
      have HA := Lib.hid ((Below.refl wr.heap.size wr).alloc (Nat.le_refl _) (.cells #[.string x.key, .string x.val, .int .i64 x.blob, .int .i64 x.size] 42))
      have HO := Lib.hid (show (wr.alloc (.cells #[.string x.key, .string x.val, .int .i64 x.blob, .int .i64 x.size] 42)).ownsRow w.heap.size 42 4 (.slice A2 m c2) m (ccs ((l.take k).filter (beforeB q))) from HQ.out.out.2.1.alloc _)
      have HOW := Lib.hid (fun g (hg : (Value.slice A2 m c2).ownBlock = some g) => (HQ.out.out.2.1.lt g hg))
      have HWS := Lib.hid HQ.out.out.2.2.size
      unfold cvC cv at IS
      cases g : beforeB q x with
      | false =>
        rw [g] at IS HT
        have HT2 := Lib.hid (show (l.take (k + 1)).filter (beforeB q) = (l.take k).filter (beforeB q) by rw [HT.out, if_neg (by simp), List.append_nil])
        clear HT CK CV
        go_wp2_with fail
        obtain ⟨B, hB⟩ : ∃ B, B = wr.heap.size := ⟨_, rfl⟩
        have HBE := Lib.hid hB
        rw [← hB] at HX HA HWS ⊢
        clear hB c0 c1 c2' c3
        generalize wr.alloc (.cells #[.string x.key, .string x.val, .int .i64 x.blob, .int .i64 x.size] 42) = W at *
        obtain ⟨x0, x1, x2, x3⟩ := HX.out.cells
        go_wp2_with fail
        refine (IS.out _).mono ?_; rintro e w1 ⟨rfl, hb⟩
        have HB := Lib.hid hb
        clear hb x0 x1 x2 x3
        go_wp2_with fail
        go_roundw
        case rel =>
          refine ⟨k + 1, by omega, by go_num, A2, m, c2, rfl, ?_⟩
          rw [HT2.out]
          refine ⟨HQ.out.out.1, owns_kept2 HO.out fun q hq => HB.out.block q (HO.out.lt q hq).2, HQ.out.out.2.2.trans ((HA.out.mono HWS.out).trans (HB.out.mono ?_))⟩
          exact Nat.le_trans HWS.out (by rw [HBE.out]; exact HA.out.size)
        case measure => simp [intOf]; omega
      | true =>
        rw [g] at IS HT
        have HT2 := Lib.hid (show (l.take (k + 1)).filter (beforeB q) = (l.take k).filter (beforeB q) ++ [x] by rw [HT.out, if_pos rfl])
        clear HT
        go_wp2_with fail
        obtain ⟨B, hB⟩ : ∃ B, B = wr.heap.size := ⟨_, rfl⟩
        have HBE := Lib.hid hB
        rw [← hB] at HX HA HWS HOW ⊢
        clear hB c0 c1 c2' c3
        generalize wr.alloc (.cells #[.string x.key, .string x.val, .int .i64 x.blob, .int .i64 x.size] 42) = W at *
        obtain ⟨x0, x1, x2, x3⟩ := HX.out.cells
        go_wp2_with fail
        refine (IS.out _).mono ?_; rintro e w1 ⟨rfl, hb⟩
        have hS : BoxS B wr x w1 := BoxS.call ⟨HX.out, HA.out⟩ hb
        have HS1 := Lib.hid hS
        clear hb x0 x1 x2 x3 hS
        have X0 := fun r (h : BoxS B wr x r) => h.cells.1
        have X1 := fun r (h : BoxS B wr x r) => h.cells.2.1
        have F0 := fun r (h : BoxS B wr x r) => h.1.free.1
        have F1 := fun r (h : BoxS B wr x r) => h.1.free.2.1
        go_wp2_with fail
        have ST0 := Lib.hid (fun r (h : BoxS B wr x r) => h.set (i := 0) (u := .string x.key) rfl)
        have ST1 := Lib.hid (fun r (h : BoxS B wr x r) => h.set (i := 1) (u := .string x.val) rfl)
        have HS2 := Lib.hid (HS1.out.call (Below.refl _ _).drew)
        go_region_held3 (fun w' => BoxS B wr x w') (first | assumption | exact BoxS.call (by assumption) (by assumption) | exact ST0.out _ (by assumption) | exact ST1.out _ (by assumption) | exact HS2.out) (first | (go_at_call 79; refine (CK.out _).mono ?_; rintro e u ⟨rfl, hb⟩) | (go_at_call 79; refine (CV.out _).mono ?_; rintro e u ⟨rfl, hb⟩))
        rename_i hHeld
        obtain ⟨V, hV⟩ : ∃ V, V = ((u.setCell ⟨B, 0, none⟩ (.string x.key)).setCell ⟨B, 1, none⟩ (.string x.val)) := ⟨_, rfl⟩
        rw [← hV] at hHeld ⊢
        have HV := Lib.hid hHeld
        clear hV hHeld X0 X1 F0 F1 ST0 ST1 HS2 HX HA HO
        obtain ⟨x0, x1, x2, x3⟩ := HV.out.cells
        have HBW := Lib.hid (show Below w.heap.size w V from HQ.out.out.2.2.trans (HV.out.2.mono HWS.out))
        have HO := Lib.hid (show V.ownsRow w.heap.size 42 4 (.slice A2 m c2) m (ccs ((l.take k).filter (beforeB q))) from owns_kept2 HQ.out.out.2.1 fun q hq => HV.out.2.block q (HOW.out q hq).2)
        go_wp2_with (at_builtin; refine wpList_append_own _ rfl _ _ 26 rfl w.heap.size 42 i0 (.agg #[.string ⟨#[]⟩, .string ⟨#[]⟩, .int .i64 0, .int .i64 0]) 4 48 Tryz.underlying26 hi hz0 hz1 hz2 rfl (by decide) _ _ _ rfl (HO.out.alloc _) ⟨V.heap.size, 0, none⟩ 1 1 (ccell x) rfl rfl (news_four _ _ _ _ _ _) (ccell_one x) (by have := HM.out; unfold maxLen; omega) (by have := HM.out; omega) (by have := HBW.out.size; simp; omega) ?_; intro v' w3 hown hgrow _; obtain ⟨A', c', rfl⟩ := own_shape hown)
        have HN2 := Lib.hid (show Below w.heap.size w w3 from (HBW.out.alloc HBW.out.size _).grown hgrow (by have := HBW.out.size; simp; omega) (fun g hg => (HO.out.lt g hg).1))
        have HO2 := Lib.hid hown
        clear hown hgrow x0 x1 x2 x3
        go_wp2_with fail
        go_roundw
        case rel =>
          refine ⟨k + 1, by omega, by go_num, A', m + 1, c', rfl, ?_⟩
          rw [HT2.out, ccs_append, ccs_single, List.length_append]
          exact ⟨by rw [HQ.out.out.1]; rfl, HO2.out, HN2.out⟩
        case measure => simp [intOf]; omega
    · obtain rfl : n = k := by omega
      have b1 : ¬ (n : Int) < (n : Int) := by omega
      go_wp2_with fail
      go_ret
      have h1 := HQ.out.out
      rw [List.take_of_length_le (by rw [HN.out]; exact Nat.le_refl _)] at h1
      obtain ⟨h1, h2, h3⟩ := h1
      refine ⟨A2, c2, by rw [h1]; rfl, ?_, h3⟩
      unfold Own
      rw [h1]
      exact h2

set_option maxHeartbeats 2000000 in
theorem chosen_other {C n c : Nat} {A : Option Addr} {l : List Ce} (q : ByteArray) (w : World) (h : Ces C w A l) (hn : l.length = n) (hm : n ≤ 1000000) (hs : ∀ p ∈ l, p.key.size ≤ 281474976710656 ∧ p.val.size ≤ 281474976710656) (hC : C ≤ w.heap.size) :
    Calls Tryz.prog 25 #[.slice A n c, .func (.func 32) #[.string q] #[]] w fun e w' => NewL (l.filter (otherB q)) w e w' := by
  obtain ⟨i0, hi, hz0, hz1, hz2⟩ := info_parts info_c
  have HP := Lib.hid h
  have HN := Lib.hid hn
  have HC := Lib.hid hC
  have HS := Lib.hid hs
  have hN : (n : Int) ≤ 1000000 := by omega
  clear h hn hC hs
  go_enter Tryz.func25, Tryz.ntmps25
  go_wp2_with fail
  go_loopw [5, 10] (fun v x wr => ∃ k : Nat, k ≤ n ∧ x = .int .i64 k ∧ ∃ A2 m c2, v = .slice A2 m c2 ∧ Hid (((l.take k).filter (otherB q)).length = m ∧ wr.ownsRow w.heap.size 42 4 (.slice A2 m c2) m (ccs ((l.take k).filter (otherB q))) ∧ Below w.heap.size w wr)) (fun _ x _ => n - (intOf x).toNat)
  case atStart => exact ⟨0, Nat.zero_le _, rfl, none, 0, 0, rfl, rfl, World.ownsRow_nil _ _ _ _, Below.refl _ _⟩
  case round =>
    obtain ⟨k, hk, rfl, A2, m, c2, rfl, hq⟩ := hrel
    have HQ := Lib.hid hq
    clear hq
    by_cases hlt : k < n
    · obtain ⟨b, off, rfl, hb, hp⟩ := HP.out.1 k (by rw [HN.out]; omega)
      obtain ⟨c0, c1, c2', c3⟩ := hp.kept (w' := wr) (Nat.lt_of_lt_of_le hb HC.out) HQ.out.out.2.2
      have hsz := HS.out _ (getD_mem (show k < l.length by rw [HN.out]; exact hlt))
      have hszm := HP.out.2.1 _ (getD_mem (show k < l.length by rw [HN.out]; exact hlt))
      have CK := Lib.hid (fun w => clone_any (l.getD k nilC).key hsz.1 w)
      have CV := Lib.hid (fun w => clone_any (l.getD k nilC).val hsz.2 w)
      have IS := Lib.hid (fun w => other_any q (l.getD k nilC)  w)
      have HT := Lib.hid (take_filter (l := l) (k := k) (by rw [HN.out]; exact hlt) (otherB q))
      have HM := Lib.hid (show m ≤ k by
        have h1 := HQ.out.out.1
        have h2 := List.length_filter_le (otherB q) (l.take k)
        rw [List.length_take] at h2
        omega)
      clear hb hp hsz hszm
      generalize l.getD k nilC = x at *
      have b1 : (0 : Int) ≤ (k : Int) := by omega
      have b2 : (k : Int) < (n : Int) := by omega
      have HX := Lib.hid (Box.new wr (.string x.key) (.string x.val) (.int .i64 x.blob) (.int .i64 x.size))
      have HA := Lib.hid ((Below.refl wr.heap.size wr).alloc (Nat.le_refl _) (.cells #[.string x.key, .string x.val, .int .i64 x.blob, .int .i64 x.size] 42))
      have HO := Lib.hid (show (wr.alloc (.cells #[.string x.key, .string x.val, .int .i64 x.blob, .int .i64 x.size] 42)).ownsRow w.heap.size 42 4 (.slice A2 m c2) m (ccs ((l.take k).filter (otherB q))) from HQ.out.out.2.1.alloc _)
      have HOW := Lib.hid (fun g (hg : (Value.slice A2 m c2).ownBlock = some g) => (HQ.out.out.2.1.lt g hg))
      have HWS := Lib.hid HQ.out.out.2.2.size
      unfold cvC cv at IS
      cases g : otherB q x with
      | false =>
        rw [g] at IS HT
        have HT2 := Lib.hid (show (l.take (k + 1)).filter (otherB q) = (l.take k).filter (otherB q) by rw [HT.out, if_neg (by simp), List.append_nil])
        clear HT CK CV
        go_wp2_with fail
        obtain ⟨B, hB⟩ : ∃ B, B = wr.heap.size := ⟨_, rfl⟩
        have HBE := Lib.hid hB
        rw [← hB] at HX HA HWS ⊢
        clear hB c0 c1 c2' c3
        generalize wr.alloc (.cells #[.string x.key, .string x.val, .int .i64 x.blob, .int .i64 x.size] 42) = W at *
        obtain ⟨x0, x1, x2, x3⟩ := HX.out.cells
        go_wp2_with fail
        refine (IS.out _).mono ?_; rintro e w1 ⟨rfl, hb⟩
        have HB := Lib.hid hb
        clear hb x0 x1 x2 x3
        go_wp2_with fail
        go_roundw
        case rel =>
          refine ⟨k + 1, by omega, by go_num, A2, m, c2, rfl, ?_⟩
          rw [HT2.out]
          refine ⟨HQ.out.out.1, owns_kept2 HO.out fun q hq => HB.out.block q (HO.out.lt q hq).2, HQ.out.out.2.2.trans ((HA.out.mono HWS.out).trans (HB.out.mono ?_))⟩
          exact Nat.le_trans HWS.out (by rw [HBE.out]; exact HA.out.size)
        case measure => simp [intOf]; omega
      | true =>
        rw [g] at IS HT
        have HT2 := Lib.hid (show (l.take (k + 1)).filter (otherB q) = (l.take k).filter (otherB q) ++ [x] by rw [HT.out, if_pos rfl])
        clear HT
        go_wp2_with fail
        obtain ⟨B, hB⟩ : ∃ B, B = wr.heap.size := ⟨_, rfl⟩
        have HBE := Lib.hid hB
        rw [← hB] at HX HA HWS HOW ⊢
        clear hB c0 c1 c2' c3
        generalize wr.alloc (.cells #[.string x.key, .string x.val, .int .i64 x.blob, .int .i64 x.size] 42) = W at *
        obtain ⟨x0, x1, x2, x3⟩ := HX.out.cells
        go_wp2_with fail
        refine (IS.out _).mono ?_; rintro e w1 ⟨rfl, hb⟩
        have hS : BoxS B wr x w1 := BoxS.call ⟨HX.out, HA.out⟩ hb
        have HS1 := Lib.hid hS
        clear hb x0 x1 x2 x3 hS
        have X0 := fun r (h : BoxS B wr x r) => h.cells.1
        have X1 := fun r (h : BoxS B wr x r) => h.cells.2.1
        have F0 := fun r (h : BoxS B wr x r) => h.1.free.1
        have F1 := fun r (h : BoxS B wr x r) => h.1.free.2.1
        go_wp2_with fail
        have ST0 := Lib.hid (fun r (h : BoxS B wr x r) => h.set (i := 0) (u := .string x.key) rfl)
        have ST1 := Lib.hid (fun r (h : BoxS B wr x r) => h.set (i := 1) (u := .string x.val) rfl)
        have HS2 := Lib.hid (HS1.out.call (Below.refl _ _).drew)
        go_region_held3 (fun w' => BoxS B wr x w') (first | assumption | exact BoxS.call (by assumption) (by assumption) | exact ST0.out _ (by assumption) | exact ST1.out _ (by assumption) | exact HS2.out) (first | (go_at_call 79; refine (CK.out _).mono ?_; rintro e u ⟨rfl, hb⟩) | (go_at_call 79; refine (CV.out _).mono ?_; rintro e u ⟨rfl, hb⟩))
        rename_i hHeld
        obtain ⟨V, hV⟩ : ∃ V, V = ((u.setCell ⟨B, 0, none⟩ (.string x.key)).setCell ⟨B, 1, none⟩ (.string x.val)) := ⟨_, rfl⟩
        rw [← hV] at hHeld ⊢
        have HV := Lib.hid hHeld
        clear hV hHeld X0 X1 F0 F1 ST0 ST1 HS2 HX HA HO
        obtain ⟨x0, x1, x2, x3⟩ := HV.out.cells
        have HBW := Lib.hid (show Below w.heap.size w V from HQ.out.out.2.2.trans (HV.out.2.mono HWS.out))
        have HO := Lib.hid (show V.ownsRow w.heap.size 42 4 (.slice A2 m c2) m (ccs ((l.take k).filter (otherB q))) from owns_kept2 HQ.out.out.2.1 fun q hq => HV.out.2.block q (HOW.out q hq).2)
        go_wp2_with (at_builtin; refine wpList_append_own _ rfl _ _ 26 rfl w.heap.size 42 i0 (.agg #[.string ⟨#[]⟩, .string ⟨#[]⟩, .int .i64 0, .int .i64 0]) 4 48 Tryz.underlying26 hi hz0 hz1 hz2 rfl (by decide) _ _ _ rfl (HO.out.alloc _) ⟨V.heap.size, 0, none⟩ 1 1 (ccell x) rfl rfl (news_four _ _ _ _ _ _) (ccell_one x) (by have := HM.out; unfold maxLen; omega) (by have := HM.out; omega) (by have := HBW.out.size; simp; omega) ?_; intro v' w3 hown hgrow _; obtain ⟨A', c', rfl⟩ := own_shape hown)
        have HN2 := Lib.hid (show Below w.heap.size w w3 from (HBW.out.alloc HBW.out.size _).grown hgrow (by have := HBW.out.size; simp; omega) (fun g hg => (HO.out.lt g hg).1))
        have HO2 := Lib.hid hown
        clear hown hgrow x0 x1 x2 x3
        go_wp2_with fail
        go_roundw
        case rel =>
          refine ⟨k + 1, by omega, by go_num, A', m + 1, c', rfl, ?_⟩
          rw [HT2.out, ccs_append, ccs_single, List.length_append]
          exact ⟨by rw [HQ.out.out.1]; rfl, HO2.out, HN2.out⟩
        case measure => simp [intOf]; omega
    · obtain rfl : n = k := by omega
      have b1 : ¬ (n : Int) < (n : Int) := by omega
      go_wp2_with fail
      go_ret
      have h1 := HQ.out.out
      rw [List.take_of_length_le (by rw [HN.out]; exact Nat.le_refl _)] at h1
      obtain ⟨h1, h2, h3⟩ := h1
      refine ⟨A2, c2, by rw [h1]; rfl, ?_, h3⟩
      unfold Own
      rw [h1]
      exact h2
end Go.Proofs.YtljegjcajlkgiaaGreat
