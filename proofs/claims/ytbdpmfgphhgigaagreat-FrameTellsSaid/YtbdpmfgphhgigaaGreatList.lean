/- Lists of texts: are two alike; Count, Few, stream. -/
import Derived.Test.YtbdpmfgphhgigaaGreatSmall
import Derived.BigQuiet
namespace Go.Proofs.YtbdpmfgphhgigaaGreat
open Go.ChangeShapes Go.WideShapes Go.ChangeAt Go.RowKit
set_option linter.unusedVariables false
set_option linter.unusedSimpArgs false
set_option maxRecDepth 100000
theorem toL_inj {a b : ByteArray} (h : a.toList = b.toList) : a = b := by
  rw [Lib.toList_data, Lib.toList_data] at h
  apply ByteArray.ext
  exact Array.toList_inj.1 h
theorem getD_ext {l r : List BA} (h : l.length = r.length) (hh : ∀ j, j < l.length → l.getD j [] = r.getD j []) : l = r := by
  refine List.ext_getElem h fun i h1 h2 => ?_
  have := hh i h1
  rwa [getD_at h1, getD_at h2] at this
set_option maxHeartbeats 2000000 in
theorem sameTx_is {C D n m c d : Nat} {A B : Option Addr} {l r : List BA} (w : World) (h1 : Txt C w A n l) (h2 : Txt D w B m r) :
    Calls Tryz.prog 16 #[.slice A n c, .slice B m d] w fun e w' => e = .returned (.bool (decide (l = r))) ∧ ∃ q, w' = w.drewN q := by
  have hmx := h1.2.1
  unfold maxLen at hmx
  have hN : (n : Int) ≤ 9223372036854775807 := by omega
  by_cases hnm : n = m
  · have H1 := Lib.hid h1
    have H2 := Lib.hid h2
    have HN := Lib.hid h1.1
    have HM := Lib.hid (h2.1.trans hnm.symm)
    subst hnm
    clear h1 h2 hmx
    go_enter Tryz.func16, Tryz.ntmps16
    go_wp2_with fail
    go_loopw [5] (fun x wr => ∃ k : Nat, k ≤ n ∧ x = .int .i64 k ∧ (∃ q, wr = w.drewN q) ∧ Hid (∀ j, j < k → l.getD j [] = r.getD j [])) (fun x _ => n - (intOf x).toNat)
    case atStart => exact ⟨0, Nat.zero_le _, rfl, ⟨0, rfl⟩, fun j hj => absurd hj (Nat.not_lt_zero _)⟩
    case round =>
      obtain ⟨k, hk, rfl, ⟨q, rfl⟩, hq⟩ := hrel
      have HQ := Lib.hid hq.out
      clear hq
      have b0 : (0 : Int) ≤ (k : Int) := by omega
      by_cases hlt : k < n
      · obtain ⟨b, off, rfl, _, c0, _⟩ := H1.out.2.2 k hlt
        obtain ⟨b2, off2, rfl, _, d0, _⟩ := H2.out.2.2 k hlt
        have b1 : (k : Int) < (n : Int) := by omega
        have HY := Lib.hid (fun (h : l.getD k [] = r.getD k []) => show ∀ j, j < k + 1 → l.getD j [] = r.getD j [] from fun j hj => by
          by_cases e : j < k
          · exact HQ.out j e
          · obtain rfl : j = k := by omega
            exact h)
        have HX := Lib.hid (fun (h : l.getD k [] ≠ r.getD k []) => (show decide (l = r) = false from decide_eq_false fun e => h (by rw [e])))
        have HJ := Lib.hid (fun (h : str (l.getD k []) = str (r.getD k [])) => str_inj h)
        have HK := Lib.hid (fun (h : l.getD k [] = r.getD k []) => show str (l.getD k []) = str (r.getD k []) by rw [h])
        generalize l.getD k [] = x0 at *
        generalize r.getD k [] = y0 at *
        generalize str x0 = x at *
        generalize str y0 = y at *
        by_cases g : x.toList = y.toList
        · have HG := Lib.hid (HY.out (HJ.out (toL_inj g)))
          have heq : (x.toList == y.toList) = true := by rw [beq_iff_eq]; exact g
          clear HY HX g
          go_wp2_with fail
          go_quiet (fail)
          go_wp2_with fail
          go_roundw
          case rel => exact ⟨k + 1, by omega, by go_num, ⟨_, rfl⟩, HG.out⟩
          case measure => simp [intOf] <;> omega
        · have HG := Lib.hid (HX.out (fun e => g (by rw [HK.out e])))
          have heq : (x.toList == y.toList) = false := by rw [beq_eq_false_iff_ne]; exact g
          clear HY HX g
          go_wp2_with fail
          go_quiet (fail)
          go_wp2_with fail
          go_ret
          exact ⟨by rw [HG.out]; rfl, q + nq, by simp [World.drewN, Nat.add_assoc]⟩
      · obtain rfl : k = n := by omega
        have b1 : ¬ (k : Int) < (k : Int) := by omega
        have HG := Lib.hid (show decide (l = r) = true from decide_eq_true (getD_ext (by rw [HN.out, HM.out]) (fun j hj => HQ.out j (by rw [← HN.out]; exact hj))))
        go_wp2_with fail
        go_ret
        exact ⟨by rw [HG.out]; rfl, q, rfl⟩
  · have HG := Lib.hid (show decide (l = r) = false from decide_eq_false fun e => hnm (by rw [← h1.1, ← h2.1, e]))
    have b1 : ((n : Int) == (m : Int)) = false := by rw [beq_eq_false_iff_ne]; omega
    have b2 : ¬ (n : Int) = (m : Int) := by omega
    clear h1 h2 hmx
    go_enter Tryz.func16, Tryz.ntmps16
    go_wp2_with fail
    go_ret
    exact ⟨by rw [HG.out]; rfl, 0, rfl⟩
/-! How many bytes. -/
theorem strm_take {l : List BA} {k : Nat} (h : k < l.length) : (strmB (l.take (k + 1))).length = (strmB (l.take k)).length + (2 + (l.getD k []).length) := by
  rw [take_snoc l k [] h, strmB_append, List.length_append]
  simp [strmB, recX_length]
theorem strm_le {l : List BA} (h : ∀ x ∈ l, x.length ≤ 65535) : ∀ k, k ≤ l.length → (strmB (l.take k)).length ≤ k * 65537
  | 0, _ => by simp [strmB]
  | k + 1, hk => by
    have := strm_le h k (by omega)
    have := h _ (getD_mem' [] (show k < l.length by omega))
    rw [strm_take (by omega)]
    omega
theorem cnt_ok {l : List BA} (h : ∀ x ∈ l, 1 ≤ x.length ∧ x.length ≤ 65535) : (cntB l : Int) = ((strmB l).length + 55) / 56 := by
  unfold cntB
  by_cases h0 : l = []
  · subst h0; rfl
  · rw [if_pos (strmOk_iff.2 ⟨h0, h⟩)]; omega
theorem cnt_bad {l : List BA} {k : Nat} (h : k < l.length) (hk : ¬ (1 ≤ (l.getD k []).length ∧ (l.getD k []).length ≤ 65535)) : cntB l = 0 := by
  unfold cntB
  rw [if_neg fun hh => hk ((strmOk_iff.1 hh).2 _ (getD_mem' [] h))]
set_option maxHeartbeats 2000000 in
theorem count_any {C n c : Nat} {A : Option Addr} {l : List BA} (w : World) (h : Txt C w A n l) (hn : n ≤ 1000000) :
    Calls Tryz.prog 17 #[.slice A n c] w fun e w' => e = .returned (.int .i64 (cntB l : Nat)) ∧ ∃ q, w' = w.drewN q := by
  have H1 := Lib.hid h
  have HN := Lib.hid h.1
  clear h
  go_enter Tryz.func17, Tryz.ntmps17
  go_wp2_with fail
  go_loopw [3, 8] (fun s x wr => ∃ k : Nat, k ≤ n ∧ x = .int .i64 k ∧ s = .int .i64 ((strmB (l.take k)).length : Nat) ∧ (∃ q, wr = w.drewN q) ∧ Hid (∀ j, j < k → 1 ≤ (l.getD j []).length ∧ (l.getD j []).length ≤ 65535)) (fun _ x _ => n - (intOf x).toNat)
  case atStart => exact ⟨0, Nat.zero_le _, rfl, rfl, ⟨0, rfl⟩, fun j hj => absurd hj (Nat.not_lt_zero _)⟩
  case round =>
    obtain ⟨k, hk, rfl, rfl, ⟨q, rfl⟩, hq⟩ := hrel
    have HQ := Lib.hid hq.out
    clear hq
    have b0 : (0 : Int) ≤ (k : Int) := by omega
    have hS : (strmB (l.take k)).length ≤ k * 65537 := by
      have hlen : (l.take k).length = k := by rw [List.length_take, HN.out]; omega
      have := strm_le (l := l.take k) (fun x hx => by
        obtain ⟨j, hj, rfl⟩ := List.getElem_of_mem hx
        rw [hlen] at hj
        have := (HQ.out j hj).2
        rw [getD_at (by rw [HN.out]; omega)] at this
        rw [List.getElem_take]; exact this) k (by omega)
      rwa [List.take_take, Nat.min_self] at this
    by_cases hlt : k < n
    · obtain ⟨b, off, rfl, _, c0, hmx⟩ := H1.out.2.2 k hlt
      have b1 : (k : Int) < (n : Int) := by omega
      have HT := Lib.hid (strm_take (l := l) (k := k) (by rw [HN.out]; exact hlt))
      have HBAD := Lib.hid (fun hh => cnt_bad (l := l) (k := k) (by rw [HN.out]; exact hlt) hh)
      have HGO := Lib.hid (fun hh : 1 ≤ (l.getD k []).length ∧ (l.getD k []).length ≤ 65535 => show ∀ j, j < k + 1 → 1 ≤ (l.getD j []).length ∧ (l.getD j []).length ≤ 65535 from fun j hj => by
        by_cases e : j < k
        · exact HQ.out j e
        · obtain rfl : j = k := by omega
          exact hh)
      have hz : (str (l.getD k [])).size = (l.getD k []).length := rfl
      have he : (str (l.getD k [])).toList = l.getD k [] := by rw [Lib.toList_data, str_toList]
      generalize (strmB (l.take k)).length = T0 at *
      generalize str (l.getD k []) = x at *
      generalize l.getD k [] = z0 at *
      have hzz := congrArg List.length he
      generalize hzl : z0.length = z at *
      subst hz
      unfold maxLen at hmx
      by_cases h0 : x.size = 0
      · have HB0 := Lib.hid (HBAD.out (by omega))
        have hi : x.toList = [] := List.eq_nil_of_length_eq_zero (by omega)
        have hi2 : x.toList.isEmpty = true := by rw [hi]; rfl
        clear HBAD HGO HQ HT he hzz hzl
        go_wp2_with fail
        go_ret
        exact ⟨by rw [HB0.out]; rfl, q, rfl⟩
      · have hi : ¬ x.toList = [] := fun e => by rw [e] at hzz; simp at hzz; omega
        have hi2 : x.toList.isEmpty = false := by cases h : x.toList <;> simp_all
        clear he hzz hzl
        by_cases h1 : x.size ≤ 65535
        · have HG := Lib.hid (HGO.out ⟨by omega, h1⟩)
          have h1' : ¬ (65535 : Int) < (x.size : Int) := by omega
          have e1 : IntKind.i64.wrap (2 + (x.size : Int)) = 2 + (x.size : Int) := IntWalk.i64_in _ (by omega)
          have e2 : IntKind.i64.wrap ((T0 : Int) + (2 + (x.size : Int))) = (T0 : Int) + (2 + (x.size : Int)) := IntWalk.i64_in _ (by omega)
          clear HBAD HGO HQ
          go_wp2_with fail
          go_roundw
          case rel => exact ⟨k + 1, by omega, by go_num, by rw [HT.out]; exact congrArg (Value.int .i64) (by omega), ⟨_, rfl⟩, HG.out⟩
          case measure => simp [intOf] <;> omega
        · have HB0 := Lib.hid (HBAD.out (by omega))
          have h1' : (65535 : Int) < (x.size : Int) := by omega
          clear HBAD HGO HQ HT
          go_wp2_with fail
          go_ret
          exact ⟨by rw [HB0.out]; rfl, q, rfl⟩
    · obtain rfl : k = n := by omega
      have b1 : ¬ (k : Int) < (k : Int) := by omega
      have HG := Lib.hid (cnt_ok (l := l) (fun x hx => by
        obtain ⟨j, hj, rfl⟩ := List.getElem_of_mem hx
        have := HQ.out j (by rw [← HN.out]; exact hj)
        rwa [getD_at hj] at this))
      have hT : strmB (l.take k) = strmB l := by rw [List.take_of_length_le (by rw [HN.out]; exact Nat.le_refl _)]
      rw [hT] at hS ⊢
      clear hT
      generalize (strmB l).length = T at *
      have e1 : IntKind.i64.wrap ((T : Int) + 56) = (T : Int) + 56 := IntWalk.i64_in _ (by omega)
      have e2 : IntKind.i64.wrap ((T : Int) + 56 - 1) = (T : Int) + 56 - 1 := IntWalk.i64_in _ (by omega)
      have e3 : IntKind.i64.wrap (((T : Int) + 56 - 1).tdiv 56) = ((T : Int) + 55) / 56 := by
        rw [Int.tdiv_eq_ediv_of_nonneg (by omega), IntWalk.i64_in _ (by omega)]; omega
      go_wp2_with fail
      go_ret
      exact ⟨by rw [HG.out]; rfl, q, rfl⟩
/-! Few. -/
def totL (l : List BA) : Nat := (l.map List.length).sum
theorem tot_take {l : List BA} {k : Nat} (h : k < l.length) : totL (l.take (k + 1)) = totL (l.take k) + (l.getD k []).length := by
  unfold totL
  rw [take_snoc l k [] h, List.map_append, List.sum_append]
  simp
theorem tot_le {l : List BA} {M : Nat} (h : ∀ x ∈ l, x.length ≤ M) : totL l ≤ l.length * M := by
  induction l with
  | nil => simp [totL]
  | cons x l ih =>
    have h1 := ih fun y hy => h y (List.mem_cons_of_mem _ hy)
    have h2 := h x (List.mem_cons_self ..)
    simp only [totL, List.map_cons, List.sum_cons, List.length_cons] at h1 ⊢
    rw [Nat.add_mul, Nat.one_mul]
    omega
def fewB (l : List BA) : Bool := decide (l.length ≤ 20) && decide (totL l ≤ 1500)
def w64 (x : Int) : Int := (x + 9223372036854775808) % 18446744073709551616 - 9223372036854775808
theorem w64_add (a b : Int) : w64 (w64 a + b) = w64 (a + b) := by unfold w64; omega
theorem w64_is (x : Int) : IntKind.i64.wrap x = w64 x := by rw [IntKind.wrap_i64]; rfl
set_option maxHeartbeats 2000000 in
theorem few_any {C n c : Nat} {A : Option Addr} {l : List BA} (w : World) (h : Txt C w A n l) (hs : ∀ x ∈ l, x.length ≤ 140737488351232) :
    Calls Tryz.prog 4 #[.slice A n c] w fun e w' => e = .returned (.bool (fewB l)) ∧ ∃ q, w' = w.drewN q := by
  have H1 := Lib.hid h
  have HN := Lib.hid h.1
  have hmx := h.2.1
  unfold maxLen at hmx
  have HT := Lib.hid (tot_le hs)
  clear h
  have hN : (n : Int) ≤ 9223372036854775807 := by omega
  go_enter Tryz.func4, Tryz.ntmps4
  go_wp2_with fail
  go_loopw [3, 4, 7] (fun s y x wr => ∃ k : Nat, k ≤ n ∧ x = .int .i64 k ∧ s = .int .i64 (w64 (totL (l.take k) : Nat)) ∧ (∃ q, wr = w.drewN q)) (fun _ _ x _ => n - (intOf x).toNat)
  case atStart => exact ⟨0, Nat.zero_le _, rfl, by simp [totL, w64], ⟨0, rfl⟩⟩
  case round =>
    obtain ⟨k, hk, rfl, rfl, ⟨q, rfl⟩⟩ := hrel
    have b0 : (0 : Int) ≤ (k : Int) := by omega
    by_cases hlt : k < n
    · obtain ⟨b, off, rfl, _, c0, hmx⟩ := H1.out.2.2 k hlt
      have b1 : (k : Int) < (n : Int) := by omega
      have hz : (str (l.getD k [])).size = (l.getD k []).length := rfl
      have HTT := Lib.hid (show w64 (totL (l.take (k + 1)) : Nat) = w64 (w64 (totL (l.take k) : Nat) + ((str (l.getD k [])).size : Int)) by
        rw [w64_add, tot_take (by rw [HN.out]; exact hlt), hz]; congr 1)
      have e1 := w64_is (w64 (totL (l.take k) : Nat) + ((str (l.getD k [])).size : Int))
      rw [← HTT.out] at e1
      generalize str (l.getD k []) = x at *
      generalize w64 (totL (l.take k) : Nat) = T0 at *
      clear hz hmx
      go_wp2_with fail
      go_roundw
      case rel => exact ⟨k + 1, by omega, by go_num, rfl, ⟨_, rfl⟩⟩
      case measure => simp [intOf] <;> omega
    · obtain rfl : k = n := by omega
      have b1 : ¬ (k : Int) < (k : Int) := by omega
      have hTT : totL (l.take k) = totL l := by rw [List.take_of_length_le (by rw [HN.out]; exact Nat.le_refl _)]
      rw [hTT]
      clear hTT
      by_cases h20 : k ≤ 20
      · have h2 : (k : Int) ≤ 20 := by omega
        have hT := HT.out
        rw [HN.out] at hT
        have he : w64 (totL l : Nat) = (totL l : Nat) := by
          have : k * 140737488351232 ≤ 20 * 140737488351232 := Nat.mul_le_mul_right _ h20
          unfold w64; omega
        rw [he]
        have HF := Lib.hid (show fewB l = decide ((totL l : Int) ≤ 1500) by
          unfold fewB
          rw [HN.out, decide_eq_true h20, Bool.true_and]
          exact decide_eq_decide.2 (by omega))
        clear he hT
        generalize totL l = T at *
        go_wp2_with fail
        go_ret
        exact ⟨by rw [HF.out]; rfl, q, rfl⟩
      · have h2 : ¬ (k : Int) ≤ 20 := by omega
        have HF := Lib.hid (show fewB l = false by
          unfold fewB
          rw [HN.out, decide_eq_false h20, Bool.false_and])
        go_wp2_with fail
        go_ret
        exact ⟨by rw [HF.out]; rfl, q, rfl⟩
/-! stream. -/
theorem bytes_two (n : Nat) (hn : n ≤ 65535) : bcs (w2 (n : Int)) = [.int .u8 ((n : Int) / 256), .int .u8 ((n : Int) % 256)] := by
  have h1 := byte_toNat ((n : Int) / 256) (by omega)
  have h2 := byte_toNat (n : Int) (by omega)
  simp only [w2, bcs, List.map_cons, List.map_nil, h1, h2]
  congr 2
  omega
set_option maxHeartbeats 4000000 in
theorem stream_any {C n c : Nat} {A : Option Addr} {l : List BA} (w : World) (h : Txt C w A n l) (hC : C ≤ w.heap.size) (hn : n ≤ 1000000) (hl : ∀ x ∈ l, x.length ≤ 65535) (hm : (strmB l).length ≤ 100000) :
    Calls Tryz.prog 34 #[.slice A n c] w fun e w' => ∃ v, e = .returned v ∧ w'.ownsRow w.heap.size 5 1 v (strmB l).length (bcs (strmB l)) ∧ Below w.heap.size w w' := by
  have H1 := Lib.hid h
  have HN := Lib.hid h.1
  have HL := Lib.hid hl
  have HM := Lib.hid hm
  clear h hl hm
  obtain ⟨i0, hi0, hz0, hz1, hz2⟩ := info_parts info_b
  go_enter Tryz.func34, Tryz.ntmps34
  go_wp2_with fail
  go_loopw [3, 9] (fun v x wr => ∃ k : Nat, k ≤ n ∧ x = .int .i64 k ∧ Hid (wr.ownsRow w.heap.size 5 1 v (strmB (l.take k)).length (bcs (strmB (l.take k))) ∧ Below w.heap.size w wr)) (fun _ x _ => n - (intOf x).toNat)
  case atStart => exact ⟨0, Nat.zero_le _, rfl, World.ownsRow_nil _ _ _ _, Below.refl _ _⟩
  case round =>
    obtain ⟨k, hk, rfl, hq⟩ := hrel
    have HO := Lib.hid hq.out.1
    have HB := Lib.hid hq.out.2
    clear hq
    have b0 : (0 : Int) ≤ (k : Int) := by omega
    by_cases hlt : k < n
    · obtain ⟨b, off, rfl, hbC, c00, _⟩ := H1.out.2.2 k hlt
      have c0 : wr.cell? ⟨b, off + k, none⟩ = _ := cell_kept HB.out (Nat.lt_of_lt_of_le hbC hC) c00
      clear c00
      have b1 : (k : Int) < (n : Int) := by omega
      have hz : (l.getD k []).length ≤ 65535 := HL.out _ (getD_mem' [] (by rw [HN.out]; exact hlt))
      have HT := Lib.hid (strm_take (l := l) (k := k) (by rw [HN.out]; exact hlt))
      have HS := Lib.hid (show strmB (l.take (k + 1)) = strmB (l.take k) ++ w2 ((l.getD k []).length : Int) ++ l.getD k [] by
        rw [take_snoc l k [] (by rw [HN.out]; exact hlt), strmB_append, List.append_assoc]
        simp [strmB, recX])
      have hle : (strmB (l.take (k + 1))).length ≤ 100000 := by
        have : strmB l = strmB (l.take (k + 1)) ++ strmB (l.drop (k + 1)) := by rw [← strmB_append, List.take_append_drop]
        have h2 := HM.out
        rw [this, List.length_append] at h2
        omega
      rw [HT.out] at hle
      have HW := Lib.hid (bytes_two (l.getD k []).length hz)
      have hsz : (str (l.getD k [])).size = (l.getD k []).length := rfl
      have HSC := Lib.hid (show Lib.strCells (str (l.getD k [])) = bcs (l.getD k []) from rfl)
      obtain ⟨Av, cv, rfl⟩ := own_shape HO.out
      have hown := HO.out
      generalize strmB (l.take k) = T at *
      generalize l.getD k [] = X at *
      generalize hs : str X = s at *
      go_wp2_with (at_builtin; refine wpList_append_own _ rfl (.tmp 15) (.tmp 21) 64 rfl w.heap.size 5 i0 (.int .u8 0) 1 1 Tryz.underlying64 hi0 hz0 hz1 hz2 rfl (by decide) _ _ _ rfl (hown.alloc _) ⟨wr.heap.size, 0, none⟩ 2 2 (bcs (w2 (X.length : Int))) rfl rfl ?c1 ?c2 ?c3 ?c4 ?c5 ?_)
      case c1 =>
        rw [HW.out]
        intro j u hu
        rw [add_plain, cell_of_row _ _ _ _ _ _ (heap_alloc_new wr _), Nat.zero_add]
        simpa using hu
      case c2 =>
        rw [HW.out]
        intro u hu
        simp only [List.mem_cons, List.not_mem_nil, or_false] at hu
        rcases hu with rfl | rfl <;> rfl
      case c3 => unfold maxLen; omega
      case c4 => omega
      case c5 => rw [World.size_alloc]; have := HB.out.size; omega
      intro v1 w1 hown1 hgrow1 _
      have HB1 := Lib.hid ((HB.out.alloc HB.out.size _).grown hgrow1 (by rw [World.size_alloc]; have := HB.out.size; omega) (fun g hg => (HO.out.lt g hg).1))
      have hc1 := HB1.out.size
      obtain ⟨A1, c1, rfl⟩ := own_shape hown1
      clear hgrow1 HO HB hown
      go_wp2_with (at_builtin; refine Lib.wpList_append_own_string _ rfl (.tmp 23) (.tmp 24) 64 9 rfl w.heap.size 5 i0 Tryz.underlying64 Tryz.underlying9 hi0 hz0 hz1 hz2 _ _ _ rfl hown1 s rfl ?c6 ?c7 hc1 ?_)
      case c6 => rw [hsz]; unfold maxLen; omega
      case c7 => rw [hsz]; omega
      intro v2 w2 hown2 hgrow2 _
      have HB2 := Lib.hid (HB1.out.grown hgrow2 HB1.out.size (fun g hg => (hown1.lt g hg).1))
      obtain ⟨A2, c2, rfl⟩ := own_shape hown2
      have HF := Lib.hid (show w2.ownsRow w.heap.size 5 1 (.slice A2 (T.length + 2 + X.length) c2) (strmB (l.take (k + 1))).length (bcs (strmB (l.take (k + 1)))) from by
        rw [HT.out, HS.out, bcs_append, bcs_append, ← HSC.out, show T.length + (2 + X.length) = T.length + 2 + X.length by omega, List.append_assoc]
        exact hown2)
      clear hown1 hgrow2 hown2 HB1 hc1
      go_wp2_with fail
      go_roundw
      case rel => exact ⟨k + 1, by omega, by go_num, HF.out, HB2.out⟩
      case measure => simp [intOf] <;> omega
    · obtain rfl : k = n := by omega
      have b1 : ¬ (k : Int) < (k : Int) := by omega
      have hT : strmB (l.take k) = strmB l := by rw [List.take_of_length_le (by rw [HN.out]; exact Nat.le_refl _)]
      have HX := HO.out
      rw [hT] at HX
      have HXX := Lib.hid HX
      clear HX hT
      go_wp2_with fail
      go_ret
      exact ⟨_, rfl, HXX.out, HB.out⟩
end Go.Proofs.YtbdpmfgphhgigaaGreat
