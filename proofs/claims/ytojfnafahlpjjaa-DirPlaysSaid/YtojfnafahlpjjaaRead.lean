/- The contract of read: the entries of a page, or none. -/
import Derived.Test.YtojfnafahlpjjaaWith
import Derived.Deep.RegionHeld3
namespace Go.Proofs.Ytojfnafahlpjjaa
open Go.ChangeShapes Go.WideShapes Go.ChangeAt Go.RowKit
set_option linter.unusedVariables false
set_option linter.unusedSimpArgs false
set_option maxRecDepth 100000
theorem run_ix (b : BA) (i : Nat) (hi : i < b.length) (w : World) : (Instr.index 9 (.string (str b)) (.int .i64 i)).run Try.prog w = .ok (.int .u8 ((b.getD i 0).toNat : Int)) w := by
  have hs : i < (str b).size := by rw [str_size]; exact hi
  rw [run_index_string w 9 (str b) .i64 (i : Int) Try.underlying9, dif_pos ⟨by omega, by omega⟩]
  have e : (str b)[((i : Int)).toNat]'(by omega) = b.getD i 0 := by
    rw [List.getD_eq_getElem?_getD, List.getElem?_eq_getElem hi]
    show ((str b).data[i]'_) = _
    simp [str]
  rw [e]
theorem or_add (x y : Nat) (hx : x < 256) (hy : y < 256) : bits .or .i64 ((x : Int) * 256) (y : Int) = ((x : Int) * 256 + (y : Int)) := by
  have e1 : BitVec.ofInt 64 ((x : Int) * 256) = BitVec.ofNat 64 (x * 256) := by
    rw [show ((x : Int) * 256) = ((x * 256 : Nat) : Int) by omega, BitVec.ofInt_natCast]
  have e2 : BitVec.ofInt 64 (y : Int) = BitVec.ofNat 64 y := BitVec.ofInt_natCast ..
  show IntKind.i64.wrap ((BitVec.ofInt 64 ((x : Int) * 256) ||| BitVec.ofInt 64 (y : Int)).toNat : Int) = _
  rw [e1, e2, BitVec.toNat_or, BitVec.toNat_ofNat, BitVec.toNat_ofNat, Nat.mod_eq_of_lt (by omega), Nat.mod_eq_of_lt (by omega)]
  have := Nat.shiftLeft_add_eq_or_of_lt (i := 8) (b := y) hy x
  rw [Nat.shiftLeft_eq] at this
  rw [show (2 : Nat) ^ 8 = 256 from rfl] at this
  rw [← this, show (((x * 256 + y : Nat)) : Int) = (x : Int) * 256 + (y : Int) by omega]
  exact IntWalk.i64_in _ (by omega)
/-- The table behind i rounds. -/
def tblS (b : BA) (n i : Nat) : List Int := entB b i ++ List.replicate (n - i) 0
theorem tblS_length {b : BA} {n i : Nat} (h : i ≤ n) : (tblS b n i).length = n := by unfold tblS; rw [List.length_append, entB_length, List.length_replicate]; omega
theorem tblS_zero (b : BA) (n : Nat) : List.replicate n 0 = tblS b n 0 := rfl
theorem tblS_end (b : BA) (n : Nat) : tblS b n n = entB b n := by unfold tblS; rw [Nat.sub_self]; simp
theorem tblS_step {b : BA} {n i : Nat} (h : i < n) : (tblS b n i).set i (numAt b i) = tblS b n (i + 1) := by
  unfold tblS
  rw [List.set_append_right _ _ (by rw [entB_length]; exact Nat.le_refl _), entB_length, Nat.sub_self, entB_succ, List.append_assoc]
  congr 1
  rw [show n - i = (n - (i + 1)) + 1 by omega, List.replicate_succ, List.set_cons_zero]
  rfl
/-- An answer of read: nothing, or a table of its own. -/
def Told (l : List Int) (w : World) (q : Ending) (w' : World) : Prop := Below w.heap.size w w' ∧ ((l = [] ∧ q = .returned (.slice none 0 0)) ∨ (l ≠ [] ∧ ∃ g, w.heap.size ≤ g ∧ Tbl w' g l ∧ q = .returned (.slice (some ⟨g, 0, none⟩) l.length l.length)))
theorem dirS_no {k d : Int} {b : BA} (h : ¬ (k = 1 ∧ 0 ≤ d ∧ d < 6 ∧ b.length = 240)) : dirS k d b = [] := by unfold dirS; rw [if_neg h]
set_option maxHeartbeats 1000000 in
theorem read_no (k d x : Int) (b : BA) (w : World) (h : ¬ (k = 1 ∧ 0 ≤ d ∧ d < 6 ∧ b.length = 240)) : Calls Try.prog 27 #[pv k d x b] w fun q w' => q = .returned (.slice none 0 0) ∧ Below w.heap.size w w' := by
  have HB := Lib.hid ((Below.refl w.heap.size w).alloc (Nat.le_refl _) (.cells #[.int .i64 k, .int .i64 d, .int .i64 x, .string (str b)] 23))
  have WI := Lib.hid (within_any d 6)
  have hs : ((str b).size : Int) = (b.length : Int) := by rw [str_size]
  unfold pv
  by_cases c0 : k = 1
  · subst c0
    by_cases c1 : 0 ≤ d ∧ d < 6
    · have c2 : ((str b).size : Int) ≠ 240 := by
        intro e
        exact h ⟨rfl, c1.1, c1.2, by omega⟩
      have c3 : (((str b).size : Int) == 240) = false := by rw [beq_eq_false_iff_ne]; exact c2
      rw [inB_iff.2 c1] at WI
      clear h hs c1
      generalize str b = s at *
      go_enter Try.func27, Try.ntmps27
      go_wp2_with fail
      refine (WI.out _).mono ?_; rintro q w1 ⟨rfl, rfl⟩
      go_wp2_with fail
      go_ret
      exact ⟨rfl, HB.out⟩
    · rw [inB_no c1] at WI
      clear h hs c1
      generalize str b = s at *
      go_enter Try.func27, Try.ntmps27
      go_wp2_with fail
      refine (WI.out _).mono ?_; rintro q w1 ⟨rfl, rfl⟩
      go_wp2_with fail
      go_ret
      exact ⟨rfl, HB.out⟩
  · have c3 : (k == 1) = false := by rw [beq_eq_false_iff_ne]; exact c0
    clear h hs
    generalize str b = s at *
    go_enter Try.func27, Try.ntmps27
    go_wp2_with fail
    go_ret
    exact ⟨rfl, HB.out⟩
theorem entB_all {b : BA} {n : Nat} : (entB b n).all rightB = true ↔ ∀ j, j < n → rightB (numAt b j) = true := by
  unfold entB
  rw [List.all_eq_true]
  constructor
  · intro h j hj
    exact h _ (List.mem_map.2 ⟨j, List.mem_range.2 hj, rfl⟩)
  · intro h x hx
    obtain ⟨j, hj, rfl⟩ := List.mem_map.1 hx
    exact h j (List.mem_range.1 hj)
theorem str_beq (a c : BA) : ((str a).toList == (str c).toList) = decide (a = c) := by
  rw [str_list, str_list]
  by_cases h : a = c
  · rw [decide_eq_true h, h, beq_self_eq_true]
  · rw [decide_eq_false h, beq_eq_false_iff_ne]; exact h
/-- What stands in read's rounds. -/
def RSt (w : World) (e x : Int) (b : BA) (s : ByteArray) (P g N i : Nat) (w' : World) : Prop := PBox w' P 1 e x s ∧ Tbl w' g (tblS b N i) ∧ Below w.heap.size w w' ∧ ∀ j, j < i → rightB (numAt b j) = true
set_option maxHeartbeats 2000000 in
theorem read_yes (x : Int) (b : BA) (e : Nat) (he : e ≤ 5) (hbl : b.length = 240) (w : World) : Calls Try.prog 27 #[pv 1 e x b] w fun q w' => Told (dirS 1 e b) w q w' := by
  have hp := pow_le he
  have EN := Lib.hid (entries_any e (by omega))
  have WI := Lib.hid (within_any (e : Int) 6)
  rw [inB_iff.2 ⟨by omega, by omega⟩] at WI
  have hs : ((str b).size : Int) = 240 := by rw [str_size, hbl]; rfl
  have HD := Lib.hid (show dirS 1 (e : Int) b = if (entB b (2 ^ e)).all rightB = true ∧ b.drop (2 * 2 ^ e) = zs (240 - 2 * 2 ^ e) then entB b (2 ^ e) else [] from by
    unfold dirS
    rw [if_pos ⟨rfl, by omega, by omega, hbl⟩, Int.toNat_natCast])
  obtain ⟨L, hL⟩ : ∃ L, L = dirS 1 (e : Int) b := ⟨_, rfl⟩
  rw [← hL] at HD ⊢
  clear hL
  have HIX := Lib.hid (fun (i : Nat) (hi : i < 240) => run_ix b i (by rw [hbl]; exact hi))
  have HSL := Lib.hid (fun (n : Nat) (hn : n ≤ 240) (w : World) => (show (Instr.slice 9 (.string (str b)) (some (.int .i64 (n : Int))) none none).run Try.prog w = .ok (.string (str (b.drop n))) w from by
    rw [run_slice_string_l (P := Try.prog) w 9 (str b) Try.underlying9 .i64 (n : Int) (by omega) (by rw [hs]; omega), extract_str, str_toList, Int.toNat_natCast, List.take_of_length_le (by rw [List.length_drop, hbl, str_size, hbl]; omega)]))
  have HP0 := Lib.hid (PBox.new w 1 e x (str b))
  have HB0 := Lib.hid ((Below.refl w.heap.size w).alloc (Nat.le_refl _) (.cells #[.int .i64 1, .int .i64 e, .int .i64 x, .string (str b)] 23))
  unfold pv
  obtain ⟨s, hsb⟩ : ∃ s, s = str b := ⟨_, rfl⟩
  rw [← hsb] at HIX HSL HP0 HB0 hs ⊢
  clear hsb
  generalize 2 ^ e = N at *
  obtain ⟨W0, hW⟩ : ∃ W0, W0 = w.alloc (.cells #[.int .i64 1, .int .i64 e, .int .i64 x, .string s] 23) := ⟨_, rfl⟩
  rw [← hW] at HP0 HB0
  obtain ⟨P, hP⟩ : ∃ P, P = w.heap.size := ⟨_, rfl⟩
  rw [← hP] at HP0
  have HPE := Lib.hid hP.symm
  have HLE := Lib.hid (show w.heap.size ≤ P by omega)
  have HW := Lib.hid hW.symm
  clear hP hW
  have hp1 := hp.1
  have hp2 := hp.2
  obtain ⟨W1, hmk, htb, hbw⟩ := make_tbl N (by omega) W0
  obtain ⟨g, hg⟩ : ∃ g, g = W0.heap.size := ⟨_, rfl⟩
  have HG := Lib.hid (show P ≠ g ∧ w.heap.size ≤ g from by
    have h1 := HP0.out.lt
    have h3 := Below.size HB0.out
    rw [← hg] at h1 h3
    omega)
  rw [← hg] at hmk htb
  have HST := Lib.hid (show RSt w e x b s P g N 0 W1 from ⟨HP0.out.kept hbw, htb, HB0.out.trans (hbw.mono (Below.size HB0.out)), fun j hj => absurd hj (Nat.not_lt_zero _)⟩)
  obtain ⟨x0, x1, x2, x3⟩ := HP0.out.cells
  clear htb hbw hg hp
  have n0 : (0 : Int) ≤ (N : Int) := by omega
  go_enter Try.func27, Try.ntmps27
  go_upto_region 1 with fail
  rw [HW.out, HPE.out]
  go_wp2_with fail
  refine (WI.out _).mono ?_; rintro q w1 ⟨rfl, rfl⟩
  go_wp2_with fail
  refine (EN.out _).mono ?_; rintro q w1 ⟨rfl, rfl⟩
  go_wp2_with fail
  clear x0 x1 x2 x3
  go_loopw [28] (fun u wr => ∃ i : Nat, i ≤ N ∧ u = .int .i64 i ∧ Hid (RSt w e x b s P g N i wr)) (fun u _ => N - (intOf u).toNat)
  case atStart => exact ⟨0, Nat.zero_le _, rfl, HST.out⟩
  case round =>
    obtain ⟨i, hi, rfl, hq⟩ := hrel
    have HQ := Lib.hid hq.out
    clear hq HST
    have b0 : (0 : Int) ≤ (i : Int) := by omega
    obtain ⟨x0, x1, x2, x3⟩ := HQ.out.1.cells
    by_cases hlt : i < N
    · have b1 : (i : Int) < (N : Int) := by omega
      have b2 : (i : Int) ≤ 1000 := by omega
      have ix0 := HIX.out (i * 2) (by omega)
      have ix1 := HIX.out (i * 2 + 1) (by omega)
      have HNA := Lib.hid (show numAt b i = ((b.getD (i * 2) 0).toNat : Int) * 256 + ((b.getD (i * 2 + 1) 0).toNat : Int) by unfold numAt; rw [Nat.mul_comm])
      have l0 := (b.getD (i * 2) 0).toNat_lt
      have l1 := (b.getD (i * 2 + 1) 0).toNat_lt
      generalize (b.getD (i * 2) 0).toNat = m0 at *
      generalize (b.getD (i * 2 + 1) 0).toNat = m1 at *
      have OR := or_add m0 m1 l0 l1
      rw [show ((i * 2 : Nat) : Int) = (i : Int) * 2 by omega] at ix0
      rw [show ((i * 2 + 1 : Nat) : Int) = (i : Int) * 2 + 1 by omega] at ix1
      have e1 : IntKind.i64.wrap ((i : Int) * 2) = (i : Int) * 2 := IntWalk.i64_in _ (by omega)
      have e2 : IntKind.i64.wrap ((i : Int) * 2 + 1) = (i : Int) * 2 + 1 := IntWalk.i64_in _ (by omega)
      have e3 : IntKind.i64.wrap ((m0 : Int) * 256) = (m0 : Int) * 256 := IntWalk.i64_in _ (by omega)
      have e4 : IntKind.i64.wrap ((m0 : Int)) = (m0 : Int) := IntWalk.i64_in _ (by omega)
      have e5 : IntKind.i64.wrap ((m1 : Int)) = (m1 : Int) := IntWalk.i64_in _ (by omega)
      go_upto_region 7 with fail
      go_quiet (fail)
      rw [← HNA.out]
      clear ix0 ix1 e1 e2 e3 e4 e5 OR l0 l1 x0 x1 x2 x3
      have HNR := Lib.hid (numAt_range b i)
      have RI := Lib.hid (right_any (numAt b i))
      have KR : rightB (numAt b i) = true ∨ rightB (numAt b i) = false := by cases rightB (numAt b i) <;> simp
      rcases KR with hr | hr
      · rw [hr] at RI
        have HR := Lib.hid hr
        clear hr
        have HT := Lib.hid (show Tbl (wr.drewN nq) g (tblS b N i) from HQ.out.2.1)
        have y0 := HT.out.cell (i := i) (by rw [tblS_length hi]; exact hlt)
        have z0 := HT.out.free i
        have HS1 := Lib.hid (show RSt w e x b s P g N (i + 1) ((wr.drewN nq).setCell ⟨g, i, none⟩ (.int .i64 (numAt b i))) from
          ⟨PBox.heap (w := wr.drewN nq) HQ.out.1 (Below.heap_setCell _ _ _ _ HG.out.1), by
            have := HT.out.set i (numAt b i)
            rw [tblS_step hlt] at this
            exact this, below_set1 (below_drewN HQ.out.2.2.1 nq) HG.out.2, fun j hj => by
            by_cases ej : j = i
            · rw [ej]; exact HR.out
            · exact HQ.out.2.2.2 j (by omega)⟩)
        generalize numAt b i = na at *
        go_wp2_with fail
        refine (RI.out _).mono ?_; rintro q w3 ⟨rfl, rfl⟩
        go_wp2_with fail
        go_roundw
        case rel => exact ⟨i + 1, by omega, by go_num, HS1.out⟩
        case measure => simp [intOf]; omega
      · rw [hr] at RI
        have HLN := Lib.hid (show L = [] from by
          rw [HD.out, if_neg]
          rintro ⟨h1, _⟩
          have := entB_all.1 h1 i hlt
          rw [hr] at this
          cases this)
        have HBZ := Lib.hid (below_drewN HQ.out.2.2.1 nq)
        clear hr
        generalize numAt b i = na at *
        go_wp2_with fail
        refine (RI.out _).mono ?_; rintro q w3 ⟨rfl, rfl⟩
        go_wp2_with fail
        go_ret
        exact ⟨HBZ.out, .inl ⟨HLN.out, rfl⟩⟩
    · obtain rfl : N = i := by omega
      have b1 : ¬ (N : Int) < (N : Int) := by omega
      have HALL := Lib.hid (entB_all.2 HQ.out.2.2.2)
      obtain ⟨r, hr⟩ : ∃ r, r = str (b.drop (N * 2)) := ⟨_, rfl⟩
      have SL := HSL.out (N * 2) (by omega)
      rw [← hr, show ((N * 2 : Nat) : Int) = (N : Int) * 2 by omega] at SL
      have hrs : (r.size : Int) = (((240 - N * 2 : Nat)) : Int) := by rw [hr, str_size, List.length_drop, hbl]
      have RE := Lib.hid (repeat_any (240 - N * 2) (by omega))
      have HEQ := Lib.hid (show (r.toList == (str (zs (240 - N * 2))).toList) = decide (b.drop (N * 2) = zs (240 - N * 2)) from by rw [hr]; exact str_beq _ _)
      have HRQ := Lib.hid hr
      clear hr
      obtain ⟨M, hM⟩ : ∃ M, M = 240 - N * 2 := ⟨_, rfl⟩
      rw [← hM] at RE HEQ hrs
      have HM := Lib.hid hM
      clear hM
      generalize str (zs M) = z at *
      have K9 : b.drop (N * 2) = zs M ∨ b.drop (N * 2) ≠ zs M := Decidable.em _
      go_wp2_with fail
      refine (RE.out _).mono ?_; rintro q w3 ⟨rfl, hb⟩
      have HT := Lib.hid (HQ.out.2.1.kept hb)
      have HB := Lib.hid (HQ.out.2.2.1.trans (hb.mono (Below.size HQ.out.2.2.1)))
      clear hb HQ x0 x1 x2 x3 SL
      rcases K9 with hz | hz
      · rw [decide_eq_true hz] at HEQ
        have HL := Lib.hid (show L = entB b N from by rw [HD.out, if_pos ⟨HALL.out, by rw [Nat.mul_comm, hz, HM.out, Nat.mul_comm]⟩])
        have he1 := HEQ.out
        clear hz
        go_wp2_with fail
        go_ret
        refine ⟨HB.out, .inr ⟨?_, g, HG.out.2, ?_, ?_⟩⟩
        · rw [HL.out]; intro h; have := congrArg List.length h; rw [entB_length] at this; simp at this; omega
        · rw [HL.out, ← tblS_end]; exact HT.out
        · rw [HL.out, entB_length]; rfl
      · rw [decide_eq_false hz] at HEQ
        have HL := Lib.hid (show L = [] from by
          rw [HD.out, if_neg]
          rintro ⟨_, h2⟩
          exact hz (by rw [Nat.mul_comm, h2, HM.out, Nat.mul_comm]))
        have he1 := HEQ.out
        clear hz
        go_wp2_with fail
        go_ret
        exact ⟨HB.out, .inl ⟨HL.out, rfl⟩⟩
theorem read_any (k d x : Int) (b : BA) (w : World) : Calls Try.prog 27 #[pv k d x b] w fun q w' => Told (dirS k d b) w q w' := by
  by_cases h : k = 1 ∧ 0 ≤ d ∧ d < 6 ∧ b.length = 240
  · obtain ⟨e, rfl⟩ : ∃ e : Nat, d = (e : Int) := ⟨d.toNat, by omega⟩
    obtain ⟨rfl, _⟩ := h
    exact read_yes x b e (by omega) (by omega) w
  · refine (read_no k d x b w h).mono ?_
    rintro q w' ⟨rfl, hb⟩
    exact ⟨hb, .inl ⟨dirS_no h, rfl⟩⟩
end Go.Proofs.Ytojfnafahlpjjaa
