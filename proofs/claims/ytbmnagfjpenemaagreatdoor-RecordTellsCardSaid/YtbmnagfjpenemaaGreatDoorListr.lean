/- What the record's reader reads: lists, transactions. -/
import Derived.Test.YtbmnagfjpenemaaGreatDoorRecs
namespace Go.Proofs.YtbmnagfjpenemaaGreatDoor
open Go.ChangeShapes Go.WideShapes Go.ChangeAt Go.RowKit
set_option linter.unusedVariables false
set_option linter.unusedSimpArgs false
set_option maxRecDepth 100000
/-! Rows of a call's own. -/
def ics (l : List Int) : List Value := l.map (Value.int .i64)
def pcell (p : Pt) : List Value := [.int .i64 p.pg, .int .i64 p.ofs, .string p.bs]
def pcs (l : List Pt) : List Value := l.flatMap pcell
def dcell (d : Dy) : List Value := [.int .i64 d.page, .int .i64 d.lsn]
def dcs (l : List Dy) : List Value := l.flatMap dcell
def tcell (x : Tx × Sl) : List Value := [.int .i64 x.1.id, .int .i64 x.1.last, .bool x.1.com, .slice x.2.A x.2.n x.2.c]
def tcs (l : List (Tx × Sl)) : List Value := l.flatMap tcell
theorem infoI : (Tryz.prog.info? 3).map (fun i => (i.zero, i.size, i.bytes)) = some (some (.int .i64 0), 1, 8) := by kernel_rfl
theorem infoP : (Tryz.prog.info? 59).map (fun i => (i.zero, i.size, i.bytes)) = some (some (.agg #[.int .i64 0, .int .i64 0, .string ⟨#[]⟩]), 3, 32) := by kernel_rfl
theorem infoD : (Tryz.prog.info? 74).map (fun i => (i.zero, i.size, i.bytes)) = some (some (.agg #[.int .i64 0, .int .i64 0]), 2, 16) := by kernel_rfl
theorem infoT : (Tryz.prog.info? 61).map (fun i => (i.zero, i.size, i.bytes)) = some (some (.agg #[.int .i64 0, .int .i64 0, .bool false, .slice none 0 0]), 4, 48) := by kernel_rfl
theorem add_plain (b off i : Nat) : (⟨b, off, none⟩ : Addr).add i = ⟨b, off + i, none⟩ := by unfold Addr.add; split <;> simp_all
theorem own_shape {w : World} {B e s n : Nat} {v : Value} {xs : List Value} (h : w.ownsRow B e s v n xs) : ∃ A c, v = .slice A n c := by
  rcases h.2 with ⟨rfl, rfl⟩ | ⟨g, cap, cur, rfl, _⟩
  · exact ⟨_, _, rfl⟩
  · exact ⟨_, _, rfl⟩
theorem owns_block {w : World} {B e s n : Nat} {v : Value} {xs : List Value} (h : w.ownsRow B e s v n xs) {g : Nat} (hg : v.ownBlock = some g) : ∃ cur, w.heap[g]? = some (.cells cur e (0, 0)) := by
  rcases h.2 with ⟨rfl, _⟩ | ⟨g', cap, cur, rfl, _, h2, _⟩
  · simp [Value.ownBlock] at hg
  · simp only [Value.ownBlock, Option.some.injEq] at hg
    subst hg
    exact ⟨cur, h2⟩
theorem owns_kept {w w' : World} {B e s n : Nat} {v : Value} {xs : List Value} (h : w.ownsRow B e s v n xs) (hk : ∀ g, v.ownBlock = some g → w'.heap[g]? = w.heap[g]?) : w'.ownsRow B e s v n xs := by
  refine ⟨h.1, ?_⟩
  rcases h.2 with h1 | ⟨g', cap, cur, rfl, h1, h2, h3⟩
  · exact .inl h1
  · exact .inr ⟨g', cap, cur, rfl, h1, (hk g' rfl).trans h2, h3⟩
theorem own_base {w : World} {B D e s n : Nat} {v : Value} {xs : List Value} (h : w.ownsRow B e s v n xs) (hD : D ≤ B) : w.ownsRow D e s v n xs := by
  refine ⟨h.1, ?_⟩
  rcases h.2 with h | ⟨g, cap, cur, h1, h2, h3⟩
  · exact .inl h
  · exact .inr ⟨g, cap, cur, h1, Nat.le_trans hD h2, h3⟩
theorem own_only {w w' : World} {C q B e s n : Nat} {v : Value} {xs : List Value} {t : RS} (h : w.ownsRow B e s v n xs) (ho : Only C q w w') (hr : RdS w q t) (he : e ≠ 5) (he2 : e ≠ 135) : w'.ownsRow B e s v n xs :=
  owns_kept h fun g hg => by
    obtain ⟨cur, hc⟩ := owns_block h hg
    rw [ho.typed g cur e _ (fun hh => by
      subst hh
      have h2 : w.heap[g]? = _ := hr
      rw [hc] at h2
      simp only [Option.some.injEq, Obj.cells.injEq] at h2
      exact he2 h2.2.1) he hc, hc]
theorem own_below {w w' : World} {B e s n : Nat} {v : Value} {xs : List Value} (h : w.ownsRow B e s v n xs) (hb : Below w.heap.size w w') : w'.ownsRow B e s v n xs := owns_kept h fun g hg => hb.block g (h.lt g hg).2
/-- A row of another kind is as it was behind an append. -/
theorem own_grown {w1 w2 : World} {B B' e e' s s' n n' : Nat} {v v' : Value} {xs xs' : List Value} {o : Obj} (h : w1.ownsRow B e s v n xs) (h' : w1.ownsRow B' e' s' v' n' xs') (hne : e ≠ e') (hg : (w1.alloc o).grownBy w2 v'.ownBlock) : w2.ownsRow B e s v n xs :=
  owns_kept h fun g hgo => by
    have hlt := (h.lt g hgo).2
    rw [hg.block g (by simp; omega) (fun hh => by
      obtain ⟨c1, hc1⟩ := owns_block h hgo
      obtain ⟨c2, hc2⟩ := owns_block h' hh.symm
      rw [hc1] at hc2
      simp only [Option.some.injEq, Obj.cells.injEq] at hc2
      exact hne hc2.2.1), Below.heap_alloc w1 o g hlt]
theorem ReadS.grown {C q : Nat} {w w1 w2 : World} {s : RS} {o : Obj} {row : Option Nat} (h : ReadS C q w s w1) (hC : C ≤ w.heap.size) (hq : q < w.heap.size) (hg : (w1.alloc o).grownBy w2 row) (hrow : ∀ g, row = some g → w.heap.size ≤ g) : ReadS C q w s w2 := by
  have hsz := h.2.size
  have key : ∀ k, k < w.heap.size → w2.heap[k]? = w1.heap[k]? := fun k hk => (hg.block k (by simp; omega) (fun e => by have := hrow k e.symm; omega)).trans (Below.heap_alloc w1 o k (by omega))
  refine ⟨(key q hq).trans h.1, hg.os.trans h.2.os, hg.tape.trans h.2.tape, hg.output.trans h.2.output, ?_, fun k hk hkq => (key k (by omega)).trans (h.2.block k hk hkq), fun k cs t fr hkq ht hh => (key k (block_of_heap hh)).trans (h.2.typed k cs t fr hkq ht hh)⟩
  have := hg.size
  simp at this
  omega
theorem listN_length {α : Type} (f : RS → α × RS) : ∀ (n : Nat) (s : RS), (listN f n s).1.length = n
  | 0, s => rfl
  | n + 1, s => by unfold listN; rw [List.length_append, listN_length f n s]; rfl
theorem news_of (w : World) (xs : List Value) (t : TypeId) : ∀ j u, xs[j]? = some u → (w.alloc (.cells xs.toArray t)).cell? ((⟨w.heap.size, 0, none⟩ : Addr).add j) = some u := by
  intro j u hu
  rw [add_plain, cell_of_row _ _ _ _ _ _ (heap_alloc_new w _), Nat.zero_add]
  simpa using hu
theorem pcs_snoc (l : List Pt) (x : Pt) : pcs (l ++ [x]) = pcs l ++ pcell x := by simp [pcs]
theorem dcs_snoc (l : List Dy) (x : Dy) : dcs (l ++ [x]) = dcs l ++ dcell x := by simp [dcs]
theorem tcs_snoc (l : List (Tx × Sl)) (x : Tx × Sl) : tcs (l ++ [x]) = tcs l ++ tcell x := by simp [tcs]
theorem ics_snoc (l : List Int) (x : Int) : ics (l ++ [x]) = ics l ++ [.int .i64 x] := by simp [ics]
/-- A list of numbers in a row of a call's own. -/
def RowI (B : Nat) (w : World) (s : Sl) (l : List Int) : Prop := s.n = l.length ∧ w.ownsRow B 3 1 (.slice s.A s.n s.c) s.n (ics l)
def RowP (B : Nat) (w : World) (s : Sl) (l : List Pt) : Prop := s.n = l.length ∧ w.ownsRow B 59 3 (.slice s.A s.n s.c) s.n (pcs l)
def RowD (B : Nat) (w : World) (s : Sl) (l : List Dy) : Prop := s.n = l.length ∧ w.ownsRow B 74 2 (.slice s.A s.n s.c) s.n (dcs l)
def RowT (B : Nat) (w : World) (s : Sl) (l : List Tx) (ss : List Sl) : Prop := s.n = l.length ∧ ss.length = l.length ∧ w.ownsRow B 61 4 (.slice s.A s.n s.c) s.n (tcs (l.zip ss)) ∧ ∀ k, k < l.length → RowI 0 w (ss.getD k sl0) (l.getD k nilT).pages
/-- The state of the loop. -/
def LStI (C q : Nat) (w0 : World) (B : Nat) (s : RS) (k : Nat) (u : Value) (wr : World) : Prop := wr.ownsRow B 3 1 u k (ics (listN numR k s).1) ∧ ReadS C q w0 (listN numR k s).2 wr
set_option maxHeartbeats 2000000 in
theorem listI_r (C q m : Nat) (M : Int) (hM : M = (m : Nat)) (hm : m ≤ 64) (s : RS) (w : World) (hs : Few s) (hC : C ≤ w.heap.size) (hr : RdS w q s) :
    Calls Tryz.prog 162 #[.agg #[ptr q], .int .i64 M, .func (.func 112) #[ptr q] #[]] w fun e w' => ∃ A c, e = .returned (.slice A (listR numR m s).1.length c) ∧ RowI w.heap.size w' ⟨A, (listR numR m s).1.length, c⟩ (listR numR m s).1 ∧ ReadS C q w (listR numR m s).2 w' := by
  subst hM
  obtain ⟨i0, hi0, hz0, hz1, hz2⟩ := info_parts infoI
  have hin := numR_in s
  have hqw := hr.lt
  have HC := Lib.hid hC
  have H0 := Lib.hid (ReadS.start (C := C) hr |>.alloc hC (.cells #[ptr q] 89))
  have NU := Lib.hid (rnum_any C q s (w.alloc (.cells #[ptr q] 89)) hs (by simp; omega) H0.out.1)
  obtain ⟨cnt, hcnt⟩ : ∃ cnt : Nat, cnt = (min (numR s).1 (m : Int)).toNat := ⟨_, rfl⟩
  have HL := Lib.hid (show (listR numR m s) = listN numR cnt (numR s).2 from by unfold listR; rw [hcnt])
  have hc1 : min (numR s).1 (m : Int) = (cnt : Int) := by omega
  have hcm : cnt ≤ 64 := by omega
  rw [HL.out]
  have FW := Lib.hid (fun k => few_listN (f := numR) (fun s h => few_num h) k (few_num hs))
  have hB : w.heap.size ≤ (w.alloc (.cells #[ptr q] 89)).heap.size := by simp
  have HB := Lib.hid hB
  have HQ0 := Lib.hid hqw
  generalize (numR s).1 = v1 at *
  generalize (numR s).2 = t1 at *
  have LN := Lib.hid (fun k => listN_length numR k t1)
  have hcN : (cnt : Int) ≤ 64 := by omega
  clear hcnt hC hr hs hin hm HL hB hqw
  go_enter Tryz.func162, Tryz.ntmps162
  go_wp2_with fail
  refine NU.out.mono ?_; rintro e w1 ⟨rfl, hr⟩
  have H1 := Lib.hid (H0.out.then hr)
  clear hr NU H0
  go_wp2_with fail
  go_loopw [7, 13] (fun u x wr => ∃ k : Nat, k ≤ cnt ∧ x = .int .i64 k ∧ Hid (LStI C q w w.heap.size t1 k u wr)) (fun _ x _ => cnt - (intOf x).toNat)
  case atStart => exact ⟨0, Nat.zero_le _, rfl, World.ownsRow_nil _ _ _ _, H1.out⟩
  case round =>
    obtain ⟨k, hk, rfl, hq⟩ := hrel
    have HQ := Lib.hid hq.out
    clear hq
    obtain ⟨Av, cv, rfl⟩ := own_shape HQ.out.1
    have b0 : (0 : Int) ≤ (k : Int) := by omega
    by_cases hlt : k < cnt
    · have b1 : (k : Int) < (cnt : Int) := by omega
      have b2 : (k : Int) < min v1 (m : Int) := by rw [hc1]; exact b1
      have RD := Lib.hid (rnum_any C q (listN numR k t1).2 wr (FW.out k) (Nat.le_trans HC.out HQ.out.2.size) HQ.out.2.1)
      have E1 := Lib.hid (show (listN numR (k + 1) t1).1 = (listN numR k t1).1 ++ [(numR (listN numR k t1).2).1] from rfl)
      have E2 := Lib.hid (show (listN numR (k + 1) t1).2 = (numR (listN numR k t1).2).2 from rfl)
      generalize (numR (listN numR k t1).2).1 = x at *
      generalize (numR (listN numR k t1).2).2 = t2 at *
      go_wp2_with fail
      refine RD.out.mono ?_; rintro e w2 ⟨rfl, hr⟩
      have hO2 := own_only HQ.out.1 hr.2 HQ.out.2.1 (by decide) (by decide)
      have H2 := Lib.hid (HQ.out.2.then hr)
      clear hr RD
      go_wp2_with (at_builtin; refine wpList_append_own _ rfl (.tmp 15) (.tmp 18) 24 rfl w.heap.size 3 i0 (.int .i64 0) 1 8 Tryz.underlying24 hi0 hz0 hz1 hz2 rfl (by decide) _ _ _ rfl (hO2.alloc _) ⟨w2.heap.size, 0, none⟩ 1 1 [.int .i64 x] rfl rfl (news_of w2 _ _) (by intro u hu; simp at hu; first | (rcases hu with rfl | rfl | rfl <;> rfl) | (rcases hu with rfl | rfl <;> rfl) | (subst hu; rfl)) (by unfold maxLen; omega) (by omega) (by have := H2.out.size; simp; omega) ?_; intro v' w3 hown' hgrow _; obtain ⟨g', cap', rfl⟩ := ownsRow_succ hown')
      have HN : Hid (LStI C q w w.heap.size t1 (k + 1) (.slice (some ⟨g', 0, none⟩) (k + 1) cap') w3) := by
        refine ⟨?_, ?_⟩
        · rw [E1.out, ics_snoc]
          exact hown'
        · rw [E2.out]
          exact H2.out.grown HC.out HQ0.out hgrow (fun g hg => (hO2.lt g hg).1)
      clear hown' hgrow hO2
      go_wp2_with fail
      go_roundw
      case rel => exact ⟨k + 1, by omega, by go_num, HN.out⟩
      case measure => simp [intOf]; omega
    · obtain rfl : k = cnt := by omega
      have b2 : ¬ (k : Int) < min v1 (m : Int) := by rw [hc1]; omega
      go_wp2_with fail
      go_ret
      refine ⟨Av, cv, by rw [LN.out]; rfl, ⟨rfl, ?_⟩, HQ.out.2⟩
      rw [LN.out]
      exact HQ.out.1
theorem pages_r (C q : Nat) (s : RS) (w : World) (hs : Few s) (hC : C ≤ w.heap.size) (hr : RdS w q s) :
    Calls Tryz.prog 116 #[.agg #[ptr q]] w fun e w' => ∃ A c, e = .returned (.slice A (pagesR s).1.length c) ∧ RowI w.heap.size w' ⟨A, (pagesR s).1.length, c⟩ (pagesR s).1 ∧ ReadS C q w (pagesR s).2 w' := by
  have H0 := Lib.hid (ReadS.start (C := C) hr |>.alloc hC (.cells #[ptr q] 89))
  have LI := Lib.hid (listI_r C q 64 64 rfl (Nat.le_refl _) s (w.alloc (.cells #[ptr q] 89)) hs (by simp; omega) H0.out.1)
  have HS := Lib.hid (show w.heap.size ≤ (w.alloc (.cells #[ptr q] 89)).heap.size from by simp)
  unfold pagesR
  generalize (listR numR 64 s).1 = l at *
  generalize (listR numR 64 s).2 = t at *
  clear hs hC hr
  go_enter Tryz.func116, Tryz.ntmps116
  go_wp2_with fail
  refine LI.out.mono ?_; rintro e w1 ⟨A, c, rfl, hrow, hr⟩
  have HR := Lib.hid (show RowI w.heap.size w1 ⟨A, l.length, c⟩ l from ⟨hrow.1, own_base hrow.2 HS.out⟩)
  have H1 := Lib.hid (H0.out.then hr)
  clear hrow hr
  go_wp2_with fail
  go_ret
  exact ⟨A, c, rfl, HR.out, H1.out⟩
/-- The state of the loop. -/
def LStP (C q : Nat) (w0 : World) (B : Nat) (s : RS) (k : Nat) (u : Value) (wr : World) : Prop := wr.ownsRow B 59 3 u k (pcs (listN ptR k s).1) ∧ ReadS C q w0 (listN ptR k s).2 wr
set_option maxHeartbeats 2000000 in
theorem listP_r (C q m : Nat) (M : Int) (hM : M = (m : Nat)) (hm : m ≤ 64) (s : RS) (w : World) (hs : Few s) (hC : C ≤ w.heap.size) (hr : RdS w q s) :
    Calls Tryz.prog 117 #[.agg #[ptr q], .int .i64 M, .func (.func 118) #[.agg #[ptr q]] #[]] w fun e w' => ∃ A c, e = .returned (.slice A (listR ptR m s).1.length c) ∧ RowP w.heap.size w' ⟨A, (listR ptR m s).1.length, c⟩ (listR ptR m s).1 ∧ ReadS C q w (listR ptR m s).2 w' := by
  subst hM
  obtain ⟨i0, hi0, hz0, hz1, hz2⟩ := info_parts infoP
  have hin := numR_in s
  have hqw := hr.lt
  have HC := Lib.hid hC
  have H0 := Lib.hid (ReadS.start (C := C) hr |>.alloc hC (.cells #[ptr q] 89))
  have NU := Lib.hid (rnum_any C q s (w.alloc (.cells #[ptr q] 89)) hs (by simp; omega) H0.out.1)
  obtain ⟨cnt, hcnt⟩ : ∃ cnt : Nat, cnt = (min (numR s).1 (m : Int)).toNat := ⟨_, rfl⟩
  have HL := Lib.hid (show (listR ptR m s) = listN ptR cnt (numR s).2 from by unfold listR; rw [hcnt])
  have hc1 : min (numR s).1 (m : Int) = (cnt : Int) := by omega
  have hcm : cnt ≤ 64 := by omega
  rw [HL.out]
  have FW := Lib.hid (fun k => few_listN (f := ptR) (fun s h => few_pt h) k (few_num hs))
  have hB : w.heap.size ≤ (w.alloc (.cells #[ptr q] 89)).heap.size := by simp
  have HB := Lib.hid hB
  have HQ0 := Lib.hid hqw
  generalize (numR s).1 = v1 at *
  generalize (numR s).2 = t1 at *
  have LN := Lib.hid (fun k => listN_length ptR k t1)
  have hcN : (cnt : Int) ≤ 64 := by omega
  clear hcnt hC hr hs hin hm HL hB hqw
  go_enter Tryz.func117, Tryz.ntmps117
  go_wp2_with fail
  refine NU.out.mono ?_; rintro e w1 ⟨rfl, hr⟩
  have H1 := Lib.hid (H0.out.then hr)
  clear hr NU H0
  go_wp2_with fail
  go_loopw [7, 13] (fun u x wr => ∃ k : Nat, k ≤ cnt ∧ x = .int .i64 k ∧ Hid (LStP C q w w.heap.size t1 k u wr)) (fun _ x _ => cnt - (intOf x).toNat)
  case atStart => exact ⟨0, Nat.zero_le _, rfl, World.ownsRow_nil _ _ _ _, H1.out⟩
  case round =>
    obtain ⟨k, hk, rfl, hq⟩ := hrel
    have HQ := Lib.hid hq.out
    clear hq
    obtain ⟨Av, cv, rfl⟩ := own_shape HQ.out.1
    have b0 : (0 : Int) ≤ (k : Int) := by omega
    by_cases hlt : k < cnt
    · have b1 : (k : Int) < (cnt : Int) := by omega
      have b2 : (k : Int) < min v1 (m : Int) := by rw [hc1]; exact b1
      have RD := Lib.hid (patch_r C q (listN ptR k t1).2 wr (FW.out k) (Nat.le_trans HC.out HQ.out.2.size) HQ.out.2.1)
      have E1 := Lib.hid (show (listN ptR (k + 1) t1).1 = (listN ptR k t1).1 ++ [(ptR (listN ptR k t1).2).1] from rfl)
      have E2 := Lib.hid (show (listN ptR (k + 1) t1).2 = (ptR (listN ptR k t1).2).2 from rfl)
      unfold ptv at RD
      generalize (ptR (listN ptR k t1).2).1 = x at *
      generalize (ptR (listN ptR k t1).2).2 = t2 at *
      go_wp2_with fail
      refine RD.out.mono ?_; rintro e w2 ⟨rfl, hr⟩
      have hO2 := own_only HQ.out.1 hr.2 HQ.out.2.1 (by decide) (by decide)
      have H2 := Lib.hid (HQ.out.2.then hr)
      clear hr RD
      go_wp2_with (at_builtin; refine wpList_append_own _ rfl (.tmp 15) (.tmp 18) 25 rfl w.heap.size 59 i0 (.agg #[.int .i64 0, .int .i64 0, .string ⟨#[]⟩]) 3 32 Tryz.underlying25 hi0 hz0 hz1 hz2 rfl (by decide) _ _ _ rfl (hO2.alloc _) ⟨w2.heap.size, 0, none⟩ 1 1 [.int .i64 x.pg, .int .i64 x.ofs, .string x.bs] rfl rfl (news_of w2 _ _) (by intro u hu; simp at hu; first | (rcases hu with rfl | rfl | rfl <;> rfl) | (rcases hu with rfl | rfl <;> rfl) | (subst hu; rfl)) (by unfold maxLen; omega) (by omega) (by have := H2.out.size; simp; omega) ?_; intro v' w3 hown' hgrow _; obtain ⟨g', cap', rfl⟩ := ownsRow_succ hown')
      have HN : Hid (LStP C q w w.heap.size t1 (k + 1) (.slice (some ⟨g', 0, none⟩) (k + 1) cap') w3) := by
        refine ⟨?_, ?_⟩
        · rw [E1.out, pcs_snoc]
          exact hown'
        · rw [E2.out]
          exact H2.out.grown HC.out HQ0.out hgrow (fun g hg => (hO2.lt g hg).1)
      clear hown' hgrow hO2
      go_wp2_with fail
      go_roundw
      case rel => exact ⟨k + 1, by omega, by go_num, HN.out⟩
      case measure => simp [intOf]; omega
    · obtain rfl : k = cnt := by omega
      have b2 : ¬ (k : Int) < min v1 (m : Int) := by rw [hc1]; omega
      go_wp2_with fail
      go_ret
      refine ⟨Av, cv, by rw [LN.out]; rfl, ⟨rfl, ?_⟩, HQ.out.2⟩
      rw [LN.out]
      exact HQ.out.1
/-- The state of the loop. -/
def LStD (C q : Nat) (w0 : World) (B : Nat) (s : RS) (k : Nat) (u : Value) (wr : World) : Prop := wr.ownsRow B 74 2 u k (dcs (listN dyR k s).1) ∧ ReadS C q w0 (listN dyR k s).2 wr
set_option maxHeartbeats 2000000 in
theorem listD_r (C q m : Nat) (M : Int) (hM : M = (m : Nat)) (hm : m ≤ 64) (s : RS) (w : World) (hs : Few s) (hC : C ≤ w.heap.size) (hr : RdS w q s) :
    Calls Tryz.prog 121 #[.agg #[ptr q], .int .i64 M, .func (.func 122) #[.agg #[ptr q]] #[]] w fun e w' => ∃ A c, e = .returned (.slice A (listR dyR m s).1.length c) ∧ RowD w.heap.size w' ⟨A, (listR dyR m s).1.length, c⟩ (listR dyR m s).1 ∧ ReadS C q w (listR dyR m s).2 w' := by
  subst hM
  obtain ⟨i0, hi0, hz0, hz1, hz2⟩ := info_parts infoD
  have hin := numR_in s
  have hqw := hr.lt
  have HC := Lib.hid hC
  have H0 := Lib.hid (ReadS.start (C := C) hr |>.alloc hC (.cells #[ptr q] 89))
  have NU := Lib.hid (rnum_any C q s (w.alloc (.cells #[ptr q] 89)) hs (by simp; omega) H0.out.1)
  obtain ⟨cnt, hcnt⟩ : ∃ cnt : Nat, cnt = (min (numR s).1 (m : Int)).toNat := ⟨_, rfl⟩
  have HL := Lib.hid (show (listR dyR m s) = listN dyR cnt (numR s).2 from by unfold listR; rw [hcnt])
  have hc1 : min (numR s).1 (m : Int) = (cnt : Int) := by omega
  have hcm : cnt ≤ 64 := by omega
  rw [HL.out]
  have FW := Lib.hid (fun k => few_listN (f := dyR) (fun s h => few_dy h) k (few_num hs))
  have hB : w.heap.size ≤ (w.alloc (.cells #[ptr q] 89)).heap.size := by simp
  have HB := Lib.hid hB
  have HQ0 := Lib.hid hqw
  generalize (numR s).1 = v1 at *
  generalize (numR s).2 = t1 at *
  have LN := Lib.hid (fun k => listN_length dyR k t1)
  have hcN : (cnt : Int) ≤ 64 := by omega
  clear hcnt hC hr hs hin hm HL hB hqw
  go_enter Tryz.func121, Tryz.ntmps121
  go_wp2_with fail
  refine NU.out.mono ?_; rintro e w1 ⟨rfl, hr⟩
  have H1 := Lib.hid (H0.out.then hr)
  clear hr NU H0
  go_wp2_with fail
  go_loopw [7, 13] (fun u x wr => ∃ k : Nat, k ≤ cnt ∧ x = .int .i64 k ∧ Hid (LStD C q w w.heap.size t1 k u wr)) (fun _ x _ => cnt - (intOf x).toNat)
  case atStart => exact ⟨0, Nat.zero_le _, rfl, World.ownsRow_nil _ _ _ _, H1.out⟩
  case round =>
    obtain ⟨k, hk, rfl, hq⟩ := hrel
    have HQ := Lib.hid hq.out
    clear hq
    obtain ⟨Av, cv, rfl⟩ := own_shape HQ.out.1
    have b0 : (0 : Int) ≤ (k : Int) := by omega
    by_cases hlt : k < cnt
    · have b1 : (k : Int) < (cnt : Int) := by omega
      have b2 : (k : Int) < min v1 (m : Int) := by rw [hc1]; exact b1
      have RD := Lib.hid (dirty_r C q (listN dyR k t1).2 wr (FW.out k) (Nat.le_trans HC.out HQ.out.2.size) HQ.out.2.1)
      have E1 := Lib.hid (show (listN dyR (k + 1) t1).1 = (listN dyR k t1).1 ++ [(dyR (listN dyR k t1).2).1] from rfl)
      have E2 := Lib.hid (show (listN dyR (k + 1) t1).2 = (dyR (listN dyR k t1).2).2 from rfl)
      unfold dyv at RD
      generalize (dyR (listN dyR k t1).2).1 = x at *
      generalize (dyR (listN dyR k t1).2).2 = t2 at *
      go_wp2_with fail
      refine RD.out.mono ?_; rintro e w2 ⟨rfl, hr⟩
      have hO2 := own_only HQ.out.1 hr.2 HQ.out.2.1 (by decide) (by decide)
      have H2 := Lib.hid (HQ.out.2.then hr)
      clear hr RD
      go_wp2_with (at_builtin; refine wpList_append_own _ rfl (.tmp 15) (.tmp 18) 27 rfl w.heap.size 74 i0 (.agg #[.int .i64 0, .int .i64 0]) 2 16 Tryz.underlying27 hi0 hz0 hz1 hz2 rfl (by decide) _ _ _ rfl (hO2.alloc _) ⟨w2.heap.size, 0, none⟩ 1 1 [.int .i64 x.page, .int .i64 x.lsn] rfl rfl (news_of w2 _ _) (by intro u hu; simp at hu; first | (rcases hu with rfl | rfl | rfl <;> rfl) | (rcases hu with rfl | rfl <;> rfl) | (subst hu; rfl)) (by unfold maxLen; omega) (by omega) (by have := H2.out.size; simp; omega) ?_; intro v' w3 hown' hgrow _; obtain ⟨g', cap', rfl⟩ := ownsRow_succ hown')
      have HN : Hid (LStD C q w w.heap.size t1 (k + 1) (.slice (some ⟨g', 0, none⟩) (k + 1) cap') w3) := by
        refine ⟨?_, ?_⟩
        · rw [E1.out, dcs_snoc]
          exact hown'
        · rw [E2.out]
          exact H2.out.grown HC.out HQ0.out hgrow (fun g hg => (hO2.lt g hg).1)
      clear hown' hgrow hO2
      go_wp2_with fail
      go_roundw
      case rel => exact ⟨k + 1, by omega, by go_num, HN.out⟩
      case measure => simp [intOf]; omega
    · obtain rfl : k = cnt := by omega
      have b2 : ¬ (k : Int) < min v1 (m : Int) := by rw [hc1]; omega
      go_wp2_with fail
      go_ret
      refine ⟨Av, cv, by rw [LN.out]; rfl, ⟨rfl, ?_⟩, HQ.out.2⟩
      rw [LN.out]
      exact HQ.out.1
theorem RowI.only {B C q : Nat} {w w' : World} {s : Sl} {l : List Int} {t : RS} (h : RowI B w s l) (ho : Only C q w w') (hr : RdS w q t) : RowI B w' s l := ⟨h.1, own_only h.2 ho hr (by decide) (by decide)⟩
theorem RowP.only {B C q : Nat} {w w' : World} {s : Sl} {l : List Pt} {t : RS} (h : RowP B w s l) (ho : Only C q w w') (hr : RdS w q t) : RowP B w' s l := ⟨h.1, own_only h.2 ho hr (by decide) (by decide)⟩
theorem RowD.only {B C q : Nat} {w w' : World} {s : Sl} {l : List Dy} {t : RS} (h : RowD B w s l) (ho : Only C q w w') (hr : RdS w q t) : RowD B w' s l := ⟨h.1, own_only h.2 ho hr (by decide) (by decide)⟩
theorem RowT.only {B C q : Nat} {w w' : World} {s : Sl} {l : List Tx} {ss : List Sl} {t : RS} (h : RowT B w s l ss) (ho : Only C q w w') (hr : RdS w q t) : RowT B w' s l ss := ⟨h.1, h.2.1, own_only h.2.2.1 ho hr (by decide) (by decide), fun k hk => (h.2.2.2 k hk).only ho hr⟩
theorem RowI.base {B D : Nat} {w : World} {s : Sl} {l : List Int} (h : RowI B w s l) (hD : D ≤ B) : RowI D w s l := ⟨h.1, own_base h.2 hD⟩
theorem RowP.base {B D : Nat} {w : World} {s : Sl} {l : List Pt} (h : RowP B w s l) (hD : D ≤ B) : RowP D w s l := ⟨h.1, own_base h.2 hD⟩
theorem RowD.base {B D : Nat} {w : World} {s : Sl} {l : List Dy} (h : RowD B w s l) (hD : D ≤ B) : RowD D w s l := ⟨h.1, own_base h.2 hD⟩
theorem RowT.base {B D : Nat} {w : World} {s : Sl} {l : List Tx} {ss : List Sl} (h : RowT B w s l ss) (hD : D ≤ B) : RowT D w s l ss := ⟨h.1, h.2.1, own_base h.2.2.1 hD, h.2.2.2⟩
theorem RowI.below {B : Nat} {w w' : World} {s : Sl} {l : List Int} (h : RowI B w s l) (hb : Below w.heap.size w w') : RowI B w' s l := ⟨h.1, own_below h.2 hb⟩
theorem RowP.below {B : Nat} {w w' : World} {s : Sl} {l : List Pt} (h : RowP B w s l) (hb : Below w.heap.size w w') : RowP B w' s l := ⟨h.1, own_below h.2 hb⟩
theorem RowD.below {B : Nat} {w w' : World} {s : Sl} {l : List Dy} (h : RowD B w s l) (hb : Below w.heap.size w w') : RowD B w' s l := ⟨h.1, own_below h.2 hb⟩
theorem RowT.below {B : Nat} {w w' : World} {s : Sl} {l : List Tx} {ss : List Sl} (h : RowT B w s l ss) (hb : Below w.heap.size w w') : RowT B w' s l ss := ⟨h.1, h.2.1, own_below h.2.2.1 hb, fun k hk => (h.2.2.2 k hk).below hb⟩
/-- One block alone has turned. -/
def Aside (D : Nat) (w w' : World) : Prop := ∀ k, k ≠ D → w'.heap[k]? = w.heap[k]?
theorem Aside.refl (D : Nat) (w : World) : Aside D w w := fun _ _ => rfl
theorem Aside.row (D : Nat) (w : World) (ds : Array Value) : Aside D w (w.setRow D ds) := fun k hk => row_other w D k ds hk
theorem Aside.set {D i : Nat} {w w' : World} {u : Value} (h : Aside D w w') : Aside D w (w'.setCell ⟨D, i, none⟩ u) := fun k hk => (Below.heap_setCell w' ⟨D, i, none⟩ u k hk).trans (h k hk)
theorem own_aside {B D e s n : Nat} {w w' : World} {v : Value} {xs : List Value} {cs : Array Value} {t : TypeId} (h : w.ownsRow B e s v n xs) (ha : Aside D w w') (hz : Bx w D cs t) (ht : t ≠ e) : w'.ownsRow B e s v n xs :=
  owns_kept h fun g hg => ha g fun hh => by
    subst hh
    obtain ⟨cur, hc⟩ := owns_block h hg
    have h2 : w.heap[g]? = _ := hz
    rw [hc] at h2
    simp only [Option.some.injEq, Obj.cells.injEq] at h2
    exact ht h2.2.1.symm
theorem RowI.aside {B D : Nat} {w w' : World} {s : Sl} {l : List Int} {cs : Array Value} {t : TypeId} (h : RowI B w s l) (ha : Aside D w w') (hz : Bx w D cs t) (ht : t ≠ 3) : RowI B w' s l := ⟨h.1, own_aside h.2 ha hz ht⟩
theorem RowP.aside {B D : Nat} {w w' : World} {s : Sl} {l : List Pt} {cs : Array Value} {t : TypeId} (h : RowP B w s l) (ha : Aside D w w') (hz : Bx w D cs t) (ht : t ≠ 59) : RowP B w' s l := ⟨h.1, own_aside h.2 ha hz ht⟩
theorem RowD.aside {B D : Nat} {w w' : World} {s : Sl} {l : List Dy} {cs : Array Value} {t : TypeId} (h : RowD B w s l) (ha : Aside D w w') (hz : Bx w D cs t) (ht : t ≠ 74) : RowD B w' s l := ⟨h.1, own_aside h.2 ha hz ht⟩
theorem RowT.aside {B D : Nat} {w w' : World} {s : Sl} {l : List Tx} {ss : List Sl} {cs : Array Value} {t : TypeId} (h : RowT B w s l ss) (ha : Aside D w w') (hz : Bx w D cs t) (ht : t ≠ 61) (ht2 : t ≠ 3) : RowT B w' s l ss := ⟨h.1, h.2.1, own_aside h.2.2.1 ha hz ht, fun k hk => (h.2.2.2 k hk).aside ha hz ht2⟩
theorem RowI.grown {B B' e' s' n' : Nat} {w1 w2 : World} {s : Sl} {l : List Int} {v' : Value} {xs' : List Value} {o : Obj} (h : RowI B w1 s l) (h' : w1.ownsRow B' e' s' v' n' xs') (hne : 3 ≠ e') (hg : (w1.alloc o).grownBy w2 v'.ownBlock) : RowI B w2 s l := ⟨h.1, own_grown h.2 h' hne hg⟩
set_option maxHeartbeats 2000000 in
theorem tx_r (C q : Nat) (s : RS) (w : World) (hs : Few s) (hC : C ≤ w.heap.size) (hr : RdS w q s) : Calls Tryz.prog 120 #[.agg #[ptr q]] w fun e w' => ∃ A c, e = .returned (txv (txR s).1 A (txR s).1.pages.length c) ∧ RowI w.heap.size w' ⟨A, (txR s).1.pages.length, c⟩ (txR s).1.pages ∧ ReadS C q w (txR s).2 w' := by
  have N1 := Lib.hid (fun u (hu : RdS u q s) (hc : C ≤ u.heap.size) => rnum_any C q s u hs hc hu)
  have N2 := Lib.hid (fun u (hu : RdS u q (numR s).2) (hc : C ≤ u.heap.size) => rlong_any C q _ u (few_num hs) hc hu)
  have N3 := Lib.hid (fun u (hu : RdS u q (txR1 s)) (hc : C ≤ u.heap.size) => flag_r C q (txR1 s) u (few_long (few_num hs)) hc hu)
  have N4 := Lib.hid (fun u (hu : RdS u q (flagR (txR1 s)).2) (hc : C ≤ u.heap.size) => pages_r C q (flagR (txR1 s)).2 u (few_flag (few_long (few_num hs))) hc hu)
  unfold txR txv
  dsimp only
  generalize (pagesR (flagR (txR1 s)).2).1 = v4 at *
  generalize (pagesR (flagR (txR1 s)).2).2 = t4 at *
  generalize (flagR (txR1 s)).1 = v3 at *
  generalize (flagR (txR1 s)).2 = t3 at *
  unfold txR1 at *
  generalize (longR (numR s).2).1 = v2 at *
  generalize (longR (numR s).2).2 = t2 at *
  generalize (numR s).1 = v1 at *
  generalize (numR s).2 = t1 at *
  have H0 := Lib.hid (ReadS.start (C := C) hr |>.alloc hC (.cells #[.pointer (some ⟨q, 0, none⟩)] 89) |>.alloc hC (.cells #[.int .i64 0, .int .i64 0, .bool false, .slice none 0 0] 61))
  have hb1 := (Bx.new w #[.pointer (some ⟨q, 0, none⟩)] 89).alloc (.cells #[.int .i64 0, .int .i64 0, .bool false, .slice none 0 0] 61)
  have hz0 := Bx.new (w.alloc (.cells #[.pointer (some ⟨q, 0, none⟩)] 89)) #[.int .i64 0, .int .i64 0, .bool false, .slice none 0 0] 61
  have hqw := hr.lt
  have HC := Lib.hid hC
  have hB2 : w.heap.size ≤ (w.alloc (.cells #[.pointer (some ⟨q, 0, none⟩)] 89)).heap.size := by simp
  have hne1 : w.heap.size ≠ q := by omega
  have hne2 : (w.alloc (.cells #[.pointer (some ⟨q, 0, none⟩)] 89)).heap.size ≠ q := by omega
  have hne12 : w.heap.size ≠ (w.alloc (.cells #[.pointer (some ⟨q, 0, none⟩)] 89)).heap.size := by simp
  clear hC hr hs
  go_enter Tryz.func120, Tryz.ntmps120
  go_upto_region 1 with fail
  rw [← World.size_alloc w (.cells #[.pointer (some ⟨q, 0, none⟩)] 89)]
  generalize hW : (w.alloc (.cells #[.pointer (some ⟨q, 0, none⟩)] 89)).alloc (.cells #[.int .i64 0, .int .i64 0, .bool false, .slice none 0 0] 61) = W at *
  obtain ⟨B2, hB⟩ : ∃ B, B = (w.alloc (.cells #[.pointer (some ⟨q, 0, none⟩)] 89)).heap.size := ⟨_, rfl⟩
  rw [← hB] at hz0 hB2 hne2 hne12 ⊢
  obtain ⟨B1, hB1⟩ : ∃ B, B = w.heap.size := ⟨_, rfl⟩
  rw [← hB1] at hb1 hne1 hne12 ⊢
  clear hB hB1 hW
  have HR0 := Lib.hid H0.out.drew
  have X0 := fun r (h : Bx r B1 #[.pointer (some ⟨q, 0, none⟩)] 89) => (h.cell 0).trans (show (#[.pointer (some ⟨q, 0, none⟩)] : Array Value)[0]? = some (.pointer (some ⟨q, 0, none⟩)) from rfl)
  clear H0
  refine wp_region_noPanic ?_
  refine wp_region_held_drew (S := fun w' => Bx w' B1 #[.pointer (some ⟨q, 0, none⟩)] 89) (by kernel_rfl) ?_ (fun hHeld => ?_)
  · exact hb1.drew
  refine wpAnyH_take (i := 0) (oi := { dst := some 3, op := Op.fieldAddr 89 (Operand.tmp 1) 0, type := 0, pos := "record.go:181", after := #[], guard := none }) (v := .pointer (some ⟨B1, 0, none⟩)) rfl (by kernel_rfl) (by kernel_rfl) (by kernel_rfl) (fun _ _ _ h => h) (Or.inl ⟨by rfl, fun w' hSw => by ((try dsimp only at hSw); have := X0 _ hSw; go_simp)⟩) (by assumption) ?_
  (try simp only [Act.put, List.setIfInBounds_toArray, List.set_cons_zero, List.set_cons_succ])
  refine wpAnyH_take (i := 1) (oi := { dst := some 4, op := Op.load 86 (Operand.tmp 3), type := 86, pos := "record.go:181", after := #[{ on := 0, ground := Ground.data }], guard := none }) (v := .pointer (some ⟨q, 0, none⟩)) rfl (by kernel_rfl) (by kernel_rfl) (by kernel_rfl) (fun _ _ _ h => h) (Or.inl ⟨by rfl, fun w' hSw => by ((try dsimp only at hSw); have := X0 _ hSw; go_simp)⟩) (by assumption) ?_
  (try simp only [Act.put, List.setIfInBounds_toArray, List.set_cons_zero, List.set_cons_succ])
  refine wpAnyH_take (i := 3) (oi := { dst := some 6, op := Op.fieldAddr 89 (Operand.tmp 1) 0, type := 0, pos := "record.go:181", after := #[], guard := none }) (v := .pointer (some ⟨B1, 0, none⟩)) rfl (by kernel_rfl) (by kernel_rfl) (by kernel_rfl) (fun _ _ _ h => h) (Or.inl ⟨by rfl, fun w' hSw => by ((try dsimp only at hSw); have := X0 _ hSw; go_simp)⟩) (by assumption) ?_
  (try simp only [Act.put, List.setIfInBounds_toArray, List.set_cons_zero, List.set_cons_succ])
  refine wpAnyH_take (i := 4) (oi := { dst := some 7, op := Op.load 86 (Operand.tmp 6), type := 86, pos := "record.go:181", after := #[{ on := 3, ground := Ground.data }], guard := none }) (v := .pointer (some ⟨q, 0, none⟩)) rfl (by kernel_rfl) (by kernel_rfl) (by kernel_rfl) (fun _ _ _ h => h) (Or.inl ⟨by rfl, fun w' hSw => by ((try dsimp only at hSw); have := X0 _ hSw; go_simp)⟩) (by assumption) ?_
  (try simp only [Act.put, List.setIfInBounds_toArray, List.set_cons_zero, List.set_cons_succ])
  refine wpAnyH_take (i := 6) (oi := { dst := some 9, op := Op.load 89 (Operand.tmp 1), type := 89, pos := "record.go:181", after := #[], guard := none }) (v := .agg #[.pointer (some ⟨q, 0, none⟩)]) rfl (by kernel_rfl) (by kernel_rfl) (by kernel_rfl) (fun _ _ _ h => h) (Or.inl ⟨by rfl, fun w' hSw => by ((try dsimp only at hSw); have := X0 _ hSw; go_simp)⟩) (by assumption) ?_
  (try simp only [Act.put, List.setIfInBounds_toArray, List.set_cons_zero, List.set_cons_succ])
  refine wpAnyH_take (i := 8) (oi := { dst := some 11, op := Op.load 89 (Operand.tmp 1), type := 89, pos := "record.go:181", after := #[], guard := none }) (v := .agg #[.pointer (some ⟨q, 0, none⟩)]) rfl (by kernel_rfl) (by kernel_rfl) (by kernel_rfl) (fun _ _ _ h => h) (Or.inl ⟨by rfl, fun w' hSw => by ((try dsimp only at hSw); have := X0 _ hSw; go_simp)⟩) (by assumption) ?_
  (try simp only [Act.put, List.setIfInBounds_toArray, List.set_cons_zero, List.set_cons_succ])
  refine wpAnyH_ready (rs := [2]) (by kernel_rfl) (by simp) ?_
  refine AllReadyH.cons (o := { dst := some 5, op := Op.call { callee := Callee.value (Operand.func 112), args := #[Operand.tmp 4], argTypes := #[86] }, type := 3, pos := "record.go:181", after := #[{ on := 1, ground := Ground.data }], guard := none }) rfl (fun K hK => ?_) ?_
  · go_simp; go_at_call 112; refine (N1.out _ HR0.out.1 (Nat.le_trans HC.out HR0.out.size)).mono ?_; rintro e u1 ⟨rfl, hr⟩; have hb2 := hb1.drew.only hr.2 hne1 (by decide); have hz1 := hz0.drew.only hr.2 hne2 (by decide); have HR1 := Lib.hid (HR0.out.then hr); clear hr
    refine hK.out _ _ ?_ (fun hHeld => ?_)
    · exact hb2
    clear hK K
    (try simp only [Act.put, List.setIfInBounds_toArray, List.set_cons_zero, List.set_cons_succ])
    refine wpAnyH_ready (rs := [5]) (by kernel_rfl) (by simp) ?_
    refine AllReadyH.cons (o := { dst := some 8, op := Op.call { callee := Callee.value (Operand.func 113), args := #[Operand.tmp 7], argTypes := #[86] }, type := 3, pos := "record.go:181", after := #[{ on := 4, ground := Ground.data }, { on := 2, ground := Ground.chain }], guard := none }) rfl (fun K hK => ?_) ?_
    · go_simp; go_at_call 113; refine (N2.out _ HR1.out.1 (Nat.le_trans HC.out HR1.out.size)).mono ?_; rintro e u2 ⟨rfl, hr⟩; have hb3 := hb2.only hr.2 hne1 (by decide); have hz2 := hz1.only hr.2 hne2 (by decide); have HR2 := Lib.hid (HR1.out.then hr); clear hr
      refine hK.out _ _ ?_ (fun hHeld => ?_)
      · exact hb3
      clear hK K
      (try simp only [Act.put, List.setIfInBounds_toArray, List.set_cons_zero, List.set_cons_succ])
      refine wpAnyH_ready (rs := [7]) (by kernel_rfl) (by simp) ?_
      refine AllReadyH.cons (o := { dst := some 10, op := Op.call { callee := Callee.value (Operand.func 115), args := #[Operand.tmp 9], argTypes := #[89] }, type := 4, pos := "record.go:181", after := #[{ on := 6, ground := Ground.data }, { on := 5, ground := Ground.chain }], guard := none }) rfl (fun K hK => ?_) ?_
      · go_simp; go_at_call 115; refine (N3.out _ HR2.out.1 (Nat.le_trans HC.out HR2.out.size)).mono ?_; rintro e u3 ⟨rfl, hr⟩; have hb4 := hb3.only hr.2 hne1 (by decide); have hz3 := hz2.only hr.2 hne2 (by decide); have HR3 := Lib.hid (HR2.out.then hr); clear hr
        refine hK.out _ _ ?_ (fun hHeld => ?_)
        · exact hb4
        clear hK K
        (try simp only [Act.put, List.setIfInBounds_toArray, List.set_cons_zero, List.set_cons_succ])
        refine wpAnyH_ready (rs := [9]) (by kernel_rfl) (by simp) ?_
        refine AllReadyH.cons (o := { dst := some 12, op := Op.call { callee := Callee.value (Operand.func 116), args := #[Operand.tmp 11], argTypes := #[89] }, type := 24, pos := "record.go:181", after := #[{ on := 8, ground := Ground.data }, { on := 7, ground := Ground.chain }], guard := none }) rfl (fun K hK => ?_) ?_
        · go_simp; go_at_call 116; refine (N4.out _ HR3.out.1 (Nat.le_trans HC.out HR3.out.size)).mono ?_; rintro e u4 ⟨A4, c4, rfl, hro, hr⟩; have hb5 := hb4.only hr.2 hne1 (by decide); have hz4 := hz3.only hr.2 hne2 (by decide); have HR4 := Lib.hid (HR3.out.then hr); have HRO4 := Lib.hid (RowI.base hro HR3.out.2.size); clear hro; clear hr
          refine hK.out _ _ ?_ (fun hHeld => ?_)
          · exact hb5
          clear hK K
          (try simp only [Act.put, List.setIfInBounds_toArray, List.set_cons_zero, List.set_cons_succ])
          refine wpAnyH_take (i := 10) (oi := { dst := some 13, op := Op.build 61 #[(0, Operand.tmp 5), (1, Operand.tmp 8), (2, Operand.tmp 10), (3, Operand.tmp 12)], type := 61, pos := "record.go:181", after := #[{ on := 2, ground := Ground.data }, { on := 5, ground := Ground.data }, { on := 7, ground := Ground.data }, { on := 9, ground := Ground.data }], guard := none }) (v := .agg #[.int .i64 v1, .int .i64 v2, .bool v3, .slice A4 v4.length c4]) rfl (by kernel_rfl) (by kernel_rfl) (by kernel_rfl) (fun _ _ _ h => h) (Or.inl ⟨by rfl, fun w' hSw => by ((try dsimp only at hSw); have := X0 _ hSw; go_simp)⟩) (by assumption) ?_
          (try simp only [Act.put, List.setIfInBounds_toArray, List.set_cons_zero, List.set_cons_succ])

          refine wpAnyH_ready (rs := [11]) (by kernel_rfl) (by simp) ?_
          refine AllReadyH.cons (o := { dst := none, op := Op.store 61 (Operand.tmp 2) (Operand.tmp 13), type := 0, pos := "record.go:181", after := #[{ on := 10, ground := Ground.data }, { on := 9, ground := Ground.chain }, { on := 0, ground := Ground.phase }, { on := 1, ground := Ground.phase }, { on := 2, ground := Ground.phase }, { on := 3, ground := Ground.phase }, { on := 4, ground := Ground.phase }, { on := 5, ground := Ground.phase }, { on := 6, ground := Ground.phase }, { on := 7, ground := Ground.phase }, { on := 8, ground := Ground.phase }, { on := 9, ground := Ground.phase }, { on := 10, ground := Ground.phase }], guard := none }) rfl (fun K hK => ?_) ?_
          · refine step_store_row rfl 61 (.tmp 2) (.tmp 13) rfl B2 #[.int .i64 v1, .int .i64 v2, .bool v3, .slice A4 v4.length c4] rfl rfl 61 _ hz4 (by kernel_rfl) rfl (by simp [Value.oneCell']) ?_
            refine hK.out _ _ ?_ (fun hHeld => ?_)
            · exact hb5.orow hne12 _
            clear hK K
            (try simp only [Act.put, List.setIfInBounds_toArray, List.set_cons_zero, List.set_cons_succ])
            refine wpAnyH_done (by kernel_rfl) ?_ _
            refine NoPanic.normal ?_
            have HZ : Bx (u4.setRow B2 #[.int .i64 v1, .int .i64 v2, .bool v3, .slice A4 v4.length c4]) B2 #[.int .i64 v1, .int .i64 v2, .bool v3, .slice A4 v4.length c4] 61 := hz4.row _
            have HR := Lib.hid (ReadS.row HR4.out HC.out hB2 hqw : ReadS C q w t4 (u4.setRow B2 #[.int .i64 v1, .int .i64 v2, .bool v3, .slice A4 v4.length c4]))
            have HRO := Lib.hid (RowI.aside (HRO4.out) (Aside.row B2 u4 #[.int .i64 v1, .int .i64 v2, .bool v3, .slice A4 v4.length c4]) hz4 (by decide) : RowI w.heap.size (u4.setRow B2 #[.int .i64 v1, .int .i64 v2, .bool v3, .slice A4 v4.length c4]) ⟨A4, v4.length, c4⟩ v4)
            clear hHeld
            generalize (u4.setRow B2 #[.int .i64 v1, .int .i64 v2, .bool v3, .slice A4 v4.length c4]) = V at *
            have y0 : V.cell? ⟨B2, 0, none⟩ = some (.int .i64 v1) := HZ.cell 0
            have y1 : V.cell? ⟨B2, 1, none⟩ = some (.int .i64 v2) := HZ.cell 1
            have y2 : V.cell? ⟨B2, 2, none⟩ = some (.bool v3) := HZ.cell 2
            have y3 : V.cell? ⟨B2, 3, none⟩ = some (.slice A4 v4.length c4) := HZ.cell 3
            clear HZ
            go_wp2_with fail
            refine bodyPost_ret (v := .agg #[.int .i64 v1, .int .i64 v2, .bool v3, .slice A4 v4.length c4]) (by simp [results, Tryz.results120, go_sem, y0, y1, y2, y3]) rfl ⟨A4, c4, rfl, HRO.out, HR.out⟩
          exact AllReadyH.nil
        exact AllReadyH.nil
      exact AllReadyH.nil
    exact AllReadyH.nil
  exact AllReadyH.nil
/-- The state of the loop. -/
def LStT (C q : Nat) (w0 : World) (B : Nat) (s : RS) (k : Nat) (u : Value) (wr : World) : Prop := ∃ ss : List Sl, ss.length = k ∧ wr.ownsRow B 61 4 u k (tcs ((listN txR k s).1.zip ss)) ∧ (∀ j, j < k → RowI 0 wr (ss.getD j sl0) ((listN txR k s).1.getD j nilT).pages) ∧ ReadS C q w0 (listN txR k s).2 wr
theorem getD_snoc_lt {α : Type} {l : List α} {x d : α} {j : Nat} (h : j < l.length) : (l ++ [x]).getD j d = l.getD j d := by simp [List.getD, List.getElem?_append_left h]
theorem getD_snoc_eq {α : Type} {l : List α} {x d : α} {j : Nat} (h : j = l.length) : (l ++ [x]).getD j d = x := by subst h; simp [List.getD]
set_option maxHeartbeats 2000000 in
theorem listT_r (C q m : Nat) (M : Int) (hM : M = (m : Nat)) (hm : m ≤ 64) (s : RS) (w : World) (hs : Few s) (hC : C ≤ w.heap.size) (hr : RdS w q s) :
    Calls Tryz.prog 119 #[.agg #[ptr q], .int .i64 M, .func (.func 120) #[.agg #[ptr q]] #[]] w fun e w' => ∃ A c, e = .returned (.slice A (listR txR m s).1.length c) ∧ (∃ ss, RowT w.heap.size w' ⟨A, (listR txR m s).1.length, c⟩ (listR txR m s).1 ss) ∧ ReadS C q w (listR txR m s).2 w' := by
  subst hM
  obtain ⟨i0, hi0, hz0, hz1, hz2⟩ := info_parts infoT
  have hin := numR_in s
  have hqw := hr.lt
  have HC := Lib.hid hC
  have H0 := Lib.hid (ReadS.start (C := C) hr |>.alloc hC (.cells #[ptr q] 89))
  have NU := Lib.hid (rnum_any C q s (w.alloc (.cells #[ptr q] 89)) hs (by simp; omega) H0.out.1)
  obtain ⟨cnt, hcnt⟩ : ∃ cnt : Nat, cnt = (min (numR s).1 (m : Int)).toNat := ⟨_, rfl⟩
  have HL := Lib.hid (show (listR txR m s) = listN txR cnt (numR s).2 from by unfold listR; rw [hcnt])
  have hc1 : min (numR s).1 (m : Int) = (cnt : Int) := by omega
  have hcm : cnt ≤ 64 := by omega
  rw [HL.out]
  have FW := Lib.hid (fun k => few_listN (f := txR) (fun s h => few_tx h) k (few_num hs))
  have hB : w.heap.size ≤ (w.alloc (.cells #[ptr q] 89)).heap.size := by simp
  have HB := Lib.hid hB
  have HQ0 := Lib.hid hqw
  generalize (numR s).1 = v1 at *
  generalize (numR s).2 = t1 at *
  have LN := Lib.hid (fun k => listN_length txR k t1)
  have LN2 := Lib.hid (fun k => listN_length txR k t1)
  have hcN : (cnt : Int) ≤ 64 := by omega
  clear hcnt hC hr hs hin hm HL hB hqw
  go_enter Tryz.func119, Tryz.ntmps119
  go_wp2_with fail
  refine NU.out.mono ?_; rintro e w1 ⟨rfl, hr⟩
  have H1 := Lib.hid (H0.out.then hr)
  clear hr NU H0
  go_wp2_with fail
  go_loopw [7, 13] (fun u x wr => ∃ k : Nat, k ≤ cnt ∧ x = .int .i64 k ∧ Hid (LStT C q w w.heap.size t1 k u wr)) (fun _ x _ => cnt - (intOf x).toNat)
  case atStart => exact ⟨0, Nat.zero_le _, rfl, [], rfl, World.ownsRow_nil _ _ _ _, fun j hj => absurd hj (Nat.not_lt_zero _), H1.out⟩
  case round =>
    obtain ⟨k, hk, rfl, hq⟩ := hrel
    have HQ := Lib.hid hq.out
    clear hq
    obtain ⟨ss, HSS, hown1, hin1, hrd1⟩ := HQ.out
    have HSL := Lib.hid HSS
    have HIN := Lib.hid hin1
    have HRD := Lib.hid hrd1
    obtain ⟨Av, cv, rfl⟩ := own_shape hown1
    have HOW := Lib.hid hown1
    clear HSS hown1 hin1 hrd1 HQ
    have b0 : (0 : Int) ≤ (k : Int) := by omega
    by_cases hlt : k < cnt
    · have b1 : (k : Int) < (cnt : Int) := by omega
      have b2 : (k : Int) < min v1 (m : Int) := by rw [hc1]; exact b1
      have RD := Lib.hid (tx_r C q (listN txR k t1).2 wr (FW.out k) (Nat.le_trans HC.out HRD.out.size) HRD.out.1)
      have E1 := Lib.hid (show (listN txR (k + 1) t1).1 = (listN txR k t1).1 ++ [(txR (listN txR k t1).2).1] from rfl)
      have E2 := Lib.hid (show (listN txR (k + 1) t1).2 = (txR (listN txR k t1).2).2 from rfl)
      unfold txv at RD
      generalize (txR (listN txR k t1).2).1 = x at *
      generalize (txR (listN txR k t1).2).2 = t2 at *
      go_wp2_with fail
      refine RD.out.mono ?_; rintro e w2 ⟨A5, c5, rfl, hro, hr⟩
      have HRO := Lib.hid (hro.base (Nat.zero_le _))
      have HI2 := Lib.hid (fun j hj => (HIN.out j hj).only hr.2 HRD.out.1)
      clear hro
      have hO2 := own_only HOW.out hr.2 HRD.out.1 (by decide) (by decide)
      have H2 := Lib.hid (HRD.out.then hr)
      clear hr RD
      go_wp2_with (at_builtin; refine wpList_append_own _ rfl (.tmp 15) (.tmp 18) 26 rfl w.heap.size 61 i0 (.agg #[.int .i64 0, .int .i64 0, .bool false, .slice none 0 0]) 4 48 Tryz.underlying26 hi0 hz0 hz1 hz2 rfl (by decide) _ _ _ rfl (hO2.alloc _) ⟨w2.heap.size, 0, none⟩ 1 1 [.int .i64 x.id, .int .i64 x.last, .bool x.com, .slice A5 x.pages.length c5] rfl rfl (news_of w2 _ _) (by intro u hu; simp at hu; rcases hu with rfl | rfl | rfl | rfl <;> rfl) (by unfold maxLen; omega) (by omega) (by have := H2.out.size; simp; omega) ?_; intro v' w3 hown' hgrow _; obtain ⟨g', cap', rfl⟩ := ownsRow_succ hown')
      have HN : Hid (LStT C q w w.heap.size t1 (k + 1) (.slice (some ⟨g', 0, none⟩) (k + 1) cap') w3) := by
        refine ⟨ss ++ [⟨A5, x.pages.length, c5⟩], by simp [HSL.out], ?_, fun j hj => ?_, ?_⟩
        · rw [E1.out, List.zip_append (by rw [HSL.out]; exact LN.out k), List.zip_cons_cons, List.zip_nil_right, tcs_snoc]
          exact hown'
        · rw [E1.out]
          by_cases e : j = k
          · rw [getD_snoc_eq (by rw [HSL.out]; exact e), getD_snoc_eq (by rw [LN.out]; exact e)]
            exact HRO.out.grown hO2 (by decide) hgrow
          · rw [getD_snoc_lt (by rw [HSL.out]; omega), getD_snoc_lt (by rw [LN.out]; omega)]
            exact (HI2.out j (by omega)).grown hO2 (by decide) hgrow
        · rw [E2.out]
          exact H2.out.grown HC.out HQ0.out hgrow (fun g hg => (hO2.lt g hg).1)
      clear hown' hgrow hO2
      go_wp2_with fail
      go_roundw
      case rel => exact ⟨k + 1, by omega, by go_num, HN.out⟩
      case measure => simp [intOf]; omega
    · obtain rfl : k = cnt := by omega
      have b2 : ¬ (k : Int) < min v1 (m : Int) := by rw [hc1]; omega
      go_wp2_with fail
      go_ret
      refine ⟨Av, cv, by rw [LN.out]; rfl, ⟨ss, rfl, by rw [LN.out]; exact HSL.out, ?_, fun j hj => ?_⟩, HRD.out⟩
      · rw [LN.out]
        exact HOW.out
      · rw [LN.out] at hj
        exact HIN.out j hj
end Go.Proofs.YtbmnagfjpenemaaGreatDoor
