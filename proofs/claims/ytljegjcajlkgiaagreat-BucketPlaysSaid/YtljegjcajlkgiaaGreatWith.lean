/- The document's own Cells (of a page), With, Without. -/
import Derived.Test.YtljegjcajlkgiaaGreatRgot
import Derived.Test.YtljegjcajlkgiaaGreatLaws
import Derived.StillTailTactics
import Derived.BigQuiet
namespace Go.Proofs.YtljegjcajlkgiaaGreat
open Go.ChangeShapes Go.WideShapes Go.ChangeAt Go.RowKit
set_option linter.unusedVariables false
set_option linter.unusedSimpArgs false
set_option maxRecDepth 100000
set_option maxHeartbeats 1000000 in
theorem rcells_any (k d x : Int) (b : BA) (w : World) : Calls Tryz.prog 5 #[pv k d x (str b)] w fun e w' => ReadP k b w e w' := by
  have HB := Lib.hid ((Below.refl w.heap.size w).alloc (Nat.le_refl _) (.cells #[.int .i64 k, .int .i64 d, .int .i64 x, .string (str b)] 23))
  have GE := Lib.hid (fun w => rget_any b w)
  have HG := Lib.hid (fun (A : Option Addr) c w1 (e : Ending) (w2 : World) (hk : isBk k = true) (he : e = .returned (.tuple #[.slice A (getS b).length c, .bool (getOk b)])) (ho : Own w1.heap.size w2 (.slice A (getS b).length c) (getS b)) (h2 : Below w1.heap.size w1 w2) (h1 : Below w.heap.size w w1) => show ReadP k b w e w2 from by
    unfold ReadP goodP cellsP
    rw [hk, if_pos rfl]
    exact ⟨A, c, he, own_base ho h1.size, h1.trans (h2.mono h1.size)⟩)
  have HN := Lib.hid (fun w1 (hk : isBk k = false) (h1 : Below w.heap.size w w1) => show ReadP k b w (.returned (.tuple #[.slice none 0 0, .bool false])) w1 from by
    unfold ReadP goodP cellsP
    rw [hk, if_neg (by simp)]
    exact ⟨none, 0, rfl, Own.nil _ _, h1⟩)
  unfold pv
  generalize str b = s at *
  by_cases h3 : k = 3
  · have HK := Lib.hid (show isBk k = true by subst h3; rfl)
    have h3' : (k != 3) = false := by subst h3; rfl
    have h3'' : (k == 3) = true := by subst h3; rfl
    clear h3
    go_enter Tryz.func5, Tryz.ntmps5
    go_wp2_with fail
    refine (GE.out _).mono ?_; rintro e w1 ⟨A, c, rfl, ho, h2⟩
    have H2 := Lib.hid (HG.out A c _ _ w1 HK.out rfl ho h2 HB.out)
    clear ho h2
    go_wp2_with fail
    go_ret2
    exact H2.out
  · by_cases h4 : k = 4
    · have HK := Lib.hid (show isBk k = true by subst h4; rfl)
      have h3' : (k != 3) = true := by subst h4; rfl
      have h4' : (k != 4) = false := by subst h4; rfl
      have h3'' : (k == 3) = false := by subst h4; rfl
      have h4'' : (k == 4) = true := by subst h4; rfl
      clear h3 h4
      go_enter Tryz.func5, Tryz.ntmps5
      go_wp2_with fail
      refine (GE.out _).mono ?_; rintro e w1 ⟨A, c, rfl, ho, h2⟩
      have H2 := Lib.hid (HG.out A c _ _ w1 HK.out rfl ho h2 HB.out)
      clear ho h2
      go_wp2_with fail
      go_ret2
      exact H2.out
    · have h3'' : (k == 3) = false := by rw [beq_eq_false_iff_ne]; exact h3
      have h4'' : (k == 4) = false := by rw [beq_eq_false_iff_ne]; exact h4
      have h3' : (k != 3) = true := by unfold bne; rw [h3'']; rfl
      have h4' : (k != 4) = true := by unfold bne; rw [h4'']; rfl
      have HK := Lib.hid (show isBk k = false by unfold isBk; rw [h3'', h4'']; rfl)
      clear h3 h4
      go_enter Tryz.func5, Tryz.ntmps5
      go_wp2_with fail
      go_ret2
      exact HN.out _ HK.out HB.out
/-! With: cells one by one. -/
def wstep (c : Ce) (s : List Ce × Bool) (x : Ce) : List Ce × Bool :=
  let s1 : List Ce × Bool := if s.2 = false ∧ afterB c.key x = false then (s.1 ++ [c], true) else s
  if isB c.key x then s1 else (s1.1 ++ [x], s1.2)
def wfold (c : Ce) (l : List Ce) : List Ce × Bool := l.foldl (wstep c) ([], false)
def wfin (c : Ce) (s : List Ce × Bool) : List Ce := if s.2 then s.1 else s.1 ++ [c]
theorem wfold_take (c : Ce) (l : List Ce) (k : Nat) (hk : k < l.length) : wfold c (l.take (k + 1)) = wstep c (wfold c (l.take k)) (l.getD k nilC) := by
  unfold wfold
  rw [take_snoc l k hk, List.foldl_append]
  rfl
theorem wfold_true (c : Ce) : ∀ (l out : List Ce), l.foldl (wstep c) (out, true) = (out ++ l.filter (otherB c.key), true)
  | [], out => by simp
  | x :: l, out => by
    rw [List.foldl_cons, List.filter_cons]
    have e : wstep c (out, true) x = (if isB c.key x then (out, true) else (out ++ [x], true)) := by
      unfold wstep
      simp
    rw [e]
    cases g : isB c.key x with
    | true => rw [if_pos rfl, wfold_true c l out, show otherB c.key x = false by unfold otherB; rw [g]; rfl, if_neg (by simp)]
    | false => rw [if_neg (by simp), wfold_true c l (out ++ [x]), show otherB c.key x = true by unfold otherB; rw [g]; rfl, if_pos rfl, List.append_assoc]; rfl
theorem wfold_false (c : Ce) : ∀ {l : List Ce}, Rise l → ∀ out : List Ce, wfin c (l.foldl (wstep c) (out, false)) = out ++ setS l c
  | [], _, out => by simp [wfin, setS]
  | x :: l, h, out => by
    obtain ⟨hx, hl⟩ := List.pairwise_cons.1 h
    rw [List.foldl_cons]
    have hrest : afterB c.key x = false → ∀ y ∈ l, isB c.key y = false ∧ afterB c.key y = false ∧ beforeB c.key y = true := fun h0 y hy => by
      have h1 := hx y hy
      have h2 : ltK c y = true := by
        rcases tri c.key x with q | q | q
        · have : c.key = x.key := isB_iff.1 q.1
          unfold ltK cmpK at h1 ⊢
          rw [this]; exact h1
        · rw [q.2.1] at h0; cases h0
        · exact ltK_trans q.2.2 h1
      rcases tri c.key y with q | q | q
      · rw [before_lt] at q; rw [q.2.2] at h2; cases h2
      · rw [before_lt] at q; rw [q.2.2] at h2; cases h2
      · exact q
    rcases tri c.key x with ⟨g1, g2, g3⟩ | ⟨g1, g2, g3⟩ | ⟨g1, g2, g3⟩
    · have e : wstep c (out, false) x = (out ++ [c], true) := by unfold wstep; simp [g1, g2]
      rw [e, wfold_true]
      have e1 : l.filter (otherB c.key) = l := filter_all fun y hy => by unfold otherB; rw [(hrest g2 y hy).1]; rfl
      have e2 : l.filter (afterB c.key) = [] := filter_none fun y hy => (hrest g2 y hy).2.1
      have e3 : l.filter (beforeB c.key) = l := filter_all fun y hy => (hrest g2 y hy).2.2
      simp [wfin, setS, g2, g3, e1, e2, e3]
    · have e : wstep c (out, false) x = (out ++ [x], false) := by unfold wstep; simp [g1, g2]
      rw [e, wfold_false c hl]
      simp [setS, g2, g3]
    · have e : wstep c (out, false) x = (out ++ [c] ++ [x], true) := by unfold wstep; simp [g1, g2]
      rw [e, wfold_true]
      have e1 : l.filter (otherB c.key) = l := filter_all fun y hy => by unfold otherB; rw [(hrest g2 y hy).1]; rfl
      have e2 : l.filter (afterB c.key) = [] := filter_none fun y hy => (hrest g2 y hy).2.1
      have e3 : l.filter (beforeB c.key) = l := filter_all fun y hy => (hrest g2 y hy).2.2
      simp [wfin, setS, g2, g3, e1, e2, e3]
theorem wfold_len (c : Ce) (l : List Ce) : (wfold c l).1.length ≤ 2 * l.length := by
  have h : ∀ (l : List Ce) (s : List Ce × Bool), (l.foldl (wstep c) s).1.length ≤ s.1.length + 2 * l.length := by
    intro l
    induction l with
    | nil => intro s; simp
    | cons x l ih =>
      intro s
      rw [List.foldl_cons]
      refine Nat.le_trans (ih _) ?_
      have : (wstep c s x).1.length ≤ s.1.length + 2 := by
        unfold wstep
        dsimp only
        split <;> split <;> simp <;> omega
      simp only [List.length_cons]
      omega
  have := h l ([], false)
  simpa [wfold] using this

set_option maxHeartbeats 4000000 in
theorem without_walk {C n c : Nat} {A : Option Addr} {l : List Ce} (q : ByteArray) (w : World) (h : Ces C w A l) (hn : l.length = n) (hm : n ≤ 1000) (hC : C ≤ w.heap.size) :
    Calls Tryz.prog 12 #[.slice A n c, .string q] w fun e w' => ∃ A2 c2, e = .returned (.tuple #[.slice A2 (cutS l q).length c2, .bool (decide ((cutS l q).length < l.length))]) ∧ w'.ownsRow w.heap.size 42 4 (.slice A2 (cutS l q).length c2) (cutS l q).length (ccs (cutS l q)) ∧ Below w.heap.size w w' := by
  obtain ⟨i0, hi, hz0, hz1, hz2⟩ := info_parts info_c
  have HP := Lib.hid h
  have HN := Lib.hid hn
  have HC := Lib.hid hC
  have hN : (n : Int) ≤ 1000 := by omega
  clear h hn hC
  go_enter Tryz.func12, Tryz.ntmps12
  go_wp2_with fail
  go_loopw [6, 7] (fun v x wr => ∃ k : Nat, k ≤ n ∧ x = .int .i64 k ∧ ∃ A2 m c2, v = .slice A2 m c2 ∧ Hid ((cutS (l.take k) q).length = m ∧ wr.ownsRow w.heap.size 42 4 (.slice A2 m c2) m (ccs (cutS (l.take k) q)) ∧ Below w.heap.size w wr)) (fun _ x _ => n - (intOf x).toNat)
  case atStart => exact ⟨0, Nat.zero_le _, rfl, none, 0, 0, rfl, rfl, World.ownsRow_nil _ _ _ _, Below.refl _ _⟩
  case round =>
    obtain ⟨k, hk, rfl, A2, m, c2, rfl, hq⟩ := hrel
    have HQ := Lib.hid hq.out
    clear hq
    have b1 : (0 : Int) ≤ (k : Int) := by omega
    by_cases hlt : k < n
    · obtain ⟨b, off, rfl, hb, hp⟩ := HP.out.1 k (by rw [HN.out]; omega)
      obtain ⟨c0, c1, c2', c3⟩ := hp.kept (w' := wr) (Nat.lt_of_lt_of_le hb HC.out) HQ.out.2.2
      have HT := Lib.hid (take_filter (l := l) (k := k) (by rw [HN.out]; exact hlt) (otherB q))
      have HM := Lib.hid (show m ≤ k by
        have h1 := HQ.out.1
        have h2 := List.length_filter_le (otherB q) (l.take k)
        rw [List.length_take] at h2
        unfold cutS at h1
        omega)
      have b2 : (k : Int) < (n : Int) := by omega
      clear hb hp
      generalize l.getD k nilC = x at *
      cases g : isB q x with
      | true =>
        have e0 : (x.key.toList == q.toList) = true := by rw [keys_eq, decide_eq_true (isB_iff.1 g).symm]
        have HT2 := Lib.hid (show cutS (l.take (k + 1)) q = cutS (l.take k) q by
          have := HT.out
          unfold cutS
          rw [this, show otherB q x = false by unfold otherB; rw [g]; rfl, if_neg (by simp), List.append_nil])
        clear HT g
        go_wp2_with fail
        go_roundw
        case rel => exact ⟨k + 1, by omega, by go_num, A2, m, c2, rfl, by rw [HT2.out]; exact HQ.out⟩
        case measure => simp [intOf]; omega
      | false =>
        have e0 : (x.key.toList == q.toList) = false := by rw [keys_eq, decide_eq_false (fun e => isB_no.1 g e.symm)]
        have HT2 := Lib.hid (show cutS (l.take (k + 1)) q = cutS (l.take k) q ++ [x] by
          have := HT.out
          unfold cutS
          rw [this, show otherB q x = true by unfold otherB; rw [g]; rfl, if_pos rfl])
        clear HT g
        have HO := Lib.hid HQ.out.2.1
        go_wp2_with (at_builtin; refine wpList_append_own _ rfl _ _ 26 rfl w.heap.size 42 i0 (.agg #[.string ⟨#[]⟩, .string ⟨#[]⟩, .int .i64 0, .int .i64 0]) 4 48 Tryz.underlying26 hi hz0 hz1 hz2 rfl (by decide) _ _ _ rfl (HO.out.alloc _) ⟨wr.heap.size, 0, none⟩ 1 1 (ccell x) rfl rfl (news_four _ _ _ _ _ _) (ccell_one x) (by have := HM.out; unfold maxLen; omega) (by have := HM.out; omega) (by have := HQ.out.2.2.size; simp; omega) ?_; intro v' w3 hown hgrow _; obtain ⟨A', c', rfl⟩ := own_shape hown)
        have HN2 := Lib.hid (show Below w.heap.size w w3 from (HQ.out.2.2.alloc HQ.out.2.2.size _).grown hgrow (by have := HQ.out.2.2.size; simp; omega) (fun g hg => (HO.out.lt g hg).1))
        have HO2 := Lib.hid hown
        clear hown hgrow
        go_wp2_with fail
        go_roundw
        case rel =>
          refine ⟨k + 1, by omega, by go_num, A', m + 1, c', rfl, ?_⟩
          rw [HT2.out, ccs_append, ccs_single, List.length_append]
          exact ⟨by rw [HQ.out.1]; rfl, HO2.out, HN2.out⟩
        case measure => simp [intOf]; omega
    · obtain rfl : n = k := by omega
      have b2 : ¬ (n : Int) < (n : Int) := by omega
      have h1 := HQ.out
      rw [List.take_of_length_le (by rw [HN.out]; exact Nat.le_refl _)] at h1
      have H1 := Lib.hid h1
      clear h1 HQ
      have hd : decide (m < n) = decide ((m : Int) < (n : Int)) := decide_eq_decide.2 (by omega)
      have HD := Lib.hid hd
      clear hd
      go_wp2_with fail
      go_ret2
      refine ⟨A2, c2, ?_, by rw [H1.out.1]; exact H1.out.2.1, H1.out.2.2⟩
      rw [H1.out.1, HN.out, HD.out]
      rfl
theorem run_leq (a b : ByteArray) (y : Ce) (hb : y.key = b) : ∀ w, (binOp .leq 9 (.string a) (.string b)).run Tryz.prog w = .ok (.bool (!afterB a y)) w := fun w => by
  subst hb
  have h1 : Op.bytesLess a.toList y.key.toList = beforeB a y := by
    rw [bytesLess_cb, ByteArray.toList_eq, ByteArray.toList_eq]
    rfl
  have h2 : (a.toList == y.key.toList) = isB a y := by
    rw [keys_eq]
    unfold isB
    exact decide_eq_decide.2 ⟨fun e => by rw [e], data_inj⟩
  have ht : (beforeB a y || isB a y) = !afterB a y := by
    rcases tri a y with h | h | h
    · rw [h.1, h.2.1, h.2.2]; rfl
    · rw [h.1, h.2.1, h.2.2]; rfl
    · rw [h.1, h.2.1, h.2.2]; rfl
  simp [binOp, Op.stringOp, h1, h2, ht]
/-- What With has so far. -/
def WS (w0 : World) (bC : Nat) (c : Ce) (b off : Nat) (x : Ce) (out : List Ce) (A : Option Addr) (m d : Nat) (w : World) : Prop :=
  out.length = m ∧ w.ownsRow (w0.heap.size + 1) 42 4 (.slice A m d) m (ccs out) ∧ Box w bC (.string c.key) (.string c.val) (.int .i64 c.blob) (.int .i64 c.size) ∧ Below w0.heap.size w0 w ∧ w0.heap.size + 1 ≤ w.heap.size ∧ CeAt w b off x
theorem WS.drew {w0 w : World} {bC b off m d : Nat} {c x : Ce} {out : List Ce} {A : Option Addr} (h : WS w0 bC c b off x out A m d w) (q : Nat) : WS w0 bC c b off x out A m d (w.drewN q) :=
  ⟨h.1, owns_kept2 h.2.1 fun _ _ => rfl, h.2.2.1, ⟨h.2.2.2.1.os, h.2.2.2.1.tape, h.2.2.2.1.output, h.2.2.2.1.size, h.2.2.2.1.block⟩, h.2.2.2.2.1, h.2.2.2.2.2⟩
theorem WS.app {w0 w w' : World} {bC b off m d : Nat} {c x z : Ce} {out : List Ce} {A A' : Option Addr} {d' : Nat} (h : WS w0 bC c b off x out A m d w) (hC : bC = w0.heap.size) (hb : b < w0.heap.size) {o : Obj}
    (hown : w'.ownsRow (w0.heap.size + 1) 42 4 (.slice A' (m + 1) d') (m + 1) (ccs out ++ ccell z)) (hg : (w.alloc o).grownBy w' (Value.slice A m d).ownBlock) : WS w0 bC c b off x (out ++ [z]) A' (m + 1) d' w' := by
  obtain ⟨h1, h2, h3, h4, h5, h6⟩ := h
  have hlo : ∀ g, (Value.slice A m d).ownBlock = some g → w0.heap.size + 1 ≤ g := fun g hg => (h2.lt g hg).1
  have hB : Below w0.heap.size w0 w' := (h4.alloc h4.size _).grown hg (by have := h4.size; simp; omega) (fun g hgg => Nat.le_of_succ_le (hlo g hgg))
  have hbl : ∀ g, g < w0.heap.size + 1 → g < w.heap.size → w'.heap[g]? = w.heap[g]? := fun g hg1 hg2 => by
    rw [hg.block g (by simp; omega) (fun e => by have := hlo g e.symm; omega)]
    exact Below.heap_alloc w o g hg2
  refine ⟨by rw [List.length_append, h1]; rfl, by rw [ccs_append, ccs_single]; exact hown, h3.heap (hbl bC (by omega) h3.lt), hB, Nat.le_trans h5 (Nat.le_trans (by simp) hg.size), ?_⟩
  have hh := hbl b (by omega) (by have := h4.size; omega)
  exact ⟨(World.cell?_of_block (w := w) (a := ⟨b, off, none⟩) hh).trans h6.1, (World.cell?_of_block (w := w) (a := ⟨b, off + 1, none⟩) hh).trans h6.2.1, (World.cell?_of_block (w := w) (a := ⟨b, off + 2, none⟩) hh).trans h6.2.2.1, (World.cell?_of_block (w := w) (a := ⟨b, off + 3, none⟩) hh).trans h6.2.2.2⟩
set_option maxHeartbeats 4000000 in
theorem with_walk {C n cp : Nat} {A : Option Addr} {l : List Ce} (c : Ce) (w : World) (h : Ces C w A l) (hr : Rise l) (hn : l.length = n) (hm : n ≤ 1000) (hC : C ≤ w.heap.size) :
    Calls Tryz.prog 7 #[.slice A n cp, cvC c] w fun e w' => NewL (setS l c) w e w' := by
  obtain ⟨i0, hi, hz0, hz1, hz2⟩ := info_parts info_c
  have HP := Lib.hid h
  have HN := Lib.hid hn
  have HC := Lib.hid hC
  have HFIN := Lib.hid (show wfin c (wfold c l) = setS l c from wfold_false c hr [])
  have hN : (n : Int) ≤ 1000 := by omega
  clear h hn hC hr
  unfold cvC cv
  have HX := Lib.hid (Box.new w (.string c.key) (.string c.val) (.int .i64 c.blob) (.int .i64 c.size))
  have HA := Lib.hid ((Below.refl w.heap.size w).alloc (Nat.le_refl _) (.cells #[.string c.key, .string c.val, .int .i64 c.blob, .int .i64 c.size] 42))
  go_enter Tryz.func7, Tryz.ntmps7
  go_wp2_with fail
  obtain ⟨bC, hbC⟩ : ∃ B, B = w.heap.size := ⟨_, rfl⟩
  have HBC := Lib.hid hbC
  rw [← hbC] at HX ⊢
  clear hbC
  have HW0 := Lib.hid (show w.heap.size + 1 ≤ (w.alloc (.cells #[.string c.key, .string c.val, .int .i64 c.blob, .int .i64 c.size] 42)).heap.size by rw [World.size_alloc]; exact Nat.le_refl _)
  generalize w.alloc (.cells #[.string c.key, .string c.val, .int .i64 c.blob, .int .i64 c.size] 42) = W at *
  go_loopw [5, 6, 7] (fun v y x wr => ∃ k : Nat, k ≤ n ∧ x = .int .i64 k ∧ ∃ (out : List Ce) (inn : Bool) (A2 : Option Addr) (m c2 : Nat), y = .bool inn ∧ v = .slice A2 m c2 ∧ Hid (wfold c (l.take k) = (out, inn) ∧ out.length = m ∧ wr.ownsRow (w.heap.size + 1) 42 4 (.slice A2 m c2) m (ccs out) ∧ Box wr bC (.string c.key) (.string c.val) (.int .i64 c.blob) (.int .i64 c.size) ∧ Below w.heap.size w wr ∧ w.heap.size + 1 ≤ wr.heap.size)) (fun _ _ x _ => n - (intOf x).toNat)
  case atStart => exact ⟨0, Nat.zero_le _, rfl, [], false, none, 0, 0, rfl, rfl, rfl, rfl, World.ownsRow_nil _ _ _ _, HX.out, HA.out, HW0.out⟩
  case round =>
    obtain ⟨k, hk, rfl, out, inn, A2, m, c2, rfl, rfl, hq⟩ := hrel
    have HF := Lib.hid hq.out.1
    have HL := Lib.hid hq.out.2.1
    have HO := Lib.hid hq.out.2.2.1
    have HX1 := Lib.hid hq.out.2.2.2.1
    have HB := Lib.hid hq.out.2.2.2.2.1
    have HS := Lib.hid hq.out.2.2.2.2.2
    have hm2 : m ≤ 2 * k := by
      have h1 := wfold_len c (l.take k)
      rw [HF.out, List.length_take] at h1
      have h2 := HL.out
      dsimp only at h1
      omega
    clear hq HX HA HW0
    have b1 : (0 : Int) ≤ (k : Int) := by omega
    by_cases hlt : k < n
    · obtain ⟨b, off, rfl, hb, hp⟩ := HP.out.1 k (by rw [HN.out]; omega)
      have HT := Lib.hid (wfold_take c l k (by rw [HN.out]; exact hlt))
      rw [HF.out] at HT
      have b2 : (k : Int) < (n : Int) := by omega
      have HBL := Lib.hid (show b < w.heap.size from Nat.lt_of_lt_of_le hb HC.out)
      have S0 := Lib.hid (show WS w bC c b (off + k * 4) (l.getD k nilC) out A2 m c2 wr from ⟨HL.out, HO.out, HX1.out, HB.out, HS.out, hp.kept (w' := wr) (Nat.lt_of_lt_of_le hb HC.out) HB.out⟩)
      clear hb hp HF HL HO HX1 HB HS
      generalize l.getD k nilC = x at *
      cases inn with
      | true =>
        cases gi : isB c.key x with
        | true =>
          have e0 : (x.key.toList == c.key.toList) = true := by rw [keys_eq, decide_eq_true (isB_iff.1 gi).symm]
          have HE := Lib.hid (show wfold c (l.take (k + 1)) = (out, true) by rw [HT.out]; unfold wstep; simp [gi])
          clear HT gi
          obtain ⟨⟨o0, o1, o2, o3⟩, c0, c1, c2', c3⟩ := And.intro S0.out.2.2.1.cells S0.out.2.2.2.2.2
          go_wp2_with fail
          go_quiet (fail)
          obtain ⟨V1, hV1⟩ : ∃ V, V = wr.drewN nq := ⟨_, rfl⟩
          have S1 := Lib.hid (show WS _ _ _ _ _ _ _ _ _ _ V1 from by rw [hV1]; exact S0.out.drew _)
          rw [← hV1]
          clear hV1 o0 o1 o2 o3 c0 c1 c2' c3
          obtain ⟨⟨o0, o1, o2, o3⟩, c0, c1, c2', c3⟩ := And.intro S1.out.2.2.1.cells S1.out.2.2.2.2.2
          go_wp2_with fail
          go_quiet (fail)
          obtain ⟨V4, hV4⟩ : ∃ V, V = V1.drewN nq := ⟨_, rfl⟩
          have S4 := Lib.hid (show WS _ _ _ _ _ _ _ _ _ _ V4 from by rw [hV4]; exact S1.out.drew _)
          rw [← hV4]
          clear hV4 o0 o1 o2 o3 c0 c1 c2' c3
          obtain ⟨⟨o0, o1, o2, o3⟩, c0, c1, c2', c3⟩ := And.intro S4.out.2.2.1.cells S4.out.2.2.2.2.2
          clear o0 o1 o2 o3 c0 c1 c2' c3
          go_wp2_with fail
          go_roundw
          case rel => exact ⟨k + 1, by omega, by go_num, out, true, A2, m, c2, rfl, rfl, HE.out, (S4.out).1, (S4.out).2.1, (S4.out).2.2.1, (S4.out).2.2.2.1, (S4.out).2.2.2.2.1⟩
          case measure => simp [intOf]; omega
        | false =>
          have e0 : (x.key.toList == c.key.toList) = false := by rw [keys_eq, decide_eq_false (fun e => isB_no.1 gi e.symm)]
          have HE := Lib.hid (show wfold c (l.take (k + 1)) = (out ++ [x], true) by rw [HT.out]; unfold wstep; simp [gi])
          clear HT gi
          obtain ⟨⟨o0, o1, o2, o3⟩, c0, c1, c2', c3⟩ := And.intro S0.out.2.2.1.cells S0.out.2.2.2.2.2
          go_wp2_with fail
          go_quiet (fail)
          obtain ⟨V1, hV1⟩ : ∃ V, V = wr.drewN nq := ⟨_, rfl⟩
          have S1 := Lib.hid (show WS _ _ _ _ _ _ _ _ _ _ V1 from by rw [hV1]; exact S0.out.drew _)
          rw [← hV1]
          clear hV1 o0 o1 o2 o3 c0 c1 c2' c3
          obtain ⟨⟨o0, o1, o2, o3⟩, c0, c1, c2', c3⟩ := And.intro S1.out.2.2.1.cells S1.out.2.2.2.2.2
          go_wp2_with fail
          go_quiet (fail)
          obtain ⟨V4, hV4⟩ : ∃ V, V = V1.drewN nq := ⟨_, rfl⟩
          have S4 := Lib.hid (show WS _ _ _ _ _ _ _ _ _ _ V4 from by rw [hV4]; exact S1.out.drew _)
          rw [← hV4]
          clear hV4 o0 o1 o2 o3 c0 c1 c2' c3
          obtain ⟨⟨o0, o1, o2, o3⟩, c0, c1, c2', c3⟩ := And.intro S4.out.2.2.1.cells S4.out.2.2.2.2.2
          go_wp2_with (at_builtin; refine wpList_append_own _ rfl _ _ 26 rfl (w.heap.size + 1) 42 i0 (.agg #[.string ⟨#[]⟩, .string ⟨#[]⟩, .int .i64 0, .int .i64 0]) 4 48 Tryz.underlying26 hi hz0 hz1 hz2 rfl (by decide) _ _ _ rfl (World.ownsRow.alloc S4.out.2.1 _) ⟨V4.heap.size, 0, none⟩ 1 1 (ccell x) rfl rfl (news_four _ _ _ _ _ _) (ccell_one x) (by unfold maxLen; omega) (by omega) (by have := S4.out.2.2.2.2.1; simp; omega) ?_; intro v' w5 hown hgrow _; obtain ⟨Aw5, dw5, rfl⟩ := own_shape hown)
          have S5 := Lib.hid (S4.out.app HBC.out HBL.out hown hgrow)
          clear hown hgrow
          clear o0 o1 o2 o3 c0 c1 c2' c3
          go_wp2_with fail
          go_roundw
          case rel => exact ⟨k + 1, by omega, by go_num, out ++ [x], true, Aw5, m + 1, dw5, rfl, rfl, HE.out, (S5.out).1, (S5.out).2.1, (S5.out).2.2.1, (S5.out).2.2.2.1, (S5.out).2.2.2.2.1⟩
          case measure => simp [intOf]; omega
      | false =>
        cases ga : afterB c.key x with
        | true =>
          have gi : isB c.key x = false := by
            rcases tri c.key x with h | h | h
            · rw [h.2.1] at ga; cases ga
            · exact h.1
            · exact h.1
          have e0 : (x.key.toList == c.key.toList) = false := by rw [keys_eq, decide_eq_false (fun e => isB_no.1 gi e.symm)]
          have HE := Lib.hid (show wfold c (l.take (k + 1)) = (out ++ [x], false) by rw [HT.out]; unfold wstep; simp [gi, ga])
          have hle := run_leq c.key x.key x rfl
          rw [ga] at hle
          clear HT gi ga
          obtain ⟨⟨o0, o1, o2, o3⟩, c0, c1, c2', c3⟩ := And.intro S0.out.2.2.1.cells S0.out.2.2.2.2.2
          go_wp2_with fail
          go_quiet (fail)
          obtain ⟨V1, hV1⟩ : ∃ V, V = wr.drewN nq := ⟨_, rfl⟩
          have S1 := Lib.hid (show WS _ _ _ _ _ _ _ _ _ _ V1 from by rw [hV1]; exact S0.out.drew _)
          rw [← hV1]
          clear hV1 o0 o1 o2 o3 c0 c1 c2' c3
          obtain ⟨⟨o0, o1, o2, o3⟩, c0, c1, c2', c3⟩ := And.intro S1.out.2.2.1.cells S1.out.2.2.2.2.2
          go_wp2_with fail
          go_quiet (fail)
          obtain ⟨V4, hV4⟩ : ∃ V, V = V1.drewN nq := ⟨_, rfl⟩
          have S4 := Lib.hid (show WS _ _ _ _ _ _ _ _ _ _ V4 from by rw [hV4]; exact S1.out.drew _)
          rw [← hV4]
          clear hV4 o0 o1 o2 o3 c0 c1 c2' c3
          obtain ⟨⟨o0, o1, o2, o3⟩, c0, c1, c2', c3⟩ := And.intro S4.out.2.2.1.cells S4.out.2.2.2.2.2
          go_wp2_with (at_builtin; refine wpList_append_own _ rfl _ _ 26 rfl (w.heap.size + 1) 42 i0 (.agg #[.string ⟨#[]⟩, .string ⟨#[]⟩, .int .i64 0, .int .i64 0]) 4 48 Tryz.underlying26 hi hz0 hz1 hz2 rfl (by decide) _ _ _ rfl (World.ownsRow.alloc S4.out.2.1 _) ⟨V4.heap.size, 0, none⟩ 1 1 (ccell x) rfl rfl (news_four _ _ _ _ _ _) (ccell_one x) (by unfold maxLen; omega) (by omega) (by have := S4.out.2.2.2.2.1; simp; omega) ?_; intro v' w5 hown hgrow _; obtain ⟨Aw5, dw5, rfl⟩ := own_shape hown)
          have S5 := Lib.hid (S4.out.app HBC.out HBL.out hown hgrow)
          clear hown hgrow
          clear o0 o1 o2 o3 c0 c1 c2' c3
          go_wp2_with fail
          go_roundw
          case rel => exact ⟨k + 1, by omega, by go_num, out ++ [x], false, Aw5, m + 1, dw5, rfl, rfl, HE.out, (S5.out).1, (S5.out).2.1, (S5.out).2.2.1, (S5.out).2.2.2.1, (S5.out).2.2.2.2.1⟩
          case measure => simp [intOf]; omega
        | false =>
          cases gi : isB c.key x with
          | true =>
            have e0 : (x.key.toList == c.key.toList) = true := by rw [keys_eq, decide_eq_true (isB_iff.1 gi).symm]
            have HE := Lib.hid (show wfold c (l.take (k + 1)) = (out ++ [c], true) by rw [HT.out]; unfold wstep; simp [gi, ga])
            have hle := run_leq c.key x.key x rfl
            rw [ga] at hle
            clear HT gi ga
            obtain ⟨⟨o0, o1, o2, o3⟩, c0, c1, c2', c3⟩ := And.intro S0.out.2.2.1.cells S0.out.2.2.2.2.2
            go_wp2_with fail
            go_quiet (fail)
            obtain ⟨V1, hV1⟩ : ∃ V, V = wr.drewN nq := ⟨_, rfl⟩
            have S1 := Lib.hid (show WS _ _ _ _ _ _ _ _ _ _ V1 from by rw [hV1]; exact S0.out.drew _)
            rw [← hV1]
            clear hV1 o0 o1 o2 o3 c0 c1 c2' c3
            obtain ⟨⟨o0, o1, o2, o3⟩, c0, c1, c2', c3⟩ := And.intro S1.out.2.2.1.cells S1.out.2.2.2.2.2
            go_wp2_with (at_builtin; refine wpList_append_own _ rfl _ _ 26 rfl (w.heap.size + 1) 42 i0 (.agg #[.string ⟨#[]⟩, .string ⟨#[]⟩, .int .i64 0, .int .i64 0]) 4 48 Tryz.underlying26 hi hz0 hz1 hz2 rfl (by decide) _ _ _ rfl (World.ownsRow.alloc S1.out.2.1 _) ⟨V1.heap.size, 0, none⟩ 1 1 (ccell c) rfl rfl (news_four _ _ _ _ _ _) (ccell_one c) (by unfold maxLen; omega) (by omega) (by have := S1.out.2.2.2.2.1; simp; omega) ?_; intro v' w3 hown hgrow _; obtain ⟨Aw3, dw3, rfl⟩ := own_shape hown)
            have S3 := Lib.hid (S1.out.app HBC.out HBL.out hown hgrow)
            clear hown hgrow
            clear o0 o1 o2 o3 c0 c1 c2' c3
            obtain ⟨⟨o0, o1, o2, o3⟩, c0, c1, c2', c3⟩ := And.intro S3.out.2.2.1.cells S3.out.2.2.2.2.2
            go_wp2_with fail
            go_quiet (fail)
            obtain ⟨V4, hV4⟩ : ∃ V, V = w3.drewN nq := ⟨_, rfl⟩
            have S4 := Lib.hid (show WS _ _ _ _ _ _ _ _ _ _ V4 from by rw [hV4]; exact S3.out.drew _)
            rw [← hV4]
            clear hV4 o0 o1 o2 o3 c0 c1 c2' c3
            obtain ⟨⟨o0, o1, o2, o3⟩, c0, c1, c2', c3⟩ := And.intro S4.out.2.2.1.cells S4.out.2.2.2.2.2
            clear o0 o1 o2 o3 c0 c1 c2' c3
            go_wp2_with fail
            go_roundw
            case rel => exact ⟨k + 1, by omega, by go_num, out ++ [c], true, Aw3, m + 1, dw3, rfl, rfl, HE.out, (S4.out).1, (S4.out).2.1, (S4.out).2.2.1, (S4.out).2.2.2.1, (S4.out).2.2.2.2.1⟩
            case measure => simp [intOf]; omega
          | false =>
            have e0 : (x.key.toList == c.key.toList) = false := by rw [keys_eq, decide_eq_false (fun e => isB_no.1 gi e.symm)]
            have HE := Lib.hid (show wfold c (l.take (k + 1)) = (out ++ [c] ++ [x], true) by rw [HT.out]; unfold wstep; simp [gi, ga])
            have hle := run_leq c.key x.key x rfl
            rw [ga] at hle
            clear HT gi ga
            obtain ⟨⟨o0, o1, o2, o3⟩, c0, c1, c2', c3⟩ := And.intro S0.out.2.2.1.cells S0.out.2.2.2.2.2
            go_wp2_with fail
            go_quiet (fail)
            obtain ⟨V1, hV1⟩ : ∃ V, V = wr.drewN nq := ⟨_, rfl⟩
            have S1 := Lib.hid (show WS _ _ _ _ _ _ _ _ _ _ V1 from by rw [hV1]; exact S0.out.drew _)
            rw [← hV1]
            clear hV1 o0 o1 o2 o3 c0 c1 c2' c3
            obtain ⟨⟨o0, o1, o2, o3⟩, c0, c1, c2', c3⟩ := And.intro S1.out.2.2.1.cells S1.out.2.2.2.2.2
            go_wp2_with (at_builtin; refine wpList_append_own _ rfl _ _ 26 rfl (w.heap.size + 1) 42 i0 (.agg #[.string ⟨#[]⟩, .string ⟨#[]⟩, .int .i64 0, .int .i64 0]) 4 48 Tryz.underlying26 hi hz0 hz1 hz2 rfl (by decide) _ _ _ rfl (World.ownsRow.alloc S1.out.2.1 _) ⟨V1.heap.size, 0, none⟩ 1 1 (ccell c) rfl rfl (news_four _ _ _ _ _ _) (ccell_one c) (by unfold maxLen; omega) (by omega) (by have := S1.out.2.2.2.2.1; simp; omega) ?_; intro v' w3 hown hgrow _; obtain ⟨Aw3, dw3, rfl⟩ := own_shape hown)
            have S3 := Lib.hid (S1.out.app HBC.out HBL.out hown hgrow)
            clear hown hgrow
            clear o0 o1 o2 o3 c0 c1 c2' c3
            obtain ⟨⟨o0, o1, o2, o3⟩, c0, c1, c2', c3⟩ := And.intro S3.out.2.2.1.cells S3.out.2.2.2.2.2
            go_wp2_with fail
            go_quiet (fail)
            obtain ⟨V4, hV4⟩ : ∃ V, V = w3.drewN nq := ⟨_, rfl⟩
            have S4 := Lib.hid (show WS _ _ _ _ _ _ _ _ _ _ V4 from by rw [hV4]; exact S3.out.drew _)
            rw [← hV4]
            clear hV4 o0 o1 o2 o3 c0 c1 c2' c3
            obtain ⟨⟨o0, o1, o2, o3⟩, c0, c1, c2', c3⟩ := And.intro S4.out.2.2.1.cells S4.out.2.2.2.2.2
            go_wp2_with (at_builtin; refine wpList_append_own _ rfl _ _ 26 rfl (w.heap.size + 1) 42 i0 (.agg #[.string ⟨#[]⟩, .string ⟨#[]⟩, .int .i64 0, .int .i64 0]) 4 48 Tryz.underlying26 hi hz0 hz1 hz2 rfl (by decide) _ _ _ rfl (World.ownsRow.alloc S4.out.2.1 _) ⟨V4.heap.size, 0, none⟩ 1 1 (ccell x) rfl rfl (news_four _ _ _ _ _ _) (ccell_one x) (by unfold maxLen; omega) (by omega) (by have := S4.out.2.2.2.2.1; simp; omega) ?_; intro v' w5 hown hgrow _; obtain ⟨Aw5, dw5, rfl⟩ := own_shape hown)
            have S5 := Lib.hid (S4.out.app HBC.out HBL.out hown hgrow)
            clear hown hgrow
            clear o0 o1 o2 o3 c0 c1 c2' c3
            go_wp2_with fail
            go_roundw
            case rel => exact ⟨k + 1, by omega, by go_num, out ++ [c] ++ [x], true, Aw5, m + 1 + 1, dw5, rfl, rfl, HE.out, (S5.out).1, (S5.out).2.1, (S5.out).2.2.1, (S5.out).2.2.2.1, (S5.out).2.2.2.2.1⟩
            case measure => simp [intOf]; omega
    · obtain rfl : n = k := by omega
      have b2 : ¬ (n : Int) < (n : Int) := by omega
      have hfin := HFIN.out
      have hf0 := HF.out
      rw [List.take_of_length_le (by rw [HN.out]; exact Nat.le_refl _)] at hf0
      rw [hf0] at hfin
      cases inn with
      | true =>
        have HE := Lib.hid (show out = setS l c by unfold wfin at hfin; simpa using hfin)
        clear hfin hf0
        go_wp2_with fail
        go_ret
        refine ⟨A2, c2, by rw [← HE.out, HL.out]; rfl, ?_, HB.out⟩
        unfold Own
        rw [← HE.out, HL.out]
        exact own_base HO.out (Nat.le_succ _)
      | false =>
        have HE := Lib.hid (show out ++ [c] = setS l c by unfold wfin at hfin; simpa using hfin)
        clear hfin hf0
        obtain ⟨o0, o1, o2, o3⟩ := HX1.out.cells
        go_wp2_with (at_builtin; refine wpList_append_own _ rfl _ _ 26 rfl (w.heap.size + 1) 42 i0 (.agg #[.string ⟨#[]⟩, .string ⟨#[]⟩, .int .i64 0, .int .i64 0]) 4 48 Tryz.underlying26 hi hz0 hz1 hz2 rfl (by decide) _ _ _ rfl (HO.out.alloc _) ⟨wr.heap.size, 0, none⟩ 1 1 (ccell c) rfl rfl (news_four _ _ _ _ _ _) (ccell_one c) (by unfold maxLen; omega) (by omega) (by have := HS.out; simp; omega) ?_; intro v' w3 hown hgrow _; obtain ⟨A', c', rfl⟩ := own_shape hown)
        go_ret
        have hB3 : Below w.heap.size w w3 := (HB.out.alloc HB.out.size _).grown hgrow (by have := HB.out.size; simp; omega) (fun g hg => Nat.le_of_succ_le (HO.out.lt g hg).1)
        have hlen : (setS l c).length = m + 1 := by rw [← HE.out, List.length_append, HL.out]; rfl
        refine ⟨A', c', by rw [hlen]; rfl, ?_, hB3⟩
        unfold Own
        rw [hlen, ← HE.out, ccs_append, ccs_single]
        exact own_base hown (Nat.le_succ _)
end Go.Proofs.YtljegjcajlkgiaaGreat
