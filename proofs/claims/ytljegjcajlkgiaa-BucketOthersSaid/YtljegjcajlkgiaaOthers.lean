/- Putting one cell into a page, or taking it out, leaves all others, and the page's kind, depth and next. -/
import Derived.Test.YtljegjcajlkgiaaRows
import Derived.Test.YtljegjcajlkgiaaLaws
import Derived.Deep.RegionHeld3
import Derived.StillTailTactics
import Derived.BigQuiet
import Derived.Laws.MakeOwn
import Derived.Deep.DeepCutAuto
import Derived.Deep.RegionLaw
import Derived.Lib.Hide
import Derived.WalkKit
import Derived.ProofKit
import Derived.OpenShut
import Derived.ChangeOld
import Derived.Below
import Derived.Carry
namespace Go.Proofs.Ytljegjcajlkgiaa.bucketOthers
open Go.ChangeShapes Go.WideShapes Go.ChangeAt Go.RowKit
set_option linter.unusedVariables false

theorem own : ownKnob Try.prog.godebug = none := by kernel_rfl
theorem laidOut : laidOutB Try.prog = true := by kernel_rfl

def PgR (m : List Ce) (q : ByteArray) (p : Pg) : Prop := p = nilPg ∨ ∃ l, p = ⟨4, 2, 9, bodyOf l⟩ ∧ putOk l = true ∧ ∀ x ∈ m, x.key ≠ q → findS l x.key = some x
theorem pgR_self {m : List Ce} {q : ByteArray} (hm : putOk m = true) : PgR m q ⟨4, 2, 9, bodyOf m⟩ := .inr ⟨m, rfl, hm, fun x hx _ => find_is (putOk_rise hm) hx⟩
theorem pgR_set {m : List Ce} (hm : putOk m = true) (c : Ce) : PgR m c.key (setP ⟨4, 2, 9, bodyOf m⟩ c).1 := by
  obtain ⟨g, e⟩ := goodP_body (k := 4) rfl hm
  unfold setP
  dsimp only
  rw [g, e, if_pos rfl]
  split
  · split
    · next h =>
      refine .inr ⟨_, rfl, h, fun x hx hk => ?_⟩
      rw [find_set_other (putOk_rise hm) hk]
      exact find_is (putOk_rise hm) hx
    · exact .inl rfl
  · exact .inl rfl
theorem pgR_cut {m : List Ce} (hm : putOk m = true) (q : ByteArray) : PgR m q (cutP ⟨4, 2, 9, bodyOf m⟩ q).1 := by
  obtain ⟨g, e⟩ := goodP_body (k := 4) rfl hm
  unfold cutP
  dsimp only
  rw [g, e, if_pos rfl]
  split
  · exact .inl rfl
  · refine .inr ⟨_, rfl, putOk_cut hm q, fun x hx hk => ?_⟩
    rw [find_cut_other (putOk_rise hm) hk]
    exact find_is (putOk_rise hm) hx
/-- A page, at this address. -/
def PAt (w : World) (b off : Nat) (p : Pg) : Prop := w.cell? ⟨b, off, none⟩ = some (.int .i64 p.k) ∧ w.cell? ⟨b, off + 1, none⟩ = some (.int .i64 p.d) ∧ w.cell? ⟨b, off + 2, none⟩ = some (.int .i64 p.x) ∧ w.cell? ⟨b, off + 3, none⟩ = some (.string (str p.b))
theorem pages3 (V : World) (p0 p1 p2 : Pg) : ∀ k, k < 3 → PAt (V.alloc (.cells #[.int .i64 p0.k, .int .i64 p0.d, .int .i64 p0.x, .string (str p0.b), .int .i64 p1.k, .int .i64 p1.d, .int .i64 p1.x, .string (str p1.b), .int .i64 p2.k, .int .i64 p2.d, .int .i64 p2.x, .string (str p2.b)] 25)) V.heap.size (k * 4) ([p0, p1, p2].getD k nilPg) := by
  intro k hk
  have h := fun j => cell_of_row _ V.heap.size j _ _ _ (heap_alloc_new V (.cells #[.int .i64 p0.k, .int .i64 p0.d, .int .i64 p0.x, .string (str p0.b), .int .i64 p1.k, .int .i64 p1.d, .int .i64 p1.x, .string (str p1.b), .int .i64 p2.k, .int .i64 p2.d, .int .i64 p2.x, .string (str p2.b)] 25))
  rcases k with _ | _ | _ | k
  · exact ⟨h 0, h 1, h 2, h 3⟩
  · exact ⟨h 4, h 5, h 6, h 7⟩
  · exact ⟨h 8, h 9, h 10, h 11⟩
  · omega
theorem run_pages3 (w : World) (k0 d0 x0 : Int) (b0 : ByteArray) (k1 d1 x1 : Int) (b1 : ByteArray) (k2 d2 x2 : Int) (b2 : ByteArray) : (Instr.buildSlice 50 3 #[(0, .agg #[.int .i64 k0, .int .i64 d0, .int .i64 x0, .string b0]), (1, .agg #[.int .i64 k1, .int .i64 d1, .int .i64 x1, .string b1]), (2, .agg #[.int .i64 k2, .int .i64 d2, .int .i64 x2, .string b2])]).run Try.prog w = .ok (.slice (some ⟨w.heap.size, 0, none⟩) 3 3) (w.alloc (.cells #[.int .i64 k0, .int .i64 d0, .int .i64 x0, .string b0, .int .i64 k1, .int .i64 d1, .int .i64 x1, .string b1, .int .i64 k2, .int .i64 d2, .int .i64 x2, .string b2] 25)) := by
  kernel_rfl
theorem wp_bs3 {P : Program} {w : World} {o : Oper} {a : Act} {K : Act → World → Prop} {Q : Exit → Act → World → Prop} (t : TypeId) (n : Nat) (x0 x1 x2 : Operand) (ho : o.op = .buildSlice t n #[(0, x0), (1, x1), (2, x2)])
    {v0 v1 v2 : Value} {v : Value} {w' : World} (hr : (Instr.buildSlice t n #[(0, v0), (1, v1), (2, v2)]).run P w = .ok v w') (h0 : a.eval x0 = v0) (h1 : a.eval x1 = v1) (h2 : a.eval x2 = v2) (h : K (a.put o.dst v) w') : o.wp P a w K Q := by
  unfold Oper.wp execOp
  simp only [ho, List.map_toArray, List.map_cons, List.map_nil, h0, h1, h2, Sem.run_bind, Sem.run_pure, Result.andThen_ok, hr]
  exact h
theorem step_bs3 {P : Program} {w : World} {ops : Array Oper} {o : Oper} {a : Act} {K : Act → World → Prop} {Q : Exit → Act → World → Prop} {E : Prop} (hg : o.guard = none) (t : TypeId) (n : Nat) (x0 x1 x2 : Operand) (ho : o.op = .buildSlice t n #[(0, x0), (1, x1), (2, x2)])
    {v0 v1 v2 : Value} {v : Value} {w' : World} (hr : (Instr.buildSlice t n #[(0, v0), (1, v1), (2, v2)]).run P w = .ok v w') (h0 : a.eval x0 = v0) (h1 : a.eval x1 = v1) (h2 : a.eval x2 = v2) (h : K (a.put o.dst v) w') :
    if Region.wanted o (yielded ops a.tmps) = true then Oper.wp P o a w K Q else E := by
  have hw : Region.wanted o (yielded ops a.tmps) = true := by simp [Region.wanted, hg]
  rw [if_pos hw]
  exact wp_bs3 t n x0 x1 x2 ho hr h0 h1 h2 h
theorem PAt.kept {w w' : World} {b off : Nat} {p : Pg} (h : PAt w b off p) (hb : Below w.heap.size w w') : PAt w' b off p :=
  ⟨(hb.cell (World.block_lt_of_cell? w _ h.1)).trans h.1, (hb.cell (World.block_lt_of_cell? w _ h.2.1)).trans h.2.1, (hb.cell (World.block_lt_of_cell? w _ h.2.2.1)).trans h.2.2.1, (hb.cell (World.block_lt_of_cell? w _ h.2.2.2)).trans h.2.2.2⟩

set_option maxRecDepth 100000 in
set_option maxHeartbeats 8000000 in
theorem walk (A0 : Option Addr) (n0 c0 : Nat) (l0 : List Ce) (k1 s1 : ByteArray) (b1 z1 : Int) (w : World) (w0 : CesL w A0 n0 l0) (e0 : n0 ≤ maxLen) (wk1 : k1.size ≤ maxLen) (ws1 : s1.size ≤ maxLen) (wb1 : (Lit.int .i64 b1).wf = true) (wz1 : (Lit.int .i64 z1).wf = true) :
    Calls Try.prog 7 #[.slice A0 n0 c0, .agg #[.string k1, .string s1, .int .i64 b1, .int .i64 z1]] w fun e w' => e = .returned (.bool true) ∧ Below w.heap.size w w' := by
  have AL := Lib.hid alive_yes
  by_cases cc : 30 < (n0 : Int)
  · as_aux_lemma =>
      have g0 : decide (30 < (n0 : Int)) = true := decide_eq_true cc
      have HB0 := Lib.hid ((Below.refl w.heap.size w).alloc (Nat.le_refl _) (.cells #[.string k1, .string s1, .int .i64 b1, .int .i64 z1] 31))
      go_enter Try.func7, Try.ntmps7
      go_wp2_with fail
      refine (AL.out _).mono ?_; rintro e w1 ⟨rfl, hb⟩
      have HB1 := Lib.hid (HB0.out.trans (hb.mono (Below.size HB0.out)))
      clear hb HB0 
      go_wp2_with fail
      go_ret
      exact ⟨rfl, HB1.out⟩
  · have g0 : decide (30 < (n0 : Int)) = false := decide_eq_false cc
    by_cases cd : 60 < (k1.size : Int)
    · as_aux_lemma =>
        have g1 : decide (60 < (k1.size : Int)) = true := decide_eq_true cd
        have HB0 := Lib.hid ((Below.refl w.heap.size w).alloc (Nat.le_refl _) (.cells #[.string k1, .string s1, .int .i64 b1, .int .i64 z1] 31))
        go_enter Try.func7, Try.ntmps7
        go_wp2_with fail
        refine (AL.out _).mono ?_; rintro e w1 ⟨rfl, hb⟩
        have HB1 := Lib.hid (HB0.out.trans (hb.mono (Below.size HB0.out)))
        clear hb HB0 
        go_wp2_with fail
        go_ret
        exact ⟨rfl, HB1.out⟩
    · have g1 : decide (60 < (k1.size : Int)) = false := decide_eq_false cd
      obtain ⟨hn, hces⟩ := w0
      have hm : n0 ≤ 30 := by omega
      have HP := Lib.hid (fun w' (hb : Below w.heap.size w w') => hces.kept hb)
      have HN := Lib.hid hn
      clear hces hn
      have SE := Lib.hid (fun m (h : putOk m = true) c w => set_any 4 2 9 (bodyOf m) c (by rw [bodyOf_length h]; omega) w)
      have CU := Lib.hid (fun m (h : putOk m = true) q w => cut_any 4 2 9 (bodyOf m) q (by rw [bodyOf_length h]; omega) w)
      have FI := Lib.hid (fun m (h : putOk m = true) q w => (find_any 4 2 9 (bodyOf m) q (by rw [bodyOf_length h]; omega) w))
      have CE := Lib.hid (fun m (h : putOk m = true) w => (bcells_any 4 2 9 (bodyOf m) (by rw [bodyOf_length h]; omega) w))
      have EM := Lib.hid (fun w => empty_any 4 2 9 w)
      have AT := Lib.hid at_any
      have hz0 : str (zs 240) = str (bodyOf []) := by rw [bodyOf_nil]
      rw [hz0] at EM
      clear hz0
      unfold pv at *
      have HB0 := Lib.hid (Below.refl w.heap.size w)
      have hal := (Below.refl (w).heap.size (w)).alloc (Nat.le_refl _) (.cells #[.string k1, .string s1, .int .i64 b1, .int .i64 z1] 31)
      have C0 := Lib.hid (Box.new (w) (.string k1) (.string s1) (.int .i64 b1) (.int .i64 z1))
      replace HB0 := Lib.hid (HB0.out.trans (hal.mono (Below.size HB0.out)))
      clear hal
      go_enter Try.func7, Try.ntmps7
      go_wp2_with fail
      obtain ⟨bC, hbC⟩ : ∃ bC, bC = (w).heap.size := ⟨_, rfl⟩
      rw [← hbC] at C0 ⊢
      have HLC := Lib.hid hbC
      clear hbC
      generalize (w).alloc (.cells #[.string k1, .string s1, .int .i64 b1, .int .i64 z1] 31) = v0 at *
      refine (AL.out _).mono ?_; rintro e w1 ⟨rfl, hb⟩
      have C1 := Lib.hid (C0.out.kept hb)
      have HB1 := Lib.hid (HB0.out.trans (hb.mono (Below.size HB0.out)))
      clear hb HB0 C0
      clear AL
      go_wp2_with fail
      refine (EM.out _).mono ?_; rintro e w2 ⟨rfl, hb⟩
      have C2 := Lib.hid (C1.out.kept hb)
      have HB2 := Lib.hid (HB1.out.trans (hb.mono (Below.size HB1.out)))
      clear hb HB1 C1
      have HSZ := Lib.hid (show bC < w2.heap.size from C2.out.lt)
      have hal := (Below.refl (w2).heap.size (w2)).alloc (Nat.le_refl _) (.cells #[.int .i64 4, .int .i64 2, .int .i64 9, .string (str (bodyOf []))] 25)
      replace C2 := Lib.hid (C2.out.kept hal)
      have P2 := Lib.hid (PBox.new (w2) (4) (2) (9) ((str (bodyOf []))))
      replace HB2 := Lib.hid (HB2.out.trans (hal.mono (Below.size HB2.out)))
      clear hal
      go_wp2_with fail
      obtain ⟨bP, hbP⟩ : ∃ bP, bP = (w2).heap.size := ⟨_, rfl⟩
      rw [← hbP] at P2 ⊢
      have HLP := Lib.hid hbP
      clear hbP
      generalize (w2).alloc (.cells #[.int .i64 4, .int .i64 2, .int .i64 9, .string (str (bodyOf []))] 25) = v2 at *
      have HLE := Lib.hid (show w.heap.size ≤ bC ∧ w.heap.size ≤ bP ∧ bC ≠ bP from by
        have h1 := HLC.out
        have h2 := HLP.out
        have h3 := HSZ.out
        omega)
      have HST := Lib.hid (show ∃ m, putOk m = true ∧ PBox v2 bP 4 2 9 (str (bodyOf m)) ∧ Box v2 bC (.string k1) (.string s1) (.int .i64 b1) (.int .i64 z1) ∧ Below w.heap.size w v2 from ⟨[], putOk_nil, P2.out, C2.out, HB2.out⟩)
      clear P2 C2 HB2 HLP HLC EM
      go_loopw [34] (fun x wr => ∃ k : Nat, k ≤ n0 ∧ x = .int .i64 k ∧ Hid (∃ m, putOk m = true ∧ PBox wr bP 4 2 9 (str (bodyOf m)) ∧ Box wr bC (.string k1) (.string s1) (.int .i64 b1) (.int .i64 z1) ∧ Below w.heap.size w wr)) (fun x _ => n0 - (intOf x).toNat)
      case atStart => exact ⟨0, Nat.zero_le _, rfl, HST.out⟩
      case round =>
        obtain ⟨k, hk, rfl, hq⟩ := hrel
        obtain ⟨m, hm0, hp0, hc0, hb0⟩ := hq.out
        have HM := Lib.hid hm0
        have P0 := Lib.hid hp0
        have C0 := Lib.hid hc0
        have HB0 := Lib.hid hb0
        clear hq hm0 hp0 hc0 hb0 HST
        have q0 : (0 : Int) ≤ (k : Int) := by omega
        by_cases hlt : k < n0
        · have q1 : (k : Int) < (n0 : Int) := by omega
          obtain ⟨b, off, rfl, hbk, c0, c1, c2, c3⟩ := (HP.out wr HB0.out).1 k (by rw [HN.out]; exact hlt)
          generalize l0.getD k nilC = y at *
          clear hbk
          have hal := (Below.refl (wr).heap.size (wr)).alloc (Nat.le_refl _) (.cells #[.string y.key, .string y.val, .int .i64 y.blob, .int .i64 y.size] 31)
          replace P0 := Lib.hid (P0.out.kept hal)
          replace C0 := Lib.hid (C0.out.kept hal)
          have X0 := Lib.hid (Box.new (wr) (.string y.key) (.string y.val) (.int .i64 y.blob) (.int .i64 y.size))
          replace HB0 := Lib.hid (HB0.out.trans (hal.mono (Below.size HB0.out)))
          clear hal
          obtain ⟨oP0, oP1, oP2, oP3⟩ := P0.out.cells
          go_wp2_with fail
          clear oP0 oP1 oP2 oP3
          clear c0 c1 c2 c3
          obtain ⟨bX, hbX⟩ : ∃ bX, bX = (wr).heap.size := ⟨_, rfl⟩
          rw [← hbX] at X0 ⊢
          have HLX := Lib.hid hbX
          clear hbX
          generalize (wr).alloc (.cells #[.string y.key, .string y.val, .int .i64 y.blob, .int .i64 y.size] 31) = v0 at *
          clear X0
          clear HLX
          have SY := Lib.hid (SE.out m HM.out y)
          have hcs := setP_body (k := 4) (d := 2) (x := 9) rfl HM.out y
          unfold cvC cv at SY
          rcases hcs with ⟨hv, _, hok⟩ | ⟨ev, e0, e1, hv, _⟩
          · as_aux_lemma =>
              rw [hv] at SY
              have HOK := Lib.hid hok
              clear hv hok
              obtain ⟨b2, hb2⟩ : ∃ b2, b2 = str (bodyOf (setS m y)) := ⟨_, rfl⟩
              have HB2E := Lib.hid hb2
              rw [← hb2] at SY
              clear hb2
              refine (SY.out _).mono ?_; rintro e w1 ⟨rfl, hb⟩
              have P1 := Lib.hid (P0.out.kept hb)
              have C1 := Lib.hid (C0.out.kept hb)
              have HB1 := Lib.hid (HB0.out.trans (hb.mono (Below.size HB0.out)))
              clear hb HB0 P0 C0
              have hal := (Below.refl (w1).heap.size (w1)).alloc (Nat.le_refl _) (.cells #[.int .i64 4, .int .i64 2, .int .i64 9, .string b2] 25)
              replace P1 := Lib.hid (P1.out.kept hal)
              replace C1 := Lib.hid (C1.out.kept hal)
              have Q1 := Lib.hid (PBox.new (w1) (4) (2) (9) (b2))
              replace HB1 := Lib.hid (HB1.out.trans (hal.mono (Below.size HB1.out)))
              clear hal
              obtain ⟨⟨oP0, oP1, oP2, oP3⟩, fP0, fP1, fP2, fP3⟩ := And.intro P1.out.cells P1.out.free
              go_wp2_with fail
              go_roundw
              case rel =>
                refine ⟨k + 1, by omega, by go_num, setS m y, HOK.out, ?_, ?_, ?_⟩
                · rw [← HB2E.out]; exact P1.out.set4 _ _ _ _
                · exact C1.out.heap (heap_set4 _ _ _ _ _ _ _ HLE.out.2.2)
                · exact below_set4 HB1.out HLE.out.2.1
              case measure => simp [intOf]; omega
          · as_aux_lemma =>
              rw [hv] at SY
              clear hv
              refine (SY.out _).mono ?_; rintro e w1 ⟨rfl, hb⟩
              have P1 := Lib.hid (P0.out.kept hb)
              have C1 := Lib.hid (C0.out.kept hb)
              have HB1 := Lib.hid (HB0.out.trans (hb.mono (Below.size HB0.out)))
              clear hb HB0 P0 C0
              have hal := (Below.refl (w1).heap.size (w1)).alloc (Nat.le_refl _) (.cells #[.int .i64 0, .int .i64 0, .int .i64 0, .string ⟨#[]⟩] 25)
              replace P1 := Lib.hid (P1.out.kept hal)
              replace C1 := Lib.hid (C1.out.kept hal)
              have Q1 := Lib.hid (PBox.new (w1) (0) (0) (0) (⟨#[]⟩))
              replace HB1 := Lib.hid (HB1.out.trans (hal.mono (Below.size HB1.out)))
              clear hal
              go_wp2_with fail
              go_roundw
              case rel => exact ⟨k + 1, by omega, by go_num, m, HM.out, P1.out, C1.out, HB1.out⟩
              case measure => simp [intOf]; omega
        · as_aux_lemma =>
            obtain rfl : n0 = k := by omega
            have q1 : ¬ (n0 : Int) < (n0 : Int) := by omega
            have CY := Lib.hid (CE.out m HM.out)
            rw [(goodP_body (k := 4) rfl HM.out).2] at CY
            unfold NewL at CY
            obtain ⟨N, hN⟩ : ∃ N, m.length = N := ⟨_, rfl⟩
            have HNM := Lib.hid hN
            rw [hN] at CY
            have hN47 : N ≤ 47 := by rw [← hN]; exact put_len HM.out
            have SS := Lib.hid (SE.out m HM.out ⟨k1, s1, b1, z1⟩)
            have CC := Lib.hid (CU.out m HM.out k1)
            obtain ⟨⟨⟨pk, pd, px, pb⟩, pe⟩, hpr⟩ : ∃ r, r = setP ⟨4, 2, 9, bodyOf m⟩ ⟨k1, s1, b1, z1⟩ := ⟨_, rfl⟩
            obtain ⟨⟨⟨ck, cd, cx, cb⟩, ce⟩, hcr⟩ : ∃ r, r = cutP ⟨4, 2, 9, bodyOf m⟩ k1 := ⟨_, rfl⟩
            have HR0 := Lib.hid (pgR_self (q := k1) HM.out)
            have HR1 := Lib.hid (show PgR m k1 ⟨pk, pd, px, pb⟩ by have := pgR_set HM.out ⟨k1, s1, b1, z1⟩; rw [← hpr] at this; exact this)
            have HR2 := Lib.hid (show PgR m k1 ⟨ck, cd, cx, cb⟩ by have := pgR_cut HM.out k1; rw [← hcr] at this; exact this)
            rw [← hpr] at SS
            rw [← hcr] at CC
            unfold cvC cv at SS
            change Hid (∀ w, Calls _ _ _ w (fun e w' => e = .returned (.tuple #[.agg #[.int .i64 pk, .int .i64 pd, .int .i64 px, .string (str pb)], .int .i64 pe]) ∧ _)) at SS
            change Hid (∀ w, Calls _ _ _ w (fun e w' => e = .returned (.tuple #[.agg #[.int .i64 ck, .int .i64 cd, .int .i64 cx, .string (str cb)], .int .i64 ce]) ∧ _)) at CC
            obtain ⟨sp, hsp⟩ : ∃ s, str pb = s := ⟨_, rfl⟩
            obtain ⟨sc, hsc⟩ : ∃ s, str cb = s := ⟨_, rfl⟩
            obtain ⟨sm, hsm⟩ : ∃ s, str (bodyOf m) = s := ⟨_, rfl⟩
            rw [hsp, hsm] at SS
            rw [hsc, hsm] at CC
            rw [hsm] at CY P0
            have HSP := Lib.hid hsp
            have HSC := Lib.hid hsc
            have HSM := Lib.hid hsm
            clear hN hpr hcr hsp hsc hsm
            obtain ⟨oP0, oP1, oP2, oP3⟩ := P0.out.cells
            go_wp2_with fail
            clear oP0 oP1 oP2 oP3
            refine (CY.out _).mono ?_; rintro e w1 ⟨A2, c2, rfl, ho, hb⟩
            have P1 := Lib.hid (P0.out.kept hb)
            have C1 := Lib.hid (C0.out.kept hb)
            have HB1 := Lib.hid (HB0.out.trans (hb.mono (Below.size HB0.out)))
            have HW1 := Lib.hid (Own.ces (own_n ho HNM.out) HNM.out (put_sizes HM.out) (max_small (by omega)))
            clear ho hb P0 C0 HB0 CY
            go_upto_region 12 with fail
            have A0 := fun r (h : Held w1 r) => h.cell P1.out.cells.1
            have A1 := fun r (h : Held w1 r) => h.cell P1.out.cells.2.1
            have A2x := fun r (h : Held w1 r) => h.cell P1.out.cells.2.2.1
            have A3 := fun r (h : Held w1 r) => h.cell P1.out.cells.2.2.2
            have D0 := fun r (h : Held w1 r) => h.cell C1.out.cells.1
            have D1 := fun r (h : Held w1 r) => h.cell C1.out.cells.2.1
            have D2 := fun r (h : Held w1 r) => h.cell C1.out.cells.2.2.1
            have D3 := fun r (h : Held w1 r) => h.cell C1.out.cells.2.2.2
            refine wp_region_noPanic ?_
            refine wp_region_held_drew (S := Held w1) (by kernel_rfl) ?_ (fun hHeld => ?_)
            · exact Held.start _
            refine wpAnyH_take (i := 0) (oi := { dst := some 50, op := Op.load 25 (Operand.tmp 5), type := 25, pos := "more2.go:42", after := #[], guard := none }) (v := .agg #[.int .i64 4, .int .i64 2, .int .i64 9, .string sm]) rfl (by kernel_rfl) (by kernel_rfl) (by kernel_rfl) (fun _ _ _ h => h) (Or.inl ⟨by rfl, fun w' hSw => by ((try dsimp only at hSw); have := A0 _ hSw; have := A1 _ hSw; have := A2x _ hSw; have := A3 _ hSw; go_simp)⟩) (by assumption) ?_
            (try simp only [Act.put, List.setIfInBounds_toArray, List.set_cons_zero, List.set_cons_succ])
            refine wpAnyH_take (i := 1) (oi := { dst := some 51, op := Op.load 25 (Operand.tmp 5), type := 25, pos := "more2.go:42", after := #[], guard := none }) (v := .agg #[.int .i64 4, .int .i64 2, .int .i64 9, .string sm]) rfl (by kernel_rfl) (by kernel_rfl) (by kernel_rfl) (fun _ _ _ h => h) (Or.inl ⟨by rfl, fun w' hSw => by ((try dsimp only at hSw); have := A0 _ hSw; have := A1 _ hSw; have := A2x _ hSw; have := A3 _ hSw; go_simp)⟩) (by assumption) ?_
            (try simp only [Act.put, List.setIfInBounds_toArray, List.set_cons_zero, List.set_cons_succ])
            refine wpAnyH_take (i := 2) (oi := { dst := some 52, op := Op.load 31 (Operand.tmp 3), type := 31, pos := "more2.go:42", after := #[], guard := none }) (v := .agg #[.string k1, .string s1, .int .i64 b1, .int .i64 z1]) rfl (by kernel_rfl) (by kernel_rfl) (by kernel_rfl) (fun _ _ _ h => h) (Or.inl ⟨by rfl, fun w' hSw => by ((try dsimp only at hSw); have := D0 _ hSw; have := D1 _ hSw; have := D2 _ hSw; have := D3 _ hSw; go_simp)⟩) (by assumption) ?_
            (try simp only [Act.put, List.setIfInBounds_toArray, List.set_cons_zero, List.set_cons_succ])
            refine wpAnyH_take (i := 7) (oi := { dst := some 57, op := Op.load 25 (Operand.tmp 5), type := 25, pos := "more2.go:42", after := #[], guard := none }) (v := .agg #[.int .i64 4, .int .i64 2, .int .i64 9, .string sm]) rfl (by kernel_rfl) (by kernel_rfl) (by kernel_rfl) (fun _ _ _ h => h) (Or.inl ⟨by rfl, fun w' hSw => by ((try dsimp only at hSw); have := A0 _ hSw; have := A1 _ hSw; have := A2x _ hSw; have := A3 _ hSw; go_simp)⟩) (by assumption) ?_
            (try simp only [Act.put, List.setIfInBounds_toArray, List.set_cons_zero, List.set_cons_succ])
            refine wpAnyH_take (i := 8) (oi := { dst := some 58, op := Op.fieldAddr 31 (Operand.tmp 3) 0, type := 0, pos := "more2.go:42", after := #[], guard := none }) (v := .pointer (some ⟨bC, 0, none⟩)) rfl (by kernel_rfl) (by kernel_rfl) (by kernel_rfl) (fun _ _ _ h => h) (Or.inl ⟨by rfl, fun w' hSw => by ((try dsimp only at hSw); go_simp)⟩) (by assumption) ?_
            (try simp only [Act.put, List.setIfInBounds_toArray, List.set_cons_zero, List.set_cons_succ])
            refine wpAnyH_take (i := 9) (oi := { dst := some 59, op := Op.load 9 (Operand.tmp 58), type := 9, pos := "more2.go:42", after := #[{ on := 8, ground := Ground.data }], guard := none }) (v := .string k1) rfl (by kernel_rfl) (by kernel_rfl) (by kernel_rfl) (fun _ _ _ h => h) (Or.inl ⟨by rfl, fun w' hSw => by ((try dsimp only at hSw); have := D0 _ hSw; go_simp)⟩) (by assumption) ?_
            (try simp only [Act.put, List.setIfInBounds_toArray, List.set_cons_zero, List.set_cons_succ])
            refine wpAnyH_take (i := 16) (oi := { dst := some 66, op := Op.move (Operand.const (Value.int IntKind.i64 0)), type := 3, pos := "more2.go:42", after := #[], guard := none }) (v := .int .i64 0) rfl (by kernel_rfl) (by kernel_rfl) (by kernel_rfl) (fun _ _ _ h => h) (Or.inl ⟨by rfl, fun w' hSw => by ((try dsimp only at hSw); go_simp)⟩) (by assumption) ?_
            (try simp only [Act.put, List.setIfInBounds_toArray, List.set_cons_zero, List.set_cons_succ])
            refine wpAnyH_ready (rs := [3]) (by kernel_rfl) (by simp) ?_
            refine AllReadyH.cons (o := { dst := some 53, op := Op.call { callee := Callee.value (Operand.func 15), args := #[Operand.tmp 51, Operand.tmp 52], argTypes := #[25, 31] }, type := 36, pos := "more2.go:42", after := #[{ on := 1, ground := Ground.data }, { on := 2, ground := Ground.data }], guard := none }) rfl (fun K hK => ?_) ?_
            · go_simp; go_at_call 15; refine (SS.out _).mono ?_; rintro e u1 ⟨rfl, hbu1⟩
              refine hK.out _ _ ?_ (fun hHeld => ?_)
              · exact Held.step (by assumption) hbu1
              clear hK K
              (try simp only [Act.put, List.setIfInBounds_toArray, List.set_cons_zero, List.set_cons_succ])
              refine wpAnyH_take (i := 4) (oi := { dst := some 54, op := Op.extract (Operand.tmp 53) 0, type := 25, pos := "more2.go:42", after := #[{ on := 3, ground := Ground.data }], guard := none }) (v := .agg #[.int .i64 pk, .int .i64 pd, .int .i64 px, .string sp]) rfl (by kernel_rfl) (by kernel_rfl) (by kernel_rfl) (fun _ _ _ h => h) (Or.inl ⟨by rfl, fun w' hSw => by ((try dsimp only at hSw); go_simp)⟩) (by assumption) ?_
              (try simp only [Act.put, List.setIfInBounds_toArray, List.set_cons_zero, List.set_cons_succ])
              refine wpAnyH_take (i := 5) (oi := { dst := some 55, op := Op.extract (Operand.tmp 53) 1, type := 35, pos := "more2.go:42", after := #[{ on := 3, ground := Ground.data }], guard := none }) (v := .int .i64 pe) rfl (by kernel_rfl) (by kernel_rfl) (by kernel_rfl) (fun _ _ _ h => h) (Or.inl ⟨by rfl, fun w' hSw => by ((try dsimp only at hSw); go_simp)⟩) (by assumption) ?_
              (try simp only [Act.put, List.setIfInBounds_toArray, List.set_cons_zero, List.set_cons_succ])
              refine wpAnyH_ready (rs := [6]) (by kernel_rfl) (by simp) ?_
              refine AllReadyH.cons (o := { dst := some 56, op := Op.call { callee := Callee.value (Operand.func 21), args := #[Operand.tmp 54, Operand.tmp 55], argTypes := #[25, 35] }, type := 25, pos := "more2.go:42", after := #[{ on := 4, ground := Ground.data }, { on := 5, ground := Ground.data }, { on := 3, ground := Ground.chain }], guard := none }) rfl (fun K hK => ?_) ?_
              · go_simp; go_at_call 21; refine (AT.out _ _ _ _ _ _).mono ?_; rintro e u2 ⟨rfl, hbu2⟩
                refine hK.out _ _ ?_ (fun hHeld => ?_)
                · exact Held.step (by assumption) hbu2
                clear hK K
                (try simp only [Act.put, List.setIfInBounds_toArray, List.set_cons_zero, List.set_cons_succ])
                refine wpAnyH_ready (rs := [10]) (by kernel_rfl) (by simp) ?_
                refine AllReadyH.cons (o := { dst := some 60, op := Op.call { callee := Callee.value (Operand.func 20), args := #[Operand.tmp 57, Operand.tmp 59], argTypes := #[25, 9] }, type := 36, pos := "more2.go:42", after := #[{ on := 7, ground := Ground.data }, { on := 9, ground := Ground.data }, { on := 6, ground := Ground.chain }], guard := none }) rfl (fun K hK => ?_) ?_
                · go_simp; go_at_call 20; refine (CC.out _).mono ?_; rintro e u3 ⟨rfl, hbu3⟩
                  refine hK.out _ _ ?_ (fun hHeld => ?_)
                  · exact Held.step (by assumption) hbu3
                  clear hK K
                  (try simp only [Act.put, List.setIfInBounds_toArray, List.set_cons_zero, List.set_cons_succ])
                  refine wpAnyH_take (i := 11) (oi := { dst := some 61, op := Op.extract (Operand.tmp 60) 0, type := 25, pos := "more2.go:42", after := #[{ on := 10, ground := Ground.data }], guard := none }) (v := .agg #[.int .i64 ck, .int .i64 cd, .int .i64 cx, .string sc]) rfl (by kernel_rfl) (by kernel_rfl) (by kernel_rfl) (fun _ _ _ h => h) (Or.inl ⟨by rfl, fun w' hSw => by ((try dsimp only at hSw); go_simp)⟩) (by assumption) ?_
                  (try simp only [Act.put, List.setIfInBounds_toArray, List.set_cons_zero, List.set_cons_succ])
                  refine wpAnyH_take (i := 12) (oi := { dst := some 62, op := Op.extract (Operand.tmp 60) 1, type := 35, pos := "more2.go:42", after := #[{ on := 10, ground := Ground.data }], guard := none }) (v := .int .i64 ce) rfl (by kernel_rfl) (by kernel_rfl) (by kernel_rfl) (fun _ _ _ h => h) (Or.inl ⟨by rfl, fun w' hSw => by ((try dsimp only at hSw); go_simp)⟩) (by assumption) ?_
                  (try simp only [Act.put, List.setIfInBounds_toArray, List.set_cons_zero, List.set_cons_succ])
                  refine wpAnyH_ready (rs := [13]) (by kernel_rfl) (by simp) ?_
                  refine AllReadyH.cons (o := { dst := some 63, op := Op.call { callee := Callee.value (Operand.func 21), args := #[Operand.tmp 61, Operand.tmp 62], argTypes := #[25, 35] }, type := 25, pos := "more2.go:42", after := #[{ on := 11, ground := Ground.data }, { on := 12, ground := Ground.data }, { on := 10, ground := Ground.chain }], guard := none }) rfl (fun K hK => ?_) ?_
                  · go_simp; go_at_call 21; refine (AT.out _ _ _ _ _ _).mono ?_; rintro e u4 ⟨rfl, hbu4⟩
                    refine hK.out _ _ ?_ (fun hHeld => ?_)
                    · exact Held.step (by assumption) hbu4
                    clear hK K
                    (try simp only [Act.put, List.setIfInBounds_toArray, List.set_cons_zero, List.set_cons_succ])
                    refine wpAnyH_ready (rs := [14]) (by kernel_rfl) (by simp) ?_
                    refine AllReadyH.cons (o := { dst := some 64, op := Op.buildSlice 50 3 #[(0, Operand.tmp 50), (1, Operand.tmp 56), (2, Operand.tmp 63)], type := 50, pos := "more2.go:42", after := #[{ on := 0, ground := Ground.data }, { on := 6, ground := Ground.data }, { on := 13, ground := Ground.data }], guard := none }) rfl (fun K hK => ?_) ?_
                    · refine step_bs3 rfl 50 3 (Operand.tmp 50) (Operand.tmp 56) (Operand.tmp 63) rfl (run_pages3 u4 4 2 9 sm pk pd px sp ck cd cx sc) ?h0 ?h1 ?h2 ?hk; (case h0 => kernel_rfl); (case h1 => kernel_rfl); (case h2 => kernel_rfl)
                      refine hK.out _ _ ?_ (fun hHeld => ?_)
                      · exact Held.step (by assumption) ((Below.refl _ _).alloc (Nat.le_refl _) _)
                      clear hK K
                      (try simp only [Act.put, List.setIfInBounds_toArray, List.set_cons_zero, List.set_cons_succ])
                      have HPG := Lib.hid (pages3 u4 ⟨4, 2, 9, bodyOf m⟩ ⟨pk, pd, px, pb⟩ ⟨ck, cd, cx, cb⟩)
                      dsimp only at HPG
                      rw [HSM.out, HSP.out, HSC.out] at HPG
                      obtain ⟨bS, hbS⟩ : ∃ b, b = u4.heap.size := ⟨_, rfl⟩
                      rw [← hbS] at HPG ⊢
                      clear hbS
                      generalize u4.alloc (Obj.cells #[.int .i64 4, .int .i64 2, .int .i64 9, .string sm, .int .i64 pk, .int .i64 pd, .int .i64 px, .string sp, .int .i64 ck, .int .i64 cd, .int .i64 cx, .string sc] 25) = V at *
                      refine wpAnyH_take (i := 15) (oi := { dst := some 65, op := Op.call { callee := Callee.builtin Builtin.len, args := #[Operand.tmp 64], argTypes := #[50] }, type := 3, pos := "more2.go:42", after := #[{ on := 14, ground := Ground.data }], guard := none }) (v := .int .i64 3) rfl (by kernel_rfl) (by kernel_rfl) (by kernel_rfl) (fun _ _ _ h => h) (Or.inl ⟨by rfl, fun w' hSw => by ((try dsimp only at hSw); go_simp)⟩) (by assumption) ?_
                      (try simp only [Act.put, List.setIfInBounds_toArray, List.set_cons_zero, List.set_cons_succ])
                      refine wpAnyH_done (by kernel_rfl) ?_ _
                      refine NoPanic.normal ?_
                      have HV := Lib.hid (show Held w1 V ∧ ∀ k, k < 3 → PAt V bS (k * 4) ([(⟨4, 2, 9, bodyOf m⟩ : Pg), ⟨pk, pd, px, pb⟩, ⟨ck, cd, cx, cb⟩].getD k nilPg) from ⟨hHeld, HPG.out⟩)
                      have HRK := Lib.hid (show ∀ k, k < 3 → PgR m k1 ([(⟨4, 2, 9, bodyOf m⟩ : Pg), ⟨pk, pd, px, pb⟩, ⟨ck, cd, cx, cb⟩].getD k nilPg) from fun k hk => by
                        rcases k with _ | _ | _ | k
                        · exact HR0.out
                        · exact HR1.out
                        · exact HR2.out
                        · omega)
                      have HPV := Lib.hid HV.out.2
                      have CV := Lib.hid (C1.out.kept HV.out.1)
                      have HWV := Lib.hid (HW1.out.on HV.out.1)
                      have HBV := Lib.hid (HB1.out.trans (Below.mono HV.out.1 (Below.size HB1.out)))
                      generalize [(⟨4, 2, 9, bodyOf m⟩ : Pg), ⟨pk, pd, px, pb⟩, ⟨ck, cd, cx, cb⟩] = ps at *
                      clear hHeld HPG A0 A1 A2x A3 D0 D1 D2 D3 hbu1 hbu2 hbu3 hbu4 HR0 HR1 HR2 HV HSP HSC HSM HW1 HB1 C1 P1 SS CC
                      have FI2 := Lib.hid (fun l (h : putOk l = true) q w => by have := FI.out l h q w; rw [(goodP_body (k := 4) rfl h).2] at this; exact this)
                      clear FI SE CU CE AT
                      go_wp2_with fail
                      go_loopw [66] (fun x wr => ∃ k : Nat, k ≤ 3 ∧ x = .int .i64 k ∧ Hid (Below V.heap.size V wr)) (fun x _ => 3 - (intOf x).toNat)
                      case atStart => exact ⟨0, by omega, rfl, Below.refl _ _⟩
                      case round =>
                        obtain ⟨k, hk, rfl, hq⟩ := hrel
                        have HB0 := Lib.hid hq.out
                        clear hq
                        have b0 : (0 : Int) ≤ (k : Int) := by omega
                        by_cases hlt : k < 3
                        · have b1 : (k : Int) < 3 := by omega
                          obtain ⟨c0, c1, c2', c3⟩ := (HPV.out k hlt).kept HB0.out
                          have hR := HRK.out k hlt
                          have C0 := Lib.hid (CV.out.kept HB0.out)
                          generalize ps.getD k nilPg = p at *
                          rcases hR with rfl | ⟨l, rfl, hl, hfind⟩
                          · as_aux_lemma =>
                              have ez : ∀ w, (binOp .eql 25 (.agg #[.int .i64 0, .int .i64 0, .int .i64 0, .string ⟨#[]⟩]) (.agg #[.int .i64 0, .int .i64 0, .int .i64 0, .string ⟨#[]⟩])).run Try.prog w = .ok (.bool true) w := fun w => by rw [eq_pages, eqP4_iff.2 ⟨rfl, rfl, rfl, rfl⟩]
                              dsimp only [nilPg] at c0 c1 c2' c3
                              rw [str_empty] at c3
                              have hal := (Below.refl (wr).heap.size (wr)).alloc (Nat.le_refl _) (.cells #[.int .i64 0, .int .i64 0, .int .i64 0, .string ⟨#[]⟩] 25)
                              replace C0 := Lib.hid (C0.out.kept hal)
                              have Q0 := Lib.hid (PBox.new (wr) (0) (0) (0) (⟨#[]⟩))
                              replace HB0 := Lib.hid (HB0.out.trans (hal.mono (Below.size HB0.out)))
                              clear hal
                              go_wp2_with fail
                              go_roundw
                              case rel => exact ⟨k + 1, by omega, by go_num, HB0.out⟩
                              case measure => simp [intOf]; omega
                          · as_aux_lemma =>
                              have HL := Lib.hid hl
                              have HFD := Lib.hid hfind
                              have FY := Lib.hid (fun q w => FI2.out l hl q w)
                              clear hl hfind
                              dsimp only at c0 c1 c2' c3
                              unfold pv at FY
                              generalize str (bodyOf l) = sl at *
                              have ez : ∀ w, (binOp .eql 25 (.agg #[.int .i64 4, .int .i64 2, .int .i64 9, .string sl]) (.agg #[.int .i64 0, .int .i64 0, .int .i64 0, .string ⟨#[]⟩])).run Try.prog w = .ok (.bool false) w := fun w => by rw [eq_pages]; rfl
                              have hal := (Below.refl (wr).heap.size (wr)).alloc (Nat.le_refl _) (.cells #[.int .i64 4, .int .i64 2, .int .i64 9, .string sl] 25)
                              replace C0 := Lib.hid (C0.out.kept hal)
                              have Q0 := Lib.hid (PBox.new (wr) (4) (2) (9) (sl))
                              replace HB0 := Lib.hid (HB0.out.trans (hal.mono (Below.size HB0.out)))
                              clear hal
                              go_wp2_with fail
                              clear c0 c1 c2' c3
                              have HW0 := Lib.hid (HWV.out.on HB0.out)
                              obtain ⟨bQ, hbQ⟩ : ∃ bQ, bQ = (wr).heap.size := ⟨_, rfl⟩
                              rw [← hbQ] at Q0 ⊢
                              have HLQ := Lib.hid hbQ
                              clear hbQ
                              generalize (wr).alloc (.cells #[.int .i64 4, .int .i64 2, .int .i64 9, .string sl] 25) = v0 at *
                              go_loopw [75] (fun x wr => ∃ j : Nat, j ≤ N ∧ x = .int .i64 j ∧ Hid (Below v0.heap.size v0 wr)) (fun x _ => N - (intOf x).toNat)
                              case atStart => exact ⟨0, Nat.zero_le _, rfl, Below.refl _ _⟩
                              case round =>
                                obtain ⟨j, hj, rfl, hq⟩ := hrel
                                have HI := Lib.hid hq.out
                                clear hq
                                have j0 : (0 : Int) ≤ (j : Int) := by omega
                                have Q1 := Lib.hid (Q0.out.kept HI.out)
                                have C1 := Lib.hid (C0.out.kept HI.out)
                                have HB1 := Lib.hid HI.out
                                by_cases hjn : j < N
                                · have j1 : (j : Int) < (N : Int) := by omega
                                  obtain ⟨b, off, rfl, _, d0, d1, d2, d3⟩ := (HW0.out.on HI.out).1 j (by rw [HNM.out]; exact hjn)
                                  have hmem := getD_mem (show j < m.length by rw [HNM.out]; exact hjn)
                                  generalize m.getD j nilC = y at *
                                  have hfy := HFD.out y hmem
                                  replace FY := Lib.hid (FY.out y.key)
                                  clear hmem
                                  have hal := (Below.refl (wr).heap.size (wr)).alloc (Nat.le_refl _) (.cells #[.string y.key, .string y.val, .int .i64 y.blob, .int .i64 y.size] 31)
                                  replace Q1 := Lib.hid (Q1.out.kept hal)
                                  replace C1 := Lib.hid (C1.out.kept hal)
                                  have X1 := Lib.hid (Box.new (wr) (.string y.key) (.string y.val) (.int .i64 y.blob) (.int .i64 y.size))
                                  replace HB1 := Lib.hid (HB1.out.trans (hal.mono (Below.size HB1.out)))
                                  clear hal
                                  obtain ⟨oQ0, oQ1, oQ2, oQ3⟩ := Q1.out.cells
                                  obtain ⟨oC0, oC1, oC2, oC3⟩ := C1.out.cells
                                  go_wp2_with fail
                                  clear oQ0 oQ1 oQ2 oQ3 oC0 oC1 oC2 oC3
                                  clear d0 d1 d2 d3
                                  obtain ⟨bX, hbX⟩ : ∃ bX, bX = (wr).heap.size := ⟨_, rfl⟩
                                  rw [← hbX] at X1 ⊢
                                  have HLX := Lib.hid hbX
                                  clear hbX
                                  generalize (wr).alloc (.cells #[.string y.key, .string y.val, .int .i64 y.blob, .int .i64 y.size] 31) = v1 at *
                                  clear HLX
                                  by_cases hky : y.key = k1
                                  · as_aux_lemma =>
                                      have e0 : (y.key.toList == k1.toList) = true := by rw [keys_eq, decide_eq_true hky]
                                      clear hfy hky
                                      unfold findV at FY
                                      generalize findS l y.key = fo at *
                                      generalize fo.getD nilC = z at *
                                      generalize fo.isSome = sb at *
                                      unfold cvC cv at FY
                                      refine (FY.out _).mono ?_; rintro e w2 ⟨rfl, hb⟩
                                      have Q2 := Lib.hid (Q1.out.kept hb)
                                      have C2 := Lib.hid (C1.out.kept hb)
                                      have X2 := Lib.hid (X1.out.kept hb)
                                      have HB2 := Lib.hid (HB1.out.trans (hb.mono (Below.size HB1.out)))
                                      clear hb HB1 Q1 C1 X1
                                      have hal := (Below.refl (w2).heap.size (w2)).alloc (Nat.le_refl _) (.cells #[.string z.key, .string z.val, .int .i64 z.blob, .int .i64 z.size] 31)
                                      replace Q2 := Lib.hid (Q2.out.kept hal)
                                      replace C2 := Lib.hid (C2.out.kept hal)
                                      replace X2 := Lib.hid (X2.out.kept hal)
                                      have Y2 := Lib.hid (Box.new (w2) (.string z.key) (.string z.val) (.int .i64 z.blob) (.int .i64 z.size))
                                      replace HB2 := Lib.hid (HB2.out.trans (hal.mono (Below.size HB2.out)))
                                      clear hal
                                      obtain ⟨oX0, oX1, oX2, oX3⟩ := X2.out.cells
                                      obtain ⟨oC0, oC1, oC2, oC3⟩ := C2.out.cells
                                      go_wp2_with fail
                                      go_roundw
                                      case rel => exact ⟨j + 1, by omega, by go_num, HB2.out⟩
                                      case measure => simp [intOf]; omega
                                  · as_aux_lemma =>
                                      have e0 : (y.key.toList == k1.toList) = false := by rw [keys_eq, decide_eq_false hky]
                                      have hfv : findV (findS l y.key) = .tuple #[.agg #[.string y.key, .string y.val, .int .i64 y.blob, .int .i64 y.size], .bool true] := by rw [hfy hky]; rfl
                                      rw [hfv] at FY
                                      have en : ∀ w, (binOp .neq 31 (.agg #[.string y.key, .string y.val, .int .i64 y.blob, .int .i64 y.size]) (.agg #[.string y.key, .string y.val, .int .i64 y.blob, .int .i64 y.size])).run Try.prog w = .ok (.bool false) w := fun w => by rw [neq_cells, eqC_iff.2 rfl]; rfl
                                      clear hfy hky hfv
                                      refine (FY.out _).mono ?_; rintro e w2 ⟨rfl, hb⟩
                                      have Q2 := Lib.hid (Q1.out.kept hb)
                                      have C2 := Lib.hid (C1.out.kept hb)
                                      have X2 := Lib.hid (X1.out.kept hb)
                                      have HB2 := Lib.hid (HB1.out.trans (hb.mono (Below.size HB1.out)))
                                      clear hb HB1 Q1 C1 X1
                                      have hal := (Below.refl (w2).heap.size (w2)).alloc (Nat.le_refl _) (.cells #[.string y.key, .string y.val, .int .i64 y.blob, .int .i64 y.size] 31)
                                      replace Q2 := Lib.hid (Q2.out.kept hal)
                                      replace C2 := Lib.hid (C2.out.kept hal)
                                      replace X2 := Lib.hid (X2.out.kept hal)
                                      have Y2 := Lib.hid (Box.new (w2) (.string y.key) (.string y.val) (.int .i64 y.blob) (.int .i64 y.size))
                                      replace HB2 := Lib.hid (HB2.out.trans (hal.mono (Below.size HB2.out)))
                                      clear hal
                                      obtain ⟨oX0, oX1, oX2, oX3⟩ := X2.out.cells
                                      obtain ⟨oC0, oC1, oC2, oC3⟩ := C2.out.cells
                                      go_wp2_with fail
                                      go_roundw
                                      case rel => exact ⟨j + 1, by omega, by go_num, HB2.out⟩
                                      case measure => simp [intOf]; omega
                                · obtain rfl : N = j := by omega
                                  have j1 : ¬ (N : Int) < (N : Int) := by omega
                                  have HZ := Lib.hid (HB0.out.trans (HI.out.mono (Below.size HB0.out)))
                                  obtain ⟨oQ0, oQ1, oQ2, oQ3⟩ := Q1.out.cells
                                  go_wp2_with fail
                                  go_roundw
                                  case rel => exact ⟨k + 1, by omega, by go_num, HZ.out⟩
                                  case measure => simp [intOf]; omega
                        · obtain rfl : k = 3 := by omega
                          have b1 : ¬ ((3 : Nat) : Int) < 3 := by omega
                          have HF := Lib.hid (HBV.out.trans (HB0.out.mono (Below.size HBV.out)))
                          go_wp2_with fail
                          go_ret
                          exact ⟨rfl, HF.out⟩

                    exact AllReadyH.nil
                  exact AllReadyH.nil
                exact AllReadyH.nil
              exact AllReadyH.nil
            exact AllReadyH.nil

/-! The row's step. -/
set_option maxRecDepth 100000 in
theorem lifted (os : Os) (started : os.Started) (H : Type) (enc : TypeId × Value → H) :
    ReturnsInHanded {} Try.checked os 7 .any (Rows.bucketOthersSpec.pre6 enc Try.prog Try.f7 Rows.bucketOthersRow.domain false) (Rows.bucketOthersSpec.post enc Try.prog Try.f7 false true false false) := by
  refine returnsInHanded_of_change (C := Try.checked) own started (by kernel_rfl) Try.func7
    (ChangeSpec.witness6 (enc := enc) (C := Try.checked) false ⟨#[], #[.slice none 0 0, .agg #[.string ByteArray.empty, .string ByteArray.empty, .int .i64 0, .int .i64 0]], []⟩ 8 (by kernel_rfl) (by kernel_rfl) (by kernel_rfl) (by kernel_rfl)) ?_
  intro W base args ds gs before hval0 hW hcnd _
  have hval : ∀ (j : Nat) t v, Try.f7.params[j]? = some t → args[j]? = some v → Value.okWide Try.prog W .any base t v := hval0
  have hW' := hW
  obtain ⟨p, q, hA0, hV, rfl, hfz, hnd⟩ := hW
  have hA : DataW.TrodAll enc Try.prog W 0 (fun _ => true) true Try.f7.params.toList args.toList ds p := hA0
  rw [Try.params7] at hA hval
  obtain ⟨v0, vs0, d0, ds0, p0, q0, hargs, rfl, rfl, h0, r0⟩ := trodAll_cons hA
  obtain ⟨v1, vs1, d1, ds1, p1, q1, rfl, rfl, rfl, h1, r1⟩ := trodAll_cons r0
  obtain ⟨rfl, rfl, rfl⟩ := trodAll_nil r1
  obtain rfl : args = #[v0, v1] := by cases args; simp_all
  obtain ⟨rfl, rfl⟩ := trodVars_none hV
  obtain ⟨A0, n0, c0, rfl⟩ := okWide_slice Try.underlying38 (hval 0 38 v0 rfl rfl)
  have k0 := h0
  have lt0 : ∀ x ∈ p0, x.block < W.heap.size := by obtain ⟨m, hm⟩ := k0; exact DataW.trod_lt m _ _ _ hm
  obtain ⟨l0, w0, e0, f0⟩ := (by obtain ⟨fuel, hf⟩ := h0; exact ces_read hf (fun _ => rfl) : ∃ l, CesL W A0 n0 l ∧ n0 ≤ c0 ∧ c0 ≤ maxLen)
  obtain ⟨k1, s1, b1, z1, rfl, wk1, ws1, wb1, wz1, sh1⟩ := open_cell (hval 1 31 v1 rfl rfl) h1
  clear hA0 hval0
  refine (walk A0 n0 c0 l0 k1 s1 b1 z1 W w0 (Nat.le_trans e0 f0) wk1 ws1 wb1 wz1).mono fun e W' ⟨he, bel⟩ => ?_
  subst he
  exact ⟨_, rfl, _, _, _, [], _, [], hW', trodAll_mk1 (shut_bool Try.underlying4 _), (trodAll_cons_mk (Below.trod laidOut (by kernel_rfl) (of_decide_eq_true (by kernel_rfl)) k0 bel lt0) (trodAll_cons_mk (sh1 _ _) trodAll_mk0)), rfl, bel.frame _, fun h => by cases h⟩

theorem over : Rows.bucketOthersRow.holds Try.pinned (OpenSpec.ofChange Rows.bucketOthersSpec) :=
  OpenClaim.holds_of_wide 7 Try.f7 rfl rfl rfl rfl rfl rfl rfl ⟨rfl, rfl, rfl, rfl, rfl⟩ rfl rfl rfl rfl rfl (by kernel_rfl) Try.func7 (by kernel_rfl)
    (of_decide_eq_true (by kernel_rfl)) (by unfold Func.isWrapper; first | (rw [if_pos (by decide +kernel)]; kernel_rfl) | (rw [if_neg (by decide +kernel)]; exact ⟨rfl, rfl⟩))
    (fun os started H enc _ => lifted os started H enc)

/-- The statement. -/
theorem proved : Rows.BucketOthersSaid := over
end Go.Proofs.Ytljegjcajlkgiaa.bucketOthers
