/- Whatever is put into a page, taken out, asked for, in every order: each answer, all cells, how much room there is, are the document's; the lists that were answered are the caller's own. -/
import Derived.Test.YtljegjcajlkgiaaGreatRows
import Derived.Test.YtljegjcajlkgiaaGreatPlay
import Derived.Deep.RegionHeld3
import Derived.StillTailTactics
import Derived.BigQuiet
import Derived.Laws.MakeOwn
import Derived.Deep.DeepCutAuto
import Derived.Deep.RegionLaw
import Derived.Deep.CutBlock
import Derived.Lib.Hide
import Derived.WalkKit
import Derived.ProofKit
import Derived.OpenShut
import Derived.ChangeOld
import Derived.Below
import Derived.Carry
namespace Go.Proofs.YtljegjcajlkgiaaGreat.bucketPlays
open Go.ChangeShapes Go.WideShapes Go.ChangeAt Go.RowKit
set_option linter.unusedVariables false

theorem own : ownKnob Tryz.prog.godebug = none := by kernel_rfl
theorem laidOut : laidOutB Tryz.prog = true := by kernel_rfl

theorem PBox.set3 {w : World} {B : Nat} {k d x : Int} {b : ByteArray} (h : PBox w B k d x b) (b' : ByteArray) : PBox (w.setCell ⟨B, 3, none⟩ (.string b')) B k d x b' := by
  unfold PBox at *
  simp [World.setCell, Array.getElem?_modify, h]
theorem row_ne {w : World} {A : Option Addr} {n c B : Nat} {l : List Ce} {k d x : Int} {s : ByteArray} (h : Row w A n c l) (hp : PBox w B k d x s) {g : Nat} (hg : (Value.slice A n c).ownBlock = some g) : g ≠ B := fun e => by
  obtain ⟨cur, hc⟩ := row_block h hg
  rw [e] at hc
  unfold PBox at hp
  rw [hp] at hc
  simp at hc
theorem row_pset {w : World} {A : Option Addr} {n c B i : Nat} {l : List Ce} {k d x : Int} {s : ByteArray} {u : Value} (h : Row w A n c l) (hp : PBox w B k d x s) : Row (w.setCell ⟨B, i, none⟩ u) A n c l :=
  h.keep fun g hg => Below.heap_setCell w ⟨B, i, none⟩ u g (row_ne h hp hg)
theorem book_pset {C b B i : Nat} {w : World} {es fs : List E} {ls ms : List (List Ce)} {k d x : Int} {s : ByteArray} {u : Value} (h : Book C w b es fs ls ms) (hp : PBox w B k d x s) : Book C (w.setCell ⟨B, i, none⟩ u) b es fs ls ms := by
  obtain ⟨⟨hC, v, y, k1, k2, h1, h2, h3, h4⟩, h5, h6, h7⟩ := h
  have hh : ∀ j, j ≠ B → (w.setCell ⟨B, i, none⟩ u).heap[j]? = w.heap[j]? := fun j hj => Below.heap_setCell w ⟨B, i, none⟩ u j hj
  have hne : ∀ {e n : Nat} {v : Value} {xs : List Value}, w.ownsRow 0 26 1 v n xs → ∀ g, v.ownBlock = some g → g ≠ B := fun hr g hg e => by
    obtain ⟨cur, hc⟩ := owns_block hr hg
    rw [e] at hc
    unfold PBox at hp
    rw [hp] at hc
    simp at hc
  refine ⟨⟨hC, v, y, k1, k2, (hh b (fun e => ?_)).trans h1, owns_kept h2 fun g hg => hh g (hne (e := 0) h2 g hg), owns_kept h3 fun g hg => hh g (hne (e := 0) h3 g hg), h4⟩, ⟨h5.1, fun j hj => row_pset (h5.2 j hj) hp⟩, ⟨h6.1, fun j hj => row_pset (h6.2 j hj) hp⟩, h7⟩
  rw [e] at h1
  unfold PBox at hp
  rw [hp] at h1
  simp [bookCells] at h1
theorem find_step {l : List Ce} (hr : Rise l) {q : ByteArray} {i : Nat} (hi : i < l.length) : findS (l.take (i + 1)) q = if isB q (l.getD i nilC) then some (l.getD i nilC) else findS (l.take i) q := by
  have ht := take_snoc l i hi
  have hp : Rise (l.take i ++ [l.getD i nilC]) := by rw [← ht]; exact List.Pairwise.sublist (List.take_sublist _ _) hr
  rw [ht]
  have e : findS (l.take i ++ [l.getD i nilC]) q = (findS (l.take i) q).or (findS [l.getD i nilC] q) := by unfold findS; rw [List.find?_append]
  rw [e]
  generalize l.getD i nilC = y at *
  cases g : isB q y with
  | true =>
    have h1 : findS [y] q = some y := by unfold findS; rw [List.find?_cons, g]
    rw [h1, if_pos rfl]
    cases hf : findS (l.take i) q with
    | none => rfl
    | some x =>
      obtain ⟨hx, hk⟩ := find_some hf
      have := (List.pairwise_append.1 hp).2.2 x hx y (List.mem_singleton.2 rfl)
      exact absurd (by rw [hk, isB_iff.1 g]) (ltK_key this)
  | false =>
    have h1 : findS [y] q = none := by unfold findS; rw [List.find?_cons, g]; rfl
    rw [h1, if_neg (by simp), Option.or_none]
theorem Box.set4 {w : World} {B : Nat} {v0 v1 v2 v3 : Value} (h : Box w B v0 v1 v2 v3) (u0 u1 u2 u3 : Value) : Box ((((w.setCell ⟨B, 0, none⟩ u0).setCell ⟨B, 1, none⟩ u1).setCell ⟨B, 2, none⟩ u2).setCell ⟨B, 3, none⟩ u3) B u0 u1 u2 u3 := by
  unfold Box at *
  simp [World.setCell, Array.getElem?_modify, h]
theorem ltdec {a b : Nat} (h : a = b) : decide (a < b) = false := decide_eq_false (by omega)

set_option maxRecDepth 100000 in
set_option maxHeartbeats 8000000 in
theorem walk (k0 s0 b0 : Int) (z0 : ByteArray) (A1 : Option Addr) (n1 c1 : Nat) (l1 : List Opp) (w : World) (wk0 : (Lit.int .i64 k0).wf = true) (ws0 : (Lit.int .i64 s0).wf = true) (wb0 : (Lit.int .i64 b0).wf = true) (wz0 : z0.size ≤ maxLen) (w1 : OpsL w A1 n1 l1) (e1 : n1 ≤ maxLen) :
    Calls Tryz.prog 3 #[.agg #[.int .i64 k0, .int .i64 s0, .int .i64 b0, .string z0], .slice A1 n1 c1] w fun e w' => e = .returned (.bool true) ∧ Below w.heap.size w w' := by
  have AL := Lib.hid alive_yes
  by_cases cc : 300 < (z0.size : Int)
  · as_aux_lemma =>
      have g0x : decide (300 < (z0.size : Int)) = true := decide_eq_true cc
      have HB0 := Lib.hid ((Below.refl w.heap.size w).alloc (Nat.le_refl _) (.cells #[.int .i64 k0, .int .i64 s0, .int .i64 b0, .string z0] 23))
      go_enter Tryz.func3, Tryz.ntmps3
      go_wp2_with fail
      refine (AL.out _).mono ?_; rintro e w1 ⟨rfl, hb⟩
      have HB1 := Lib.hid (HB0.out.trans (hb.mono (Below.size HB0.out)))
      clear hb HB0 
      go_wp2_with fail
      go_ret
      exact ⟨rfl, HB1.out⟩
  · have g0x : decide (300 < (z0.size : Int)) = false := decide_eq_false cc
    by_cases cd : 60 < (n1 : Int)
    · as_aux_lemma =>
        have g1x : decide (60 < (n1 : Int)) = true := decide_eq_true cd
        have HB0 := Lib.hid ((Below.refl w.heap.size w).alloc (Nat.le_refl _) (.cells #[.int .i64 k0, .int .i64 s0, .int .i64 b0, .string z0] 23))
        go_enter Tryz.func3, Tryz.ntmps3
        go_wp2_with fail
        refine (AL.out _).mono ?_; rintro e w1 ⟨rfl, hb⟩
        have HB1 := Lib.hid (HB0.out.trans (hb.mono (Below.size HB0.out)))
        clear hb HB0 
        go_wp2_with fail
        go_ret
        exact ⟨rfl, HB1.out⟩
    · have g1x : decide (60 < (n1 : Int)) = false := decide_eq_false cd
      obtain ⟨hn, hops⟩ := w1
      have hm : n1 ≤ 60 := by omega
      have HOP := Lib.hid (fun (i : Nat) (hi : i < n1) (w' : World) (hb : Below w.heap.size w w') => show ∃ b off, A1 = some ⟨b, off, none⟩ ∧ OpAt w' b (off + i * 5) (l1.getD i nilO) ∧ (l1.getD i nilO).c.key.size ≤ maxLen ∧ (l1.getD i nilO).c.val.size ≤ maxLen from by
        obtain ⟨b, off, h1, h2, h3, h4, h5⟩ := hops i hi
        exact ⟨b, off, h1, h3.kept h2 hb, h4, h5⟩)
      clear hops hn
      obtain ⟨b0b, rfl⟩ : ∃ bb, z0 = str bb := ⟨z0.data.toList, (str_data z0).symm⟩
      have hbl : b0b.length ≤ 300 := by have hc := cc; rw [str_size] at hc; omega
      have RC := Lib.hid (fun w => rcells_any k0 s0 b0 b0b w)
      have HBL0 := Lib.hid hbl
      have HG0 := Lib.hid (show goodP k0 b0b = goodP k0 b0b from rfl)
      have HPS0 := Lib.hid (cellsP_ok k0 b0b)
      unfold pv ReadP at RC
      obtain ⟨m0, hm0⟩ : ∃ m, (cellsP k0 b0b).length = m := ⟨_, rfl⟩
      obtain ⟨g0, hg0⟩ : ∃ g, goodP k0 b0b = g := ⟨_, rfl⟩
      rw [hm0, hg0] at RC
      have HM0 := Lib.hid hm0
      have HG := Lib.hid hg0
      clear hm0 hg0 HG0 hbl
      obtain ⟨sb0, hsb0⟩ : ∃ s, s = str b0b := ⟨_, rfl⟩
      rw [← hsb0] at RC cc g0x ⊢
      have HSB := Lib.hid hsb0
      clear hsb0
      have HB0 := Lib.hid (Below.refl w.heap.size w)
      have hal := (Below.refl (w).heap.size (w)).alloc (Nat.le_refl _) (.cells #[.int .i64 k0, .int .i64 s0, .int .i64 b0, .string sb0] 23)
      have P0 := Lib.hid (PBox.new (w) (k0) (s0) (b0) (sb0))
      replace HB0 := Lib.hid (HB0.out.trans (hal.mono (Below.size HB0.out)))
      clear hal
      go_enter Tryz.func3, Tryz.ntmps3
      go_wp2_with fail
      obtain ⟨bP, hbP⟩ : ∃ bP, bP = (w).heap.size := ⟨_, rfl⟩
      rw [← hbP] at P0 ⊢
      have HLP := Lib.hid hbP
      clear hbP
      generalize (w).alloc (.cells #[.int .i64 k0, .int .i64 s0, .int .i64 b0, .string sb0] 23) = v0 at *
      refine (AL.out _).mono ?_; rintro e w1 ⟨rfl, hb⟩
      have P1 := Lib.hid (P0.out.kept hb)
      have HB1 := Lib.hid (HB0.out.trans (hb.mono (Below.size HB0.out)))
      clear hb HB0 P0
      clear AL
      obtain ⟨oP0, oP1, oP2, oP3⟩ := P1.out.cells
      go_wp2_with fail
      clear oP0 oP1 oP2 oP3
      refine (RC.out _).mono ?_; rintro e w2 ⟨A2, c2, rfl, ho, hb⟩
      have P2 := Lib.hid (P1.out.kept hb)
      have V2 := Lib.hid (own_row (own_n ho HM0.out) HM0.out)
      have HB2 := Lib.hid (HB1.out.trans (hb.mono (Below.size HB1.out)))
      clear ho hb P1 HB1 RC
      go_wp2_with fail
      have hal := (Below.refl w2.heap.size w2).alloc (Nat.le_refl _) (.cells (bookCells nil_ nil_) 40)
      have P3 := Lib.hid (P2.out.kept hal)
      have V3 := Lib.hid (V2.out.kept hal)
      have HB3 := Lib.hid (HB2.out.trans (hal.mono (Below.size HB2.out)))
      have K3 := Lib.hid (Book.new (C := w.heap.size) (w := w2.alloc (.cells (bookCells nil_ nil_) 40)) (b := w2.heap.size) (Below.size HB2.out) (heap_alloc_new w2 _))
      clear hal P2 V2 HB2
      unfold bookCells nil_ at *
      generalize w2.alloc (.cells #[.slice none 0 0, .slice none 0 0, .slice none 0 0, .slice none 0 0, .slice none 0 0, .slice none 0 0, .slice none 0 0, .slice none 0 0, .slice none 0 0, .slice none 0 0, .slice none 0 0, .slice none 0 0, .slice none 0 0, .slice none 0 0, .slice none 0 0, .slice none 0 0, .slice none 0 0, .slice none 0 0] 40) = w3 at *
      obtain ⟨bB, hbB⟩ : ∃ B, B = w2.heap.size := ⟨_, rfl⟩
      rw [← hbB] at K3 ⊢
      clear hbB
      have HPL := Lib.hid (show w.heap.size ≤ bP by rw [HLP.out]; exact Nat.le_refl _)
      have HST := Lib.hid (show ST w bP bB k0 s0 b0 g0 0 A2 m0 c2 w3 from ⟨b0b, [], [], [], HBL0.out, HG.out, HM0.out, by rw [← HSB.out]; exact P3.out, V3.out, K3.out, ⟨rfl, fun e he => by simp at he, fun i hi => by simp at hi, fun i hi => by simp at hi⟩, HB3.out⟩)
      clear P3 V3 HB3 K3 HLP HBL0 HPS0 HM0 HSB
      go_loopw [5, 52] (fun v x wr => ∃ j : Nat, j ≤ n1 ∧ x = .int .i64 j ∧ ∃ A m c, v = .slice A m c ∧ Hid (ST w bP bB k0 s0 b0 g0 j A m c wr)) (fun _ x _ => n1 - (intOf x).toNat)
      case atStart => exact ⟨0, Nat.zero_le _, rfl, A2, m0, c2, rfl, HST.out⟩
      case round =>
        obtain ⟨j, hj, rfl, A, m, c, rfl, hq⟩ := hrel
        obtain ⟨b, es, fs, ls, h1, h2, h3, h4, h5, h6, h7, h8⟩ := hq.out
        have HBL := Lib.hid h1
        have HGD := Lib.hid h2
        have HLN := Lib.hid h3
        have P0 := Lib.hid h4
        have V0 := Lib.hid h5
        have K0 := Lib.hid h6
        have HBK := Lib.hid h7
        have HB0 := Lib.hid h8
        have hm47 : m ≤ 47 := by rw [← h3]; exact put_len (cellsP_ok k0 b)
        clear hq h1 h2 h3 h4 h5 h6 h7 h8 HST
        have j0 : (0 : Int) ≤ (j : Int) := by omega
        by_cases hlt : j < n1
        · have j1 : (j : Int) < (n1 : Int) := by omega
          obtain ⟨ba, off, rfl, ⟨d0, d1, d2, d3, d4⟩, hks, hvs⟩ := HOP.out j hlt wr HB0.out
          generalize l1.getD j nilO = o at *
          obtain ⟨ok, ⟨oc, ov, ob, oz⟩⟩ := o
          dsimp only at d0 d1 d2 d3 d4 hks hvs
          have hal := (Below.refl wr.heap.size wr).alloc (Nat.le_refl _) (.cells #[.int .i64 ok, .string oc, .string ov, .int .i64 ob, .int .i64 oz] 44)
          have O1 := Lib.hid (OBox.new wr ⟨ok, ⟨oc, ov, ob, oz⟩⟩)
          dsimp only at O1
          have P1 := Lib.hid (P0.out.kept hal)
          have V1 := Lib.hid (V0.out.kept hal)
          have K1 := Lib.hid (K0.out.kept hal)
          have HB1 := Lib.hid (HB0.out.trans (hal.mono (Below.size HB0.out)))
          clear hal P0 V0 K0 HB0
          obtain ⟨sm, e1⟩ : ∃ sm, IntKind.i64.wrap ((oc.size : Int) + (ov.size : Int)) = sm := ⟨_, rfl⟩
          by_cases hlong : (600 : Int) < sm
          · as_aux_lemma =>
              have g1 : decide ((600 : Int) < sm) = true := decide_eq_true hlong
              go_wp2_with fail
              go_ret
              exact ⟨rfl, HB1.out⟩
          · have g1 : decide ((600 : Int) < sm) = false := decide_eq_false hlong
            go_upto_block 2 with fail
            obtain ⟨bO, hbO⟩ : ∃ B, B = wr.heap.size := ⟨_, rfl⟩
            rw [← hbO] at O1 ⊢
            clear hbO d0 d1 d2 d3 d4
            generalize wr.alloc (.cells #[.int .i64 ok, .string oc, .string ov, .int .i64 ob, .int .i64 oz] 44) = W at *
            go_cut [5] (fun s5 wx => ∃ A m c, s5 = .slice A m c ∧ Hid (ST w bP bB k0 s0 b0 g0 j A m c wx))
            case first =>
              have HBL300 := HBL.out
              have HPS := Lib.hid (cellsP_ok k0 b)
              have HSET := Lib.hid (fun q w => set_any k0 s0 b0 b q (by omega) w)
              have HCUT := Lib.hid (fun q w => cut_any k0 s0 b0 b q (by omega) w)
              have HFND := Lib.hid (fun q w => find_any k0 s0 b0 b q (by omega) w)
              have HBODY := Lib.hid (fun (h : g0 = true) => show bodyOf (cellsP k0 b) = b ∧ isBk k0 = true from ⟨(cellsP_yes (by rw [HGD.out]; exact h)).2, goodP_kind (by rw [HGD.out]; exact h)⟩)
              obtain ⟨sb, hsb⟩ : ∃ s, s = str b := ⟨_, rfl⟩
              obtain ⟨l, hl⟩ : ∃ l, l = cellsP k0 b := ⟨_, rfl⟩
              unfold pv at HSET HCUT HFND
              rw [← hsb] at HSET HCUT HFND P1
              rw [← hl] at HPS HLN V1 HFND HBODY
              have HSB := Lib.hid hsb
              have HLL := Lib.hid hl
              clear hsb hl
              by_cases hk1 : ok = 1
              · subst hk1
                cases g0 with
                | false =>
                  as_aux_lemma =>
                    have hres : resV (setP ⟨k0, s0, b0, b⟩ ⟨oc, ov, ob, oz⟩) = .tuple #[.agg #[.int .i64 0, .int .i64 0, .int .i64 0, .string ⟨#[]⟩], .int .i64 2] := by unfold setP; dsimp only; rw [HGD.out]; rfl
                    have SY := Lib.hid (fun w => HSET.out ⟨oc, ov, ob, oz⟩ w)
                    rw [hres] at SY
                    unfold cvC cv at SY
                    clear hres
                    have hrise := putOk_rise HPS.out
                    have HWI := Lib.hid (fun w' (h : Row w' A m c l) => with_walk (cp := c) ⟨oc, ov, ob, oz⟩ w' (h.ces (put_sz HPS.out) (max_small (by omega))) hrise HLN.out (by omega) (Nat.le_refl _))
                    unfold NewL Own at HWI
                    have HN49 := set_len hrise (by rw [HLN.out]; exact hm47) ⟨oc, ov, ob, oz⟩
                    have HSZ2 := Lib.hid (fun (h : okC ⟨oc, ov, ob, oz⟩ = true) => set_sizes HPS.out (okC_iff.1 h))
                    have HFITS := Lib.hid (fits_rise (rise_set hrise ⟨oc, ov, ob, oz⟩))
                    have RR := Lib.hid (fun w => rright_any oc ov ob oz w)
                    unfold cvC cv at HWI
                    unfold cv at RR
                    obtain ⟨n, hn⟩ : ∃ n, n = setS l ⟨oc, ov, ob, oz⟩ := ⟨_, rfl⟩
                    rw [← hn] at HWI HN49 HFITS
                    have HNN := Lib.hid hn
                    obtain ⟨N, hN⟩ : ∃ N, n.length = N := ⟨_, rfl⟩
                    rw [hN] at HWI HN49
                    have HNL := Lib.hid hN
                    clear hn hN hrise HSZ2
                    obtain ⟨oP0, oP1, oP2, oP3⟩ := P1.out.cells
                    obtain ⟨oO0, oO1, oO2, oO3, oO4⟩ := O1.out.cells
                    go_wp2_with fail
                    clear oP0 oP1 oP2 oP3
                    clear oO0 oO1 oO2 oO3 oO4
                    refine (SY.out _).mono ?_; rintro e w2 ⟨rfl, hb⟩
                    have P2 := Lib.hid (P1.out.kept hb)
                    have O2 := Lib.hid (O1.out.kept hb)
                    have V2 := Lib.hid (V1.out.kept hb)
                    have K2 := Lib.hid (K1.out.kept hb)
                    have HB2 := Lib.hid (HB1.out.trans (hb.mono (Below.size HB1.out)))
                    clear hb HB1 P1 O1 V1 K1
                    have hal := (Below.refl (w2).heap.size (w2)).alloc (Nat.le_refl _) (.cells #[.int .i64 0, .int .i64 0, .int .i64 0, .string ⟨#[]⟩] 23)
                    replace P2 := Lib.hid (P2.out.kept hal)
                    replace O2 := Lib.hid (O2.out.kept hal)
                    replace V2 := Lib.hid (V2.out.kept hal)
                    replace K2 := Lib.hid (K2.out.kept hal)
                    have Q2 := Lib.hid (PBox.new (w2) (0) (0) (0) (⟨#[]⟩))
                    replace HB2 := Lib.hid (HB2.out.trans (hal.mono (Below.size HB2.out)))
                    clear hal
                    obtain ⟨oO0, oO1, oO2, oO3, oO4⟩ := O2.out.cells
                    go_wp2_with fail
                    clear oO0 oO1 oO2 oO3 oO4
                    obtain ⟨bQ, hbQ⟩ : ∃ bQ, bQ = (w2).heap.size := ⟨_, rfl⟩
                    rw [← hbQ] at Q2 ⊢
                    have HLQ := Lib.hid hbQ
                    clear hbQ
                    generalize (w2).alloc (.cells #[.int .i64 0, .int .i64 0, .int .i64 0, .string ⟨#[]⟩] 23) = v2 at *
                    clear HLQ
                    refine (HWI.out _ V2.out).mono ?_; rintro e w3 ⟨A5, c5, rfl, ho, hb⟩
                    have P3 := Lib.hid (P2.out.kept hb)
                    have O3 := Lib.hid (O2.out.kept hb)
                    have V3 := Lib.hid (V2.out.kept hb)
                    have K3 := Lib.hid (K2.out.kept hb)
                    have Q3 := Lib.hid (Q2.out.kept hb)
                    have N3 := Lib.hid (own_row ho HNL.out)
                    have HB3 := Lib.hid (HB2.out.trans (hb.mono (Below.size HB2.out)))
                    clear ho hb HB2 P2 O2 V2 K2 Q2 HWI
                    have en : ∀ w, (binOp .neq 23 (.agg #[.int .i64 0, .int .i64 0, .int .i64 0, .string ⟨#[]⟩]) (.agg #[.int .i64 0, .int .i64 0, .int .i64 0, .string ⟨#[]⟩])).run Tryz.prog w = .ok (.bool false) w := fun w => by rw [neq_pages, eqP4_iff.2 ⟨rfl, rfl, rfl, rfl⟩]; rfl
                    obtain ⟨oQ0, oQ1, oQ2, oQ3⟩ := Q3.out.cells
                    go_wp2_with fail
                    go_meet
                    exact ⟨A, m, c, rfl, b, es, fs, ls, HBL.out, HGD.out, by rw [← HLL.out]; exact HLN.out, by rw [← HSB.out]; exact P3.out, by rw [← HLL.out]; exact V3.out, K3.out, HBK.out, HB3.out⟩
                | true =>
                  cases hok : okC ⟨oc, ov, ob, oz⟩ with
                  | false =>
                    as_aux_lemma =>
                      have hres : resV (setP ⟨k0, s0, b0, b⟩ ⟨oc, ov, ob, oz⟩) = .tuple #[.agg #[.int .i64 0, .int .i64 0, .int .i64 0, .string ⟨#[]⟩], .int .i64 1] := by unfold setP; dsimp only; rw [HGD.out, hok]; rfl
                      have SY := Lib.hid (fun w => HSET.out ⟨oc, ov, ob, oz⟩ w)
                      rw [hres] at SY
                      unfold cvC cv at SY
                      clear hres
                      have hrise := putOk_rise HPS.out
                      have HWI := Lib.hid (fun w' (h : Row w' A m c l) => with_walk (cp := c) ⟨oc, ov, ob, oz⟩ w' (h.ces (put_sz HPS.out) (max_small (by omega))) hrise HLN.out (by omega) (Nat.le_refl _))
                      unfold NewL Own at HWI
                      have HN49 := set_len hrise (by rw [HLN.out]; exact hm47) ⟨oc, ov, ob, oz⟩
                      have HSZ2 := Lib.hid (fun (h : okC ⟨oc, ov, ob, oz⟩ = true) => set_sizes HPS.out (okC_iff.1 h))
                      have HFITS := Lib.hid (fits_rise (rise_set hrise ⟨oc, ov, ob, oz⟩))
                      have RR := Lib.hid (fun w => rright_any oc ov ob oz w)
                      unfold cvC cv at HWI
                      unfold cv at RR
                      rw [hok] at RR
                      have HSZ3 := Lib.hid (show True from trivial)
                      obtain ⟨n, hn⟩ : ∃ n, n = setS l ⟨oc, ov, ob, oz⟩ := ⟨_, rfl⟩
                      rw [← hn] at HWI HN49 HFITS
                      have HNN := Lib.hid hn
                      obtain ⟨N, hN⟩ : ∃ N, n.length = N := ⟨_, rfl⟩
                      rw [hN] at HWI HN49
                      have HNL := Lib.hid hN
                      clear hn hN hrise HSZ2 hok
                      obtain ⟨oP0, oP1, oP2, oP3⟩ := P1.out.cells
                      obtain ⟨oO0, oO1, oO2, oO3, oO4⟩ := O1.out.cells
                      go_wp2_with fail
                      clear oP0 oP1 oP2 oP3
                      clear oO0 oO1 oO2 oO3 oO4
                      refine (SY.out _).mono ?_; rintro e w2 ⟨rfl, hb⟩
                      have P2 := Lib.hid (P1.out.kept hb)
                      have O2 := Lib.hid (O1.out.kept hb)
                      have V2 := Lib.hid (V1.out.kept hb)
                      have K2 := Lib.hid (K1.out.kept hb)
                      have HB2 := Lib.hid (HB1.out.trans (hb.mono (Below.size HB1.out)))
                      clear hb HB1 P1 O1 V1 K1
                      have hal := (Below.refl (w2).heap.size (w2)).alloc (Nat.le_refl _) (.cells #[.int .i64 0, .int .i64 0, .int .i64 0, .string ⟨#[]⟩] 23)
                      replace P2 := Lib.hid (P2.out.kept hal)
                      replace O2 := Lib.hid (O2.out.kept hal)
                      replace V2 := Lib.hid (V2.out.kept hal)
                      replace K2 := Lib.hid (K2.out.kept hal)
                      have Q2 := Lib.hid (PBox.new (w2) (0) (0) (0) (⟨#[]⟩))
                      replace HB2 := Lib.hid (HB2.out.trans (hal.mono (Below.size HB2.out)))
                      clear hal
                      obtain ⟨oO0, oO1, oO2, oO3, oO4⟩ := O2.out.cells
                      go_wp2_with fail
                      clear oO0 oO1 oO2 oO3 oO4
                      obtain ⟨bQ, hbQ⟩ : ∃ bQ, bQ = (w2).heap.size := ⟨_, rfl⟩
                      rw [← hbQ] at Q2 ⊢
                      have HLQ := Lib.hid hbQ
                      clear hbQ
                      generalize (w2).alloc (.cells #[.int .i64 0, .int .i64 0, .int .i64 0, .string ⟨#[]⟩] 23) = v2 at *
                      clear HLQ
                      refine (HWI.out _ V2.out).mono ?_; rintro e w3 ⟨A5, c5, rfl, ho, hb⟩
                      have P3 := Lib.hid (P2.out.kept hb)
                      have O3 := Lib.hid (O2.out.kept hb)
                      have V3 := Lib.hid (V2.out.kept hb)
                      have K3 := Lib.hid (K2.out.kept hb)
                      have Q3 := Lib.hid (Q2.out.kept hb)
                      have N3 := Lib.hid (own_row ho HNL.out)
                      have HB3 := Lib.hid (HB2.out.trans (hb.mono (Below.size HB2.out)))
                      clear ho hb HB2 P2 O2 V2 K2 Q2 HWI
                      obtain ⟨oO0, oO1, oO2, oO3, oO4⟩ := O3.out.cells
                      go_wp2_with fail
                      clear oO0 oO1 oO2 oO3 oO4
                      refine (RR.out _).mono ?_; rintro e w4 ⟨rfl, hb⟩
                      have P4 := Lib.hid (P3.out.kept hb)
                      have O4 := Lib.hid (O3.out.kept hb)
                      have V4 := Lib.hid (V3.out.kept hb)
                      have K4 := Lib.hid (K3.out.kept hb)
                      have Q4 := Lib.hid (Q3.out.kept hb)
                      have N4 := Lib.hid (N3.out.kept hb)
                      have HB4 := Lib.hid (HB3.out.trans (hb.mono (Below.size HB3.out)))
                      clear hb HB3 P3 O3 V3 K3 Q3 N3
                      have en : ∀ w, (binOp .neq 23 (.agg #[.int .i64 0, .int .i64 0, .int .i64 0, .string ⟨#[]⟩]) (.agg #[.int .i64 0, .int .i64 0, .int .i64 0, .string ⟨#[]⟩])).run Tryz.prog w = .ok (.bool false) w := fun w => by rw [neq_pages, eqP4_iff.2 ⟨rfl, rfl, rfl, rfl⟩]; rfl
                      obtain ⟨oQ0, oQ1, oQ2, oQ3⟩ := Q4.out.cells
                      go_wp2_with fail
                      go_meet
                      exact ⟨A, m, c, rfl, b, es, fs, ls, HBL.out, HGD.out, by rw [← HLL.out]; exact HLN.out, by rw [← HSB.out]; exact P4.out, by rw [← HLL.out]; exact V4.out, K4.out, HBK.out, HB4.out⟩
                  | true =>
                    cases hput : putOk (setS l ⟨oc, ov, ob, oz⟩) with
                    | false =>
                      as_aux_lemma =>
                        have hres : resV (setP ⟨k0, s0, b0, b⟩ ⟨oc, ov, ob, oz⟩) = .tuple #[.agg #[.int .i64 0, .int .i64 0, .int .i64 0, .string ⟨#[]⟩], .int .i64 13] := by unfold setP; dsimp only; rw [HGD.out, hok, ← HLL.out, hput]; rfl
                        have SY := Lib.hid (fun w => HSET.out ⟨oc, ov, ob, oz⟩ w)
                        rw [hres] at SY
                        unfold cvC cv at SY
                        clear hres
                        have hrise := putOk_rise HPS.out
                        have HWI := Lib.hid (fun w' (h : Row w' A m c l) => with_walk (cp := c) ⟨oc, ov, ob, oz⟩ w' (h.ces (put_sz HPS.out) (max_small (by omega))) hrise HLN.out (by omega) (Nat.le_refl _))
                        unfold NewL Own at HWI
                        have HN49 := set_len hrise (by rw [HLN.out]; exact hm47) ⟨oc, ov, ob, oz⟩
                        have HSZ2 := Lib.hid (fun (h : okC ⟨oc, ov, ob, oz⟩ = true) => set_sizes HPS.out (okC_iff.1 h))
                        have HFITS := Lib.hid (fits_rise (rise_set hrise ⟨oc, ov, ob, oz⟩))
                        have RR := Lib.hid (fun w => rright_any oc ov ob oz w)
                        unfold cvC cv at HWI
                        unfold cv at RR
                        rw [hok] at RR
                        have HSZ3 := Lib.hid (show Sz (setS l ⟨oc, ov, ob, oz⟩) from HSZ2.out hok)
                        rw [hput] at HFITS
                        have HPUT := Lib.hid hput
                        obtain ⟨n, hn⟩ : ∃ n, n = setS l ⟨oc, ov, ob, oz⟩ := ⟨_, rfl⟩
                        rw [← hn] at HWI HN49 HFITS HSZ3 HPUT
                        have HNN := Lib.hid hn
                        obtain ⟨N, hN⟩ : ∃ N, n.length = N := ⟨_, rfl⟩
                        rw [hN] at HWI HN49
                        have HNL := Lib.hid hN
                        clear hn hN hrise HSZ2 hok hput
                        obtain ⟨oP0, oP1, oP2, oP3⟩ := P1.out.cells
                        obtain ⟨oO0, oO1, oO2, oO3, oO4⟩ := O1.out.cells
                        go_wp2_with fail
                        clear oP0 oP1 oP2 oP3
                        clear oO0 oO1 oO2 oO3 oO4
                        refine (SY.out _).mono ?_; rintro e w2 ⟨rfl, hb⟩
                        have P2 := Lib.hid (P1.out.kept hb)
                        have O2 := Lib.hid (O1.out.kept hb)
                        have V2 := Lib.hid (V1.out.kept hb)
                        have K2 := Lib.hid (K1.out.kept hb)
                        have HB2 := Lib.hid (HB1.out.trans (hb.mono (Below.size HB1.out)))
                        clear hb HB1 P1 O1 V1 K1
                        have hal := (Below.refl (w2).heap.size (w2)).alloc (Nat.le_refl _) (.cells #[.int .i64 0, .int .i64 0, .int .i64 0, .string ⟨#[]⟩] 23)
                        replace P2 := Lib.hid (P2.out.kept hal)
                        replace O2 := Lib.hid (O2.out.kept hal)
                        replace V2 := Lib.hid (V2.out.kept hal)
                        replace K2 := Lib.hid (K2.out.kept hal)
                        have Q2 := Lib.hid (PBox.new (w2) (0) (0) (0) (⟨#[]⟩))
                        replace HB2 := Lib.hid (HB2.out.trans (hal.mono (Below.size HB2.out)))
                        clear hal
                        obtain ⟨oO0, oO1, oO2, oO3, oO4⟩ := O2.out.cells
                        go_wp2_with fail
                        clear oO0 oO1 oO2 oO3 oO4
                        obtain ⟨bQ, hbQ⟩ : ∃ bQ, bQ = (w2).heap.size := ⟨_, rfl⟩
                        rw [← hbQ] at Q2 ⊢
                        have HLQ := Lib.hid hbQ
                        clear hbQ
                        generalize (w2).alloc (.cells #[.int .i64 0, .int .i64 0, .int .i64 0, .string ⟨#[]⟩] 23) = v2 at *
                        clear HLQ
                        refine (HWI.out _ V2.out).mono ?_; rintro e w3 ⟨A5, c5, rfl, ho, hb⟩
                        have P3 := Lib.hid (P2.out.kept hb)
                        have O3 := Lib.hid (O2.out.kept hb)
                        have V3 := Lib.hid (V2.out.kept hb)
                        have K3 := Lib.hid (K2.out.kept hb)
                        have Q3 := Lib.hid (Q2.out.kept hb)
                        have N3 := Lib.hid (own_row ho HNL.out)
                        have HB3 := Lib.hid (HB2.out.trans (hb.mono (Below.size HB2.out)))
                        clear ho hb HB2 P2 O2 V2 K2 Q2 HWI
                        obtain ⟨oO0, oO1, oO2, oO3, oO4⟩ := O3.out.cells
                        go_wp2_with fail
                        clear oO0 oO1 oO2 oO3 oO4
                        refine (RR.out _).mono ?_; rintro e w4 ⟨rfl, hb⟩
                        have P4 := Lib.hid (P3.out.kept hb)
                        have O4 := Lib.hid (O3.out.kept hb)
                        have V4 := Lib.hid (V3.out.kept hb)
                        have K4 := Lib.hid (K3.out.kept hb)
                        have Q4 := Lib.hid (Q3.out.kept hb)
                        have N4 := Lib.hid (N3.out.kept hb)
                        have HB4 := Lib.hid (HB3.out.trans (hb.mono (Below.size HB3.out)))
                        clear hb HB3 P3 O3 V3 K3 Q3 N3
                        have RF := Lib.hid (rfits_walk (c := c5) w4 (N4.out.ces HSZ3.out (max_small (by omega))) HNL.out (by omega) (Nat.le_refl _))
                        rw [HFITS.out] at RF
                        go_wp2_with fail
                        refine (RF.out).mono ?_; rintro e w5 ⟨rfl, hb⟩
                        have P5 := Lib.hid (P4.out.kept hb)
                        have O5 := Lib.hid (O4.out.kept hb)
                        have V5 := Lib.hid (V4.out.kept hb)
                        have K5 := Lib.hid (K4.out.kept hb)
                        have Q5 := Lib.hid (Q4.out.kept hb)
                        have N5 := Lib.hid (N4.out.kept hb)
                        have HB5 := Lib.hid (HB4.out.trans (hb.mono (Below.size HB4.out)))
                        clear hb HB4 P4 O4 V4 K4 Q4 N4
                        have en : ∀ w, (binOp .neq 23 (.agg #[.int .i64 0, .int .i64 0, .int .i64 0, .string ⟨#[]⟩]) (.agg #[.int .i64 0, .int .i64 0, .int .i64 0, .string ⟨#[]⟩])).run Tryz.prog w = .ok (.bool false) w := fun w => by rw [neq_pages, eqP4_iff.2 ⟨rfl, rfl, rfl, rfl⟩]; rfl
                        obtain ⟨oQ0, oQ1, oQ2, oQ3⟩ := Q5.out.cells
                        go_wp2_with fail
                        go_meet
                        exact ⟨A, m, c, rfl, b, es, fs, ls, HBL.out, HGD.out, by rw [← HLL.out]; exact HLN.out, by rw [← HSB.out]; exact P5.out, by rw [← HLL.out]; exact V5.out, K5.out, HBK.out, HB5.out⟩
                    | true =>
                      as_aux_lemma =>
                        have hres : resV (setP ⟨k0, s0, b0, b⟩ ⟨oc, ov, ob, oz⟩) = .tuple #[.agg #[.int .i64 k0, .int .i64 s0, .int .i64 b0, .string (str (bodyOf (setS l ⟨oc, ov, ob, oz⟩)))], .int .i64 0] := by unfold setP; dsimp only; rw [HGD.out, hok, ← HLL.out, hput]; rfl
                        have SY := Lib.hid (fun w => HSET.out ⟨oc, ov, ob, oz⟩ w)
                        rw [hres] at SY
                        unfold cvC cv at SY
                        clear hres
                        have hrise := putOk_rise HPS.out
                        have HWI := Lib.hid (fun w' (h : Row w' A m c l) => with_walk (cp := c) ⟨oc, ov, ob, oz⟩ w' (h.ces (put_sz HPS.out) (max_small (by omega))) hrise HLN.out (by omega) (Nat.le_refl _))
                        unfold NewL Own at HWI
                        have HN49 := set_len hrise (by rw [HLN.out]; exact hm47) ⟨oc, ov, ob, oz⟩
                        have HSZ2 := Lib.hid (fun (h : okC ⟨oc, ov, ob, oz⟩ = true) => set_sizes HPS.out (okC_iff.1 h))
                        have HFITS := Lib.hid (fits_rise (rise_set hrise ⟨oc, ov, ob, oz⟩))
                        have RR := Lib.hid (fun w => rright_any oc ov ob oz w)
                        unfold cvC cv at HWI
                        unfold cv at RR
                        rw [hok] at RR
                        have HSZ3 := Lib.hid (show Sz (setS l ⟨oc, ov, ob, oz⟩) from HSZ2.out hok)
                        rw [hput] at HFITS
                        have HPUT := Lib.hid hput
                        obtain ⟨sb2, hsb2⟩ : ∃ s, s = str (bodyOf (setS l ⟨oc, ov, ob, oz⟩)) := ⟨_, rfl⟩
                        rw [← hsb2] at SY
                        have HS2 := Lib.hid hsb2
                        clear hsb2
                        obtain ⟨n, hn⟩ : ∃ n, n = setS l ⟨oc, ov, ob, oz⟩ := ⟨_, rfl⟩
                        rw [← hn] at HWI HN49 HFITS HSZ3 HPUT HS2
                        have HNN := Lib.hid hn
                        obtain ⟨N, hN⟩ : ∃ N, n.length = N := ⟨_, rfl⟩
                        rw [hN] at HWI HN49
                        have HNL := Lib.hid hN
                        clear hn hN hrise HSZ2 hok hput
                        obtain ⟨oP0, oP1, oP2, oP3⟩ := P1.out.cells
                        obtain ⟨oO0, oO1, oO2, oO3, oO4⟩ := O1.out.cells
                        go_wp2_with fail
                        clear oP0 oP1 oP2 oP3
                        clear oO0 oO1 oO2 oO3 oO4
                        refine (SY.out _).mono ?_; rintro e w2 ⟨rfl, hb⟩
                        have P2 := Lib.hid (P1.out.kept hb)
                        have O2 := Lib.hid (O1.out.kept hb)
                        have V2 := Lib.hid (V1.out.kept hb)
                        have K2 := Lib.hid (K1.out.kept hb)
                        have HB2 := Lib.hid (HB1.out.trans (hb.mono (Below.size HB1.out)))
                        clear hb HB1 P1 O1 V1 K1
                        have HPLT := Lib.hid (show bP < w2.heap.size from P2.out.lt)
                        have hal := (Below.refl (w2).heap.size (w2)).alloc (Nat.le_refl _) (.cells #[.int .i64 k0, .int .i64 s0, .int .i64 b0, .string sb2] 23)
                        replace P2 := Lib.hid (P2.out.kept hal)
                        replace O2 := Lib.hid (O2.out.kept hal)
                        replace V2 := Lib.hid (V2.out.kept hal)
                        replace K2 := Lib.hid (K2.out.kept hal)
                        have Q2 := Lib.hid (PBox.new (w2) (k0) (s0) (b0) (sb2))
                        replace HB2 := Lib.hid (HB2.out.trans (hal.mono (Below.size HB2.out)))
                        clear hal
                        obtain ⟨oO0, oO1, oO2, oO3, oO4⟩ := O2.out.cells
                        go_wp2_with fail
                        clear oO0 oO1 oO2 oO3 oO4
                        obtain ⟨bQ, hbQ⟩ : ∃ bQ, bQ = (w2).heap.size := ⟨_, rfl⟩
                        have HQP := Lib.hid (show ¬ w2.heap.size = bP from fun e => by have := HPLT.out; omega)
                        rw [← hbQ] at Q2 HQP ⊢
                        have HLQ := Lib.hid hbQ
                        clear hbQ
                        generalize (w2).alloc (.cells #[.int .i64 k0, .int .i64 s0, .int .i64 b0, .string sb2] 23) = v2 at *
                        clear HLQ
                        refine (HWI.out _ V2.out).mono ?_; rintro e w3 ⟨A5, c5, rfl, ho, hb⟩
                        have P3 := Lib.hid (P2.out.kept hb)
                        have O3 := Lib.hid (O2.out.kept hb)
                        have V3 := Lib.hid (V2.out.kept hb)
                        have K3 := Lib.hid (K2.out.kept hb)
                        have Q3 := Lib.hid (Q2.out.kept hb)
                        have N3 := Lib.hid (own_row ho HNL.out)
                        have HB3 := Lib.hid (HB2.out.trans (hb.mono (Below.size HB2.out)))
                        clear ho hb HB2 P2 O2 V2 K2 Q2 HWI
                        obtain ⟨oO0, oO1, oO2, oO3, oO4⟩ := O3.out.cells
                        go_wp2_with fail
                        clear oO0 oO1 oO2 oO3 oO4
                        refine (RR.out _).mono ?_; rintro e w4 ⟨rfl, hb⟩
                        have P4 := Lib.hid (P3.out.kept hb)
                        have O4 := Lib.hid (O3.out.kept hb)
                        have V4 := Lib.hid (V3.out.kept hb)
                        have K4 := Lib.hid (K3.out.kept hb)
                        have Q4 := Lib.hid (Q3.out.kept hb)
                        have N4 := Lib.hid (N3.out.kept hb)
                        have HB4 := Lib.hid (HB3.out.trans (hb.mono (Below.size HB3.out)))
                        clear hb HB3 P3 O3 V3 K3 Q3 N3
                        have RF := Lib.hid (rfits_walk (c := c5) w4 (N4.out.ces HSZ3.out (max_small (by omega))) HNL.out (by omega) (Nat.le_refl _))
                        rw [HFITS.out] at RF
                        go_wp2_with fail
                        refine (RF.out).mono ?_; rintro e w5 ⟨rfl, hb⟩
                        have P5 := Lib.hid (P4.out.kept hb)
                        have O5 := Lib.hid (O4.out.kept hb)
                        have V5 := Lib.hid (V4.out.kept hb)
                        have K5 := Lib.hid (K4.out.kept hb)
                        have Q5 := Lib.hid (Q4.out.kept hb)
                        have N5 := Lib.hid (N4.out.kept hb)
                        have HB5 := Lib.hid (HB4.out.trans (hb.mono (Below.size HB4.out)))
                        clear hb HB4 P4 O4 V4 K4 Q4 N4
                        have RP := Lib.hid (rput_walk (c := c5) w5 (N5.out.ces HSZ3.out (max_small (by omega))) HNL.out (by omega) (Nat.le_refl _))
                        unfold putS at RP
                        rw [HPUT.out, if_pos rfl, ← HS2.out] at RP
                        go_wp2_with fail
                        refine (RP.out).mono ?_; rintro e w6 ⟨rfl, hb⟩
                        have P6 := Lib.hid (P5.out.kept hb)
                        have O6 := Lib.hid (O5.out.kept hb)
                        have V6 := Lib.hid (V5.out.kept hb)
                        have K6 := Lib.hid (K5.out.kept hb)
                        have Q6 := Lib.hid (Q5.out.kept hb)
                        have N6 := Lib.hid (N5.out.kept hb)
                        have HB6 := Lib.hid (HB5.out.trans (hb.mono (Below.size HB5.out)))
                        clear hb HB5 P5 O5 V5 K5 Q5 N5
                        have en : ∀ w, (binOp .neq 23 (.agg #[.int .i64 k0, .int .i64 s0, .int .i64 b0, .string sb2]) (.agg #[.int .i64 k0, .int .i64 s0, .int .i64 b0, .string sb2])).run Tryz.prog w = .ok (.bool false) w := fun w => by rw [neq_pages, eqP4_iff.2 ⟨rfl, rfl, rfl, rfl⟩]; rfl
                        obtain ⟨⟨oP0, oP1, oP2, oP3⟩, fP0, fP1, fP2, fP3⟩ := And.intro P6.out.cells P6.out.free
                        have hne := HQP.out
                        have hne' : ¬ bP = bQ := fun e => HQP.out e.symm
                        obtain ⟨oQ0, oQ1, oQ2, oQ3⟩ := Q6.out.cells
                        go_wp2_with fail
                        go_meet
                        obtain ⟨gg, cc2⟩ := goodP_body (HBODY.out trivial).2 HPUT.out
                        refine ⟨A5, N, c5, rfl, bodyOf n, es, fs, ls, by rw [bodyOf_length HPUT.out]; omega, gg, by rw [cc2]; exact HNL.out, ?_, ?_, ?_, HBK.out, below_set1 HB6.out HPL.out⟩
                        · rw [← HS2.out]; exact PBox.set3 P6.out _
                        · rw [cc2]; exact row_pset N6.out P6.out
                        · exact book_pset K6.out P6.out
              · have hk1' : (ok == 1) = false := by rw [beq_eq_false_iff_ne]; exact hk1
                clear hk1
                by_cases hk2 : ok = 2
                · subst hk2
                  cases g0 with
                  | false =>
                    as_aux_lemma =>
                      have hres : resV (cutP ⟨k0, s0, b0, b⟩ oc) = .tuple #[.agg #[.int .i64 0, .int .i64 0, .int .i64 0, .string ⟨#[]⟩], .int .i64 2] := by unfold cutP; dsimp only; rw [HGD.out]; rfl
                      have CU := Lib.hid (fun w => HCUT.out oc w)
                      rw [hres] at CU
                      clear hres
                      have HWO := Lib.hid (fun w' (h : Row w' A m c l) => without_walk (c := c) oc w' (h.ces (put_sz HPS.out) (max_small (by omega))) HLN.out (by omega) (Nat.le_refl _))
                      have hputc := putOk_cut HPS.out oc
                      generalize decide ((cutS l oc).length < l.length) = sbn at *
                      obtain ⟨n, hn⟩ : ∃ n, n = cutS l oc := ⟨_, rfl⟩
                      rw [← hn] at HWO hputc
                      have HPUT := Lib.hid hputc
                      have hN47 := put_len hputc
                      obtain ⟨N, hN⟩ : ∃ N, n.length = N := ⟨_, rfl⟩
                      rw [hN] at HWO hN47
                      have HNL := Lib.hid hN
                      clear hn hN hputc
                      obtain ⟨oP0, oP1, oP2, oP3⟩ := P1.out.cells
                      obtain ⟨oO0, oO1, oO2, oO3, oO4⟩ := O1.out.cells
                      go_wp2_with fail
                      clear oP0 oP1 oP2 oP3
                      clear oO0 oO1 oO2 oO3 oO4
                      refine (CU.out _).mono ?_; rintro e w2 ⟨rfl, hb⟩
                      have P2 := Lib.hid (P1.out.kept hb)
                      have O2 := Lib.hid (O1.out.kept hb)
                      have V2 := Lib.hid (V1.out.kept hb)
                      have K2 := Lib.hid (K1.out.kept hb)
                      have HB2 := Lib.hid (HB1.out.trans (hb.mono (Below.size HB1.out)))
                      clear hb HB1 P1 O1 V1 K1
                      have hal := (Below.refl (w2).heap.size (w2)).alloc (Nat.le_refl _) (.cells #[.int .i64 0, .int .i64 0, .int .i64 0, .string ⟨#[]⟩] 23)
                      replace P2 := Lib.hid (P2.out.kept hal)
                      replace O2 := Lib.hid (O2.out.kept hal)
                      replace V2 := Lib.hid (V2.out.kept hal)
                      replace K2 := Lib.hid (K2.out.kept hal)
                      have Q2 := Lib.hid (PBox.new (w2) (0) (0) (0) (⟨#[]⟩))
                      replace HB2 := Lib.hid (HB2.out.trans (hal.mono (Below.size HB2.out)))
                      clear hal
                      obtain ⟨oO0, oO1, oO2, oO3, oO4⟩ := O2.out.cells
                      go_wp2_with fail
                      clear oO0 oO1 oO2 oO3 oO4
                      obtain ⟨bQ, hbQ⟩ : ∃ bQ, bQ = (w2).heap.size := ⟨_, rfl⟩
                      rw [← hbQ] at Q2 ⊢
                      have HLQ := Lib.hid hbQ
                      clear hbQ
                      generalize (w2).alloc (.cells #[.int .i64 0, .int .i64 0, .int .i64 0, .string ⟨#[]⟩] 23) = v2 at *
                      clear HLQ
                      refine (HWO.out _ V2.out).mono ?_; rintro e w3 ⟨A5, c5, rfl, ho, hb⟩
                      have P3 := Lib.hid (P2.out.kept hb)
                      have O3 := Lib.hid (O2.out.kept hb)
                      have V3 := Lib.hid (V2.out.kept hb)
                      have K3 := Lib.hid (K2.out.kept hb)
                      have Q3 := Lib.hid (Q2.out.kept hb)
                      have N3 := Lib.hid (own_row ho HNL.out)
                      have HB3 := Lib.hid (HB2.out.trans (hb.mono (Below.size HB2.out)))
                      clear ho hb HB2 P2 O2 V2 K2 Q2 HWO
                      have en : ∀ w, (binOp .neq 23 (.agg #[.int .i64 0, .int .i64 0, .int .i64 0, .string ⟨#[]⟩]) (.agg #[.int .i64 0, .int .i64 0, .int .i64 0, .string ⟨#[]⟩])).run Tryz.prog w = .ok (.bool false) w := fun w => by rw [neq_pages, eqP4_iff.2 ⟨rfl, rfl, rfl, rfl⟩]; rfl
                      obtain ⟨oQ0, oQ1, oQ2, oQ3⟩ := Q3.out.cells
                      go_wp2_with fail
                      go_meet
                      exact ⟨A, m, c, rfl, b, es, fs, ls, HBL.out, HGD.out, by rw [← HLL.out]; exact HLN.out, by rw [← HSB.out]; exact P3.out, by rw [← HLL.out]; exact V3.out, K3.out, HBK.out, HB3.out⟩
                  | true =>
                    by_cases hcl : (cutS l oc).length = l.length
                    · as_aux_lemma =>
                        have hres : resV (cutP ⟨k0, s0, b0, b⟩ oc) = .tuple #[.agg #[.int .i64 0, .int .i64 0, .int .i64 0, .string ⟨#[]⟩], .int .i64 3] := by unfold cutP; dsimp only; rw [HGD.out, if_pos rfl, ← HLL.out, if_pos hcl]; rfl
                        have hin : decide ((cutS l oc).length < l.length) = false := ltdec hcl
                        have CU := Lib.hid (fun w => HCUT.out oc w)
                        rw [hres] at CU
                        clear hres
                        have HWO := Lib.hid (fun w' (h : Row w' A m c l) => without_walk (c := c) oc w' (h.ces (put_sz HPS.out) (max_small (by omega))) HLN.out (by omega) (Nat.le_refl _))
                        have hputc := putOk_cut HPS.out oc
                        rw [hin] at HWO
                        clear hin hcl
                        obtain ⟨n, hn⟩ : ∃ n, n = cutS l oc := ⟨_, rfl⟩
                        rw [← hn] at HWO hputc
                        have HPUT := Lib.hid hputc
                        have hN47 := put_len hputc
                        obtain ⟨N, hN⟩ : ∃ N, n.length = N := ⟨_, rfl⟩
                        rw [hN] at HWO hN47
                        have HNL := Lib.hid hN
                        clear hn hN hputc
                        obtain ⟨oP0, oP1, oP2, oP3⟩ := P1.out.cells
                        obtain ⟨oO0, oO1, oO2, oO3, oO4⟩ := O1.out.cells
                        go_wp2_with fail
                        clear oP0 oP1 oP2 oP3
                        clear oO0 oO1 oO2 oO3 oO4
                        refine (CU.out _).mono ?_; rintro e w2 ⟨rfl, hb⟩
                        have P2 := Lib.hid (P1.out.kept hb)
                        have O2 := Lib.hid (O1.out.kept hb)
                        have V2 := Lib.hid (V1.out.kept hb)
                        have K2 := Lib.hid (K1.out.kept hb)
                        have HB2 := Lib.hid (HB1.out.trans (hb.mono (Below.size HB1.out)))
                        clear hb HB1 P1 O1 V1 K1
                        have hal := (Below.refl (w2).heap.size (w2)).alloc (Nat.le_refl _) (.cells #[.int .i64 0, .int .i64 0, .int .i64 0, .string ⟨#[]⟩] 23)
                        replace P2 := Lib.hid (P2.out.kept hal)
                        replace O2 := Lib.hid (O2.out.kept hal)
                        replace V2 := Lib.hid (V2.out.kept hal)
                        replace K2 := Lib.hid (K2.out.kept hal)
                        have Q2 := Lib.hid (PBox.new (w2) (0) (0) (0) (⟨#[]⟩))
                        replace HB2 := Lib.hid (HB2.out.trans (hal.mono (Below.size HB2.out)))
                        clear hal
                        obtain ⟨oO0, oO1, oO2, oO3, oO4⟩ := O2.out.cells
                        go_wp2_with fail
                        clear oO0 oO1 oO2 oO3 oO4
                        obtain ⟨bQ, hbQ⟩ : ∃ bQ, bQ = (w2).heap.size := ⟨_, rfl⟩
                        rw [← hbQ] at Q2 ⊢
                        have HLQ := Lib.hid hbQ
                        clear hbQ
                        generalize (w2).alloc (.cells #[.int .i64 0, .int .i64 0, .int .i64 0, .string ⟨#[]⟩] 23) = v2 at *
                        clear HLQ
                        refine (HWO.out _ V2.out).mono ?_; rintro e w3 ⟨A5, c5, rfl, ho, hb⟩
                        have P3 := Lib.hid (P2.out.kept hb)
                        have O3 := Lib.hid (O2.out.kept hb)
                        have V3 := Lib.hid (V2.out.kept hb)
                        have K3 := Lib.hid (K2.out.kept hb)
                        have Q3 := Lib.hid (Q2.out.kept hb)
                        have N3 := Lib.hid (own_row ho HNL.out)
                        have HB3 := Lib.hid (HB2.out.trans (hb.mono (Below.size HB2.out)))
                        clear ho hb HB2 P2 O2 V2 K2 Q2 HWO
                        have en : ∀ w, (binOp .neq 23 (.agg #[.int .i64 0, .int .i64 0, .int .i64 0, .string ⟨#[]⟩]) (.agg #[.int .i64 0, .int .i64 0, .int .i64 0, .string ⟨#[]⟩])).run Tryz.prog w = .ok (.bool false) w := fun w => by rw [neq_pages, eqP4_iff.2 ⟨rfl, rfl, rfl, rfl⟩]; rfl
                        obtain ⟨oQ0, oQ1, oQ2, oQ3⟩ := Q3.out.cells
                        go_wp2_with fail
                        go_meet
                        exact ⟨A, m, c, rfl, b, es, fs, ls, HBL.out, HGD.out, by rw [← HLL.out]; exact HLN.out, by rw [← HSB.out]; exact P3.out, by rw [← HLL.out]; exact V3.out, K3.out, HBK.out, HB3.out⟩
                    · as_aux_lemma =>
                        have hres : resV (cutP ⟨k0, s0, b0, b⟩ oc) = .tuple #[.agg #[.int .i64 k0, .int .i64 s0, .int .i64 b0, .string (str (bodyOf (cutS l oc)))], .int .i64 0] := by unfold cutP; dsimp only; rw [HGD.out, if_pos rfl, ← HLL.out, if_neg hcl]; rfl
                        have hin : decide ((cutS l oc).length < l.length) = true := decide_eq_true (by have := List.length_filter_le (otherB oc) l; unfold cutS at *; omega)
                        have CU := Lib.hid (fun w => HCUT.out oc w)
                        rw [hres] at CU
                        clear hres
                        have HWO := Lib.hid (fun w' (h : Row w' A m c l) => without_walk (c := c) oc w' (h.ces (put_sz HPS.out) (max_small (by omega))) HLN.out (by omega) (Nat.le_refl _))
                        have hputc := putOk_cut HPS.out oc
                        rw [hin] at HWO
                        clear hin hcl
                        obtain ⟨sb2, hsb2⟩ : ∃ s, s = str (bodyOf (cutS l oc)) := ⟨_, rfl⟩
                        rw [← hsb2] at CU
                        have HS2 := Lib.hid hsb2
                        clear hsb2
                        obtain ⟨n, hn⟩ : ∃ n, n = cutS l oc := ⟨_, rfl⟩
                        rw [← hn] at HWO hputc HS2
                        have HPUT := Lib.hid hputc
                        have hN47 := put_len hputc
                        obtain ⟨N, hN⟩ : ∃ N, n.length = N := ⟨_, rfl⟩
                        rw [hN] at HWO hN47
                        have HNL := Lib.hid hN
                        clear hn hN hputc
                        obtain ⟨oP0, oP1, oP2, oP3⟩ := P1.out.cells
                        obtain ⟨oO0, oO1, oO2, oO3, oO4⟩ := O1.out.cells
                        go_wp2_with fail
                        clear oP0 oP1 oP2 oP3
                        clear oO0 oO1 oO2 oO3 oO4
                        refine (CU.out _).mono ?_; rintro e w2 ⟨rfl, hb⟩
                        have P2 := Lib.hid (P1.out.kept hb)
                        have O2 := Lib.hid (O1.out.kept hb)
                        have V2 := Lib.hid (V1.out.kept hb)
                        have K2 := Lib.hid (K1.out.kept hb)
                        have HB2 := Lib.hid (HB1.out.trans (hb.mono (Below.size HB1.out)))
                        clear hb HB1 P1 O1 V1 K1
                        have HPLT := Lib.hid (show bP < w2.heap.size from P2.out.lt)
                        have hal := (Below.refl (w2).heap.size (w2)).alloc (Nat.le_refl _) (.cells #[.int .i64 k0, .int .i64 s0, .int .i64 b0, .string sb2] 23)
                        replace P2 := Lib.hid (P2.out.kept hal)
                        replace O2 := Lib.hid (O2.out.kept hal)
                        replace V2 := Lib.hid (V2.out.kept hal)
                        replace K2 := Lib.hid (K2.out.kept hal)
                        have Q2 := Lib.hid (PBox.new (w2) (k0) (s0) (b0) (sb2))
                        replace HB2 := Lib.hid (HB2.out.trans (hal.mono (Below.size HB2.out)))
                        clear hal
                        obtain ⟨oO0, oO1, oO2, oO3, oO4⟩ := O2.out.cells
                        go_wp2_with fail
                        clear oO0 oO1 oO2 oO3 oO4
                        obtain ⟨bQ, hbQ⟩ : ∃ bQ, bQ = (w2).heap.size := ⟨_, rfl⟩
                        have HQP := Lib.hid (show ¬ w2.heap.size = bP from fun e => by have := HPLT.out; omega)
                        rw [← hbQ] at Q2 HQP ⊢
                        have HLQ := Lib.hid hbQ
                        clear hbQ
                        generalize (w2).alloc (.cells #[.int .i64 k0, .int .i64 s0, .int .i64 b0, .string sb2] 23) = v2 at *
                        clear HLQ
                        refine (HWO.out _ V2.out).mono ?_; rintro e w3 ⟨A5, c5, rfl, ho, hb⟩
                        have P3 := Lib.hid (P2.out.kept hb)
                        have O3 := Lib.hid (O2.out.kept hb)
                        have V3 := Lib.hid (V2.out.kept hb)
                        have K3 := Lib.hid (K2.out.kept hb)
                        have Q3 := Lib.hid (Q2.out.kept hb)
                        have N3 := Lib.hid (own_row ho HNL.out)
                        have HB3 := Lib.hid (HB2.out.trans (hb.mono (Below.size HB2.out)))
                        clear ho hb HB2 P2 O2 V2 K2 Q2 HWO
                        have RP := Lib.hid (rput_walk (c := c5) w3 (N3.out.ces (put_sz HPUT.out) (max_small (by omega))) HNL.out (by omega) (Nat.le_refl _))
                        unfold putS at RP
                        rw [HPUT.out, if_pos rfl, ← HS2.out] at RP
                        go_wp2_with fail
                        refine (RP.out).mono ?_; rintro e w4 ⟨rfl, hb⟩
                        have P4 := Lib.hid (P3.out.kept hb)
                        have O4 := Lib.hid (O3.out.kept hb)
                        have V4 := Lib.hid (V3.out.kept hb)
                        have K4 := Lib.hid (K3.out.kept hb)
                        have Q4 := Lib.hid (Q3.out.kept hb)
                        have N4 := Lib.hid (N3.out.kept hb)
                        have HB4 := Lib.hid (HB3.out.trans (hb.mono (Below.size HB3.out)))
                        clear hb HB3 P3 O3 V3 K3 Q3 N3
                        have en : ∀ w, (binOp .neq 23 (.agg #[.int .i64 k0, .int .i64 s0, .int .i64 b0, .string sb2]) (.agg #[.int .i64 k0, .int .i64 s0, .int .i64 b0, .string sb2])).run Tryz.prog w = .ok (.bool false) w := fun w => by rw [neq_pages, eqP4_iff.2 ⟨rfl, rfl, rfl, rfl⟩]; rfl
                        obtain ⟨⟨oP0, oP1, oP2, oP3⟩, fP0, fP1, fP2, fP3⟩ := And.intro P4.out.cells P4.out.free
                        have hne := HQP.out
                        have hne' : ¬ bP = bQ := fun e => HQP.out e.symm
                        obtain ⟨oQ0, oQ1, oQ2, oQ3⟩ := Q4.out.cells
                        go_wp2_with fail
                        go_meet
                        obtain ⟨gg, cc2⟩ := goodP_body (HBODY.out trivial).2 HPUT.out
                        refine ⟨A5, N, c5, rfl, bodyOf n, es, fs, ls, by rw [bodyOf_length HPUT.out]; omega, gg, by rw [cc2]; exact HNL.out, ?_, ?_, ?_, HBK.out, below_set1 HB4.out HPL.out⟩
                        · rw [← HS2.out]; exact PBox.set3 P4.out _
                        · rw [cc2]; exact row_pset N4.out P4.out
                        · exact book_pset K4.out P4.out
                · have hk2' : (ok == 2) = false := by rw [beq_eq_false_iff_ne]; exact hk2
                  clear hk2
                  by_cases hk3 : ok = 3
                  · subst hk3
                    as_aux_lemma =>
                      have FY := Lib.hid (fun w => HFND.out oc w)
                      have hrise := Lib.hid (putOk_rise HPS.out)
                      unfold findV at FY
                      obtain ⟨fo, hfo⟩ : ∃ fo, fo = findS l oc := ⟨_, rfl⟩
                      rw [← hfo] at FY
                      have HFO := Lib.hid hfo
                      obtain ⟨z, hz⟩ : ∃ z, z = fo.getD nilC := ⟨_, rfl⟩
                      obtain ⟨sbo, hsbo⟩ : ∃ s, s = fo.isSome := ⟨_, rfl⟩
                      rw [← hz, ← hsbo] at FY
                      have HZ := Lib.hid hz
                      have HSO := Lib.hid hsbo
                      clear hfo hz hsbo
                      unfold cvC cv at FY
                      obtain ⟨oP0, oP1, oP2, oP3⟩ := P1.out.cells
                      obtain ⟨oO0, oO1, oO2, oO3, oO4⟩ := O1.out.cells
                      go_wp2_with fail
                      clear oP0 oP1 oP2 oP3
                      clear oO0 oO1 oO2 oO3 oO4
                      refine (FY.out _).mono ?_; rintro e w2 ⟨rfl, hb⟩
                      have P2 := Lib.hid (P1.out.kept hb)
                      have O2 := Lib.hid (O1.out.kept hb)
                      have V2 := Lib.hid (V1.out.kept hb)
                      have K2 := Lib.hid (K1.out.kept hb)
                      have HB2 := Lib.hid (HB1.out.trans (hb.mono (Below.size HB1.out)))
                      clear hb HB1 P1 O1 V1 K1
                      have hal := (Below.refl (w2).heap.size (w2)).alloc (Nat.le_refl _) (.cells #[.string z.key, .string z.val, .int .i64 z.blob, .int .i64 z.size] 42)
                      replace P2 := Lib.hid (P2.out.kept hal)
                      replace O2 := Lib.hid (O2.out.kept hal)
                      replace V2 := Lib.hid (V2.out.kept hal)
                      replace K2 := Lib.hid (K2.out.kept hal)
                      have Y2 := Lib.hid (Box.new (w2) (.string z.key) (.string z.val) (.int .i64 z.blob) (.int .i64 z.size))
                      replace HB2 := Lib.hid (HB2.out.trans (hal.mono (Below.size HB2.out)))
                      clear hal
                      obtain ⟨v2, hv2⟩ : ∃ v, v = w2.alloc (.cells #[.string z.key, .string z.val, .int .i64 z.blob, .int .i64 z.size] 42) := ⟨_, rfl⟩
                      have hs2 : v2.heap.size = w2.heap.size + 1 := by rw [hv2, World.size_alloc]
                      rw [← hv2] at Y2 P2 O2 V2 K2 HB2
                      have X3 := Lib.hid (Box.new v2 (.string ⟨#[]⟩) (.string ⟨#[]⟩) (.int .i64 0) (.int .i64 0))
                      have hal := (Below.refl v2.heap.size v2).alloc (Nat.le_refl _) (.cells #[.string ⟨#[]⟩, .string ⟨#[]⟩, .int .i64 0, .int .i64 0] 42)
                      have HAL := Lib.hid hal
                      obtain ⟨v3, hv3⟩ : ∃ v, v = v2.alloc (.cells #[.string ⟨#[]⟩, .string ⟨#[]⟩, .int .i64 0, .int .i64 0] 42) := ⟨_, rfl⟩
                      rw [← hv3] at X3 HAL
                      have HV3 := Lib.hid (show (w2.alloc (.cells #[.string z.key, .string z.val, .int .i64 z.blob, .int .i64 z.size] 42)).alloc (.cells #[.string ⟨#[]⟩, .string ⟨#[]⟩, .int .i64 0, .int .i64 0] 42) = v3 by rw [hv3, hv2])
                      obtain ⟨bX, hbX⟩ : ∃ b, b = w2.heap.size + 1 := ⟨_, rfl⟩
                      rw [hs2, ← hbX] at X3
                      have HXB := Lib.hid (show v2.heap.size ≤ bX by omega)
                      have hbX2 := Lib.hid hbX
                      clear hal hv2 hv3 hs2 hbX
                      go_wp2_with fail
                      rw [HV3.out, ← hbX2.out]
                      obtain ⟨bY, hbY⟩ : ∃ b, b = w2.heap.size := ⟨_, rfl⟩
                      rw [← hbY] at Y2 ⊢
                      clear hbY HV3 hbX2
                      go_loopw [22, 178] (fun y x wr => ∃ i : Nat, i ≤ m ∧ x = .int .i64 i ∧ ∃ sbi, y = .bool sbi ∧ Hid (sbi = (findS (l.take i) oc).isSome ∧ Box wr bX (.string ((findS (l.take i) oc).getD nilC).key) (.string ((findS (l.take i) oc).getD nilC).val) (.int .i64 ((findS (l.take i) oc).getD nilC).blob) (.int .i64 ((findS (l.take i) oc).getD nilC).size) ∧ Below v2.heap.size v2 wr)) (fun _ x _ => m - (intOf x).toNat)
                      case atStart => exact ⟨0, Nat.zero_le _, rfl, false, rfl, rfl, X3.out, HAL.out⟩
                      case round =>
                        obtain ⟨i, hi, rfl, sbi, rfl, hq⟩ := hrel
                        have HSI := Lib.hid hq.out.1
                        have X4 := Lib.hid hq.out.2.1
                        have HBI := Lib.hid hq.out.2.2
                        clear hq X3 HAL
                        have i0 : (0 : Int) ≤ (i : Int) := by omega
                        have O4 := Lib.hid (O2.out.kept HBI.out)
                        by_cases him : i < m
                        · have i1 : (i : Int) < (m : Int) := by omega
                          have hil : i < l.length := by rw [HLN.out]; exact him
                          obtain ⟨b', off', rfl, _, e0, e1, e2, e3⟩ := ((V2.out.ces (put_sz HPS.out) (max_small (by omega))).on HBI.out).1 i hil
                          have HFS := Lib.hid (find_step hrise.out (q := oc) hil)
                          generalize l.getD i nilC = y at *
                          have HX5 := Lib.hid (X4.out.kept ((Below.refl wr.heap.size wr).alloc (Nat.le_refl _) (.cells #[.string y.key, .string y.val, .int .i64 y.blob, .int .i64 y.size] 42)))
                          have O5 := Lib.hid (O4.out.kept ((Below.refl wr.heap.size wr).alloc (Nat.le_refl _) (.cells #[.string y.key, .string y.val, .int .i64 y.blob, .int .i64 y.size] 42)))
                          obtain ⟨oO0, oO1, oO2, oO3, oO4⟩ := O5.out.cells
                          have HB5 := Lib.hid (HBI.out.alloc (Below.size HBI.out) (.cells #[.string y.key, .string y.val, .int .i64 y.blob, .int .i64 y.size] 42))
                          cases gi : isB oc y with
                          | true =>
                            have ek : (y.key.toList == oc.toList) = true := by rw [keys_eq, decide_eq_true (isB_iff.1 gi).symm]
                            have HFT := Lib.hid (show findS (l.take (i + 1)) oc = some y by rw [HFS.out, gi]; rfl)
                            clear HFS gi
                            obtain ⟨⟨x0, x1, x2, x3⟩, f0, f1, f2, f3⟩ := And.intro HX5.out.cells HX5.out.free
                            go_wp2_with fail
                            go_roundw
                            case rel =>
                              refine ⟨i + 1, by omega, by go_num, true, rfl, ?_⟩
                              rw [HFT.out]
                              exact ⟨rfl, Box.set4 HX5.out _ _ _ _, below_set4 HB5.out HXB.out⟩
                            case measure => simp [intOf]; omega
                          | false =>
                            have ek : (y.key.toList == oc.toList) = false := by rw [keys_eq, decide_eq_false (fun e => isB_no.1 gi e.symm)]
                            have HFT := Lib.hid (show findS (l.take (i + 1)) oc = findS (l.take i) oc by rw [HFS.out, gi]; rfl)
                            clear HFS gi
                            go_wp2_with fail
                            go_roundw
                            case rel =>
                              refine ⟨i + 1, by omega, by go_num, sbi, rfl, ?_⟩
                              rw [HFT.out]
                              exact ⟨HSI.out, HX5.out, HB5.out⟩
                            case measure => simp [intOf]; omega
                        · obtain rfl : m = i := by omega
                          have i1 : ¬ (m : Int) < (m : Int) := by omega
                          have htk : l.take m = l := List.take_of_length_le (by rw [HLN.out]; exact Nat.le_refl _)
                          have hx4 := X4.out
                          have hsi := HSI.out
                          rw [htk, ← HFO.out, ← HZ.out] at hx4
                          rw [htk, ← HFO.out, ← HSO.out] at hsi
                          have HX6 := Lib.hid hx4
                          clear hx4 htk X4 HSI
                          subst hsi
                          have Y4 := Lib.hid (Y2.out.kept HBI.out)
                          have P4 := Lib.hid (P2.out.kept HBI.out)
                          have V4 := Lib.hid (V2.out.kept HBI.out)
                          have K4 := Lib.hid (K2.out.kept HBI.out)
                          have HB4 := Lib.hid (HB2.out.trans (HBI.out.mono (Below.size HB2.out)))
                          obtain ⟨x0, x1, x2, x3⟩ := HX6.out.cells
                          obtain ⟨y0, y1, y2, y3⟩ := Y4.out.cells
                          have en : ∀ w, (binOp .neq 42 (.agg #[.string z.key, .string z.val, .int .i64 z.blob, .int .i64 z.size]) (.agg #[.string z.key, .string z.val, .int .i64 z.blob, .int .i64 z.size])).run Tryz.prog w = .ok (.bool false) w := fun w => by rw [neq_cells, eqC_iff.2 rfl]; rfl
                          have eb : (sbi != sbi) = false := by simp
                          go_wp2_with fail
                          go_meet
                          exact ⟨A, m, c, rfl, b, es, fs, ls, HBL.out, HGD.out, by rw [← HLL.out]; exact HLN.out, by rw [← HSB.out]; exact P4.out, by rw [← HLL.out]; exact V4.out, K4.out, HBK.out, HB4.out⟩
                  · have hk3' : (ok == 3) = false := by rw [beq_eq_false_iff_ne]; exact hk3
                    as_aux_lemma =>
                      go_wp2_with fail
                      go_meet
                      exact ⟨A, m, c, rfl, b, es, fs, ls, HBL.out, HGD.out, by rw [← HLL.out]; exact HLN.out, by rw [← HSB.out]; exact P1.out, by rw [← HLL.out]; exact V1.out, K1.out, HBK.out, HB1.out⟩
            case rest =>
              as_aux_lemma =>
                obtain ⟨A3, m3, c3, rfl, hq⟩ := hcut
                clear O1 P1 V1 K1 HB1 HBL HGD HLN HBK hm47 g1 hlong e1
                obtain ⟨b3, es3, fs3, ls3, h1, h2, h3, h4, h5, h6, h7, h8⟩ := hq.out
                have HBL := Lib.hid h1
                have HGD := Lib.hid h2
                have HLN := Lib.hid h3
                have P0 := Lib.hid h4
                have V0 := Lib.hid h5
                have K0 := Lib.hid h6
                have HBK := Lib.hid h7
                have HB0 := Lib.hid h8
                have hm47 : m3 ≤ 47 := by rw [← h3]; exact put_len (cellsP_ok k0 b3)
                have CY := Lib.hid (fun w => bcells_any k0 s0 b0 b3 (by omega) w)
                have RO := Lib.hid (fun w => room_any k0 s0 b0 b3 (by omega) w)
                have HPS := Lib.hid (cellsP_ok k0 b3)
                have HRM := Lib.hid (show roomP k0 b3 = if g0 then 239 - (sums (cellsP k0 b3) : Int) else 0 from by unfold roomP; rw [HGD.out])
                clear hq h1 h2 h3 h4 h5 h6 h7 h8
                unfold NewL Own at CY
                unfold pv at CY RO
                rw [HLN.out] at CY
                obtain ⟨sb3, hsb3⟩ : ∃ s, s = str b3 := ⟨_, rfl⟩
                rw [← hsb3] at CY RO P0
                have HSB := Lib.hid hsb3
                clear hsb3
                have hl : ∃ l, l = cellsP k0 b3 := ⟨_, rfl⟩
                obtain ⟨l, hl⟩ := hl
                rw [← hl] at CY HPS HRM HLN V0
                have HL := Lib.hid hl
                clear hl
                obtain ⟨rm, hrm⟩ : ∃ r, roomP k0 b3 = r := ⟨_, rfl⟩
                rw [hrm] at RO HRM
                clear hrm
                obtain ⟨oP0, oP1, oP2, oP3⟩ := P0.out.cells
                go_wp2_with fail
                clear oP0 oP1 oP2 oP3
                refine (CY.out _).mono ?_; rintro e w1 ⟨A4, c4, rfl, ho, hb⟩
                have P1 := Lib.hid (P0.out.kept hb)
                have V1 := Lib.hid (V0.out.kept hb)
                have K1 := Lib.hid (K0.out.kept hb)
                have HB1 := Lib.hid (HB0.out.trans (hb.mono (Below.size HB0.out)))
                have HFAR := Lib.hid (book_far K0.out ho (Nat.le_refl _))
                have X1 := Lib.hid (own_row ho HLN.out)
                have HBASE := Lib.hid (show ∀ g, (⟨A4, m3, c4⟩ : E).own = some g → w.heap.size ≤ g from fun g hg => Nat.le_trans (Below.size HB0.out) (ho.lt g hg).1)
                clear ho hb P0 V0 K0 HB0 CY
                have hlens := book_len K1.out
                have hes := HBK.out.1
                go_wp2_with fail
                refine (add_walk w.heap.size bB es3 fs3 ls3 ls3 A4 m3 c4 l w1 K1.out (Below.size HB1.out) X1.out (put_sz HPS.out) (by omega) (by omega) (by omega) HFAR.out).mono ?_; rintro e w2 ⟨rfl, f1, hbk, hkb, hf1⟩
                obtain ⟨cs1, hcs1⟩ := K1.out.block
                have K2 := Lib.hid hbk
                have P2 := Lib.hid (P1.out.keptB hkb hcs1)
                have V2 := Lib.hid (hkb.row V1.out hcs1)
                have X2 := Lib.hid (hkb.row X1.out hcs1)
                have HB2 := Lib.hid (HB1.out.trans hkb.1)
                have HBK2 := Lib.hid (HBK.out.add hlens.1 (e := ⟨A4, m3, c4⟩) (l := l) HBASE.out (show m3 ≤ 90000 by omega) (put_sz HPS.out))
                clear hbk hkb hf1 hcs1 K1 P1 V1 X1 HB1 HBK HFAR HBASE hlens hes
                have HVC := Lib.hid (V2.out.ces (put_sz HPS.out) (max_small (by omega)))
                have HXC := Lib.hid (X2.out.ces (put_sz HPS.out) (max_small (by omega)))
                go_upto_if 203 with fail
                go_cut [26] (fun s26 wx => s26 = .int .i64 rm ∧ Hid (Below w2.heap.size w2 wx))
                case first =>
                  cases g0 with
                  | false =>
                    have HR0 := Lib.hid (show rm = 0 by have := HRM.out; simpa using this)
                    go_wp2_with fail
                    go_meet
                    exact ⟨by rw [HR0.out], Below.refl _ _⟩
                  | true =>
                    have HR0 := Lib.hid (show rm = 239 - (sums l : Int) by have := HRM.out; simpa using this)
                    have HSL := (putOk_iff.1 HPS.out).2.1
                    have HOKS := Lib.hid (putOk_iff.1 HPS.out).1
                    go_wp2_with fail
                    go_loopw [26, 206] (fun y x wr => ∃ i s : Nat, i ≤ m3 ∧ x = .int .i64 i ∧ y = .int .i64 (239 - (s : Int)) ∧ s ≤ 239 ∧ Hid (s = sums (l.take i) ∧ Below w2.heap.size w2 wr)) (fun _ x _ => m3 - (intOf x).toNat)
                    case atStart => exact ⟨0, 0, Nat.zero_le _, rfl, rfl, by omega, rfl, Below.refl _ _⟩
                    case round =>
                      obtain ⟨i, s, hi, rfl, rfl, hs, hq⟩ := hrel
                      have HS := Lib.hid hq.out.1
                      have HBI := Lib.hid hq.out.2
                      clear hq
                      have i0 : (0 : Int) ≤ (i : Int) := by omega
                      by_cases him : i < m3
                      · have i1 : (i : Int) < (m3 : Int) := by omega
                        have hil : i < l.length := by rw [HLN.out]; exact him
                        obtain ⟨b', off', rfl, _, e0, e1, e2, e3⟩ := (HVC.out.on HBI.out).1 i hil
                        have hst := sums_take l i hil
                        have hle := sums_le l (i + 1)
                        have hyo := HOKS.out _ (getD_mem hil)
                        have hss : s = sums (l.take i) := HS.out
                        have RY := Lib.hid (fun w => rsize_any (l.getD i nilC).key (l.getD i nilC).val (l.getD i nilC).blob (l.getD i nilC).size (by have := hyo.1; unfold maxLen; omega) (by obtain ⟨_, h | h⟩ := hyo <;> (unfold maxLen; omega)) w)
                        unfold cv at RY
                        change Hid (∀ w, Calls _ _ _ w (fun e w' => e = .returned (.int .i64 (sizeC (l.getD i nilC) : Nat)) ∧ _)) at RY
                        have HT := Lib.hid (show s + sizeC (l.getD i nilC) = sums (l.take (i + 1)) by omega)
                        have hb9 : s + sizeC (l.getD i nilC) ≤ 239 := by omega
                        clear hst hle hyo hss
                        generalize sizeC (l.getD i nilC) = z at *
                        generalize l.getD i nilC = y at *
                        have ew : IntKind.i64.wrap (239 - (s : Int) - (z : Int)) = 239 - (s : Int) - (z : Int) := IntWalk.i64_in _ (by omega)
                        have HBY := Lib.hid (HBI.out.alloc (Below.size HBI.out) (.cells #[.string y.key, .string y.val, .int .i64 y.blob, .int .i64 y.size] 42))
                        go_wp2_with fail
                        refine (RY.out _).mono ?_; rintro e u ⟨rfl, hb⟩
                        have HBZ := Lib.hid (HBY.out.trans (hb.mono (Below.size HBY.out)))
                        clear hb
                        go_wp2_with fail
                        go_roundw
                        case rel => exact ⟨i + 1, s + z, by omega, by go_num, by congr 1; omega, hb9, HT.out, HBZ.out⟩
                        case measure => simp [intOf]; omega
                      · obtain rfl : m3 = i := by omega
                        have i1 : ¬ (m3 : Int) < (m3 : Int) := by omega
                        have hss : s = sums l := by have := HS.out; rwa [List.take_of_length_le (by rw [HLN.out]; exact Nat.le_refl _)] at this
                        have HRS := Lib.hid (show rm = 239 - (s : Int) by rw [HR0.out, hss])
                        clear hss
                        go_wp2_with fail
                        go_meet
                        exact ⟨by rw [HRS.out], HBI.out⟩
                case rest =>
                  obtain ⟨rfl, hq⟩ := hcut
                  have HB3 := Lib.hid (HB2.out.trans (hq.out.mono (Below.size HB2.out)))
                  have P3 := Lib.hid (P2.out.kept hq.out)
                  have V3 := Lib.hid (V2.out.kept hq.out)
                  have X3 := Lib.hid (X2.out.kept hq.out)
                  have K3 := Lib.hid (K2.out.kept hq.out)
                  clear hq P2 V2 X2 K2 HB2 HVC HXC
                  have SA := Lib.hid (same_walk (c := c4) (d := c3) wc (X3.out.ces (put_sz HPS.out) (max_small (by omega))) (V3.out.ces (put_sz HPS.out) (max_small (by omega))) HLN.out HLN.out (by omega))
                  rw [sameB_self] at SA
                  go_wp2_with fail
                  refine SA.out.mono ?_; rintro e u ⟨rfl, q, rfl⟩
                  have hb : Below wc.heap.size wc (wc.drewN q) := ⟨rfl, rfl, rfl, Nat.le_refl _, fun _ _ => rfl⟩
                  have HB4 := Lib.hid (HB3.out.trans (hb.mono (Below.size HB3.out)))
                  have P4 := Lib.hid (P3.out.kept hb)
                  have V4 := Lib.hid (V3.out.kept hb)
                  have K4 := Lib.hid (K3.out.kept hb)
                  clear hb P3 V3 X3 K3 HB3 SA
                  generalize wc.drewN q = W4 at *
                  obtain ⟨oP0, oP1, oP2, oP3⟩ := P4.out.cells
                  go_wp2_with fail
                  clear oP0 oP1 oP2 oP3
                  refine (RO.out _).mono ?_; rintro e w5 ⟨rfl, hb⟩
                  have HST := Lib.hid (show ST w bP bB k0 s0 b0 g0 (j + 1) A3 m3 c3 w5 from ⟨b3, _, _, _, HBL.out, HGD.out, by rw [← HL.out]; exact HLN.out, by rw [← HSB.out]; exact P4.out.kept hb, by rw [← HL.out]; exact V4.out.kept hb, K4.out.kept hb, HBK2.out, HB4.out.trans (hb.mono (Below.size HB4.out))⟩)
                  clear hb
                  have en : (rm != rm) = false := by simp
                  go_wp2_with fail
                  go_roundw
                  case rel => exact ⟨j + 1, by omega, by go_num, A3, m3, c3, rfl, HST.out⟩
                  case measure => simp [intOf]; omega
        · as_aux_lemma =>
            obtain rfl : n1 = j := by omega
            have j1 : ¬ (n1 : Int) < (n1 : Int) := by omega
            have AP := Lib.hid (apart_walk w.heap.size bB es fs ls wr K0.out (Below.size HB0.out) HBK.out.2.1 (by rw [HBK.out.1]; omega) HBK.out.2.2.1 HBK.out.2.2.2)
            go_wp2_with fail
            refine AP.out.mono ?_; rintro e w9 ⟨rfl, hb⟩
            have HB9 := Lib.hid (HB0.out.trans hb)
            clear hb
            go_wp2_with fail
            go_ret
            exact ⟨rfl, HB9.out⟩

/-! The row's step. -/
set_option maxRecDepth 100000 in
theorem lifted (os : Os) (started : os.Started) (H : Type) (enc : TypeId × Value → H) :
    ReturnsInHanded {} Tryz.checked os 3 .any (Rows.bucketPlaysSpec.pre6 enc Tryz.prog Tryz.f3 Rows.bucketPlaysRow.domain false) (Rows.bucketPlaysSpec.post enc Tryz.prog Tryz.f3 false true false false) := by
  refine returnsInHanded_of_change (C := Tryz.checked) own started (by kernel_rfl) Tryz.func3
    (ChangeSpec.witness6 (enc := enc) (C := Tryz.checked) false ⟨#[], #[.agg #[.int .i64 0, .int .i64 0, .int .i64 0, .string ByteArray.empty], .slice none 0 0], []⟩ 8 (by kernel_rfl) (by kernel_rfl) (by kernel_rfl) (by kernel_rfl)) ?_
  intro W base args ds gs before hval0 hW hcnd _
  have hval : ∀ (j : Nat) t v, Tryz.f3.params[j]? = some t → args[j]? = some v → Value.okWide Tryz.prog W .any base t v := hval0
  have hW' := hW
  obtain ⟨p, q, hA0, hV, rfl, hfz, hnd⟩ := hW
  have hA : DataW.TrodAll enc Tryz.prog W 0 (fun _ => true) true Tryz.f3.params.toList args.toList ds p := hA0
  rw [Tryz.params3] at hA hval
  obtain ⟨v0, vs0, d0, ds0, p0, q0, hargs, rfl, rfl, h0, r0⟩ := trodAll_cons hA
  obtain ⟨v1, vs1, d1, ds1, p1, q1, rfl, rfl, rfl, h1, r1⟩ := trodAll_cons r0
  obtain ⟨rfl, rfl, rfl⟩ := trodAll_nil r1
  obtain rfl : args = #[v0, v1] := by cases args; simp_all
  obtain ⟨rfl, rfl⟩ := trodVars_none hV
  obtain ⟨k0, s0, b0, z0, rfl, wk0, ws0, wb0, wz0, sh0⟩ := open_page (hval 0 23 v0 rfl rfl) h0
  obtain ⟨A1, n1, c1, rfl⟩ := okWide_slice Tryz.underlying24 (hval 1 24 v1 rfl rfl)
  have k1 := h1
  have lt1 : ∀ x ∈ p1, x.block < W.heap.size := by obtain ⟨m, hm⟩ := k1; exact DataW.trod_lt m _ _ _ hm
  obtain ⟨l1, w1, e1, f1⟩ := (by obtain ⟨fuel, hf⟩ := h1; exact ops_read hf (fun _ => rfl) : ∃ l, OpsL W A1 n1 l ∧ n1 ≤ c1 ∧ c1 ≤ maxLen)
  clear hA0 hval0
  refine (walk k0 s0 b0 z0 A1 n1 c1 l1 W wk0 ws0 wb0 wz0 w1 (Nat.le_trans e1 f1)).mono fun e W' ⟨he, bel⟩ => ?_
  subst he
  exact ⟨_, rfl, _, _, _, [], _, [], hW', trodAll_mk1 (shut_bool Tryz.underlying4 _), (trodAll_cons_mk (sh0 _ _) (trodAll_cons_mk (Below.trod laidOut (by kernel_rfl) (of_decide_eq_true (by kernel_rfl)) k1 bel lt1) trodAll_mk0)), rfl, bel.frame _, fun h => by cases h⟩

theorem over : Rows.bucketPlaysRow.holds Tryz.pinned (OpenSpec.ofChange Rows.bucketPlaysSpec) :=
  OpenClaim.holds_of_wide 3 Tryz.f3 rfl rfl rfl rfl rfl rfl rfl ⟨rfl, rfl, rfl, rfl, rfl⟩ rfl rfl rfl rfl rfl (by kernel_rfl) Tryz.func3 (by kernel_rfl)
    (of_decide_eq_true (by kernel_rfl)) (by unfold Func.isWrapper; first | (rw [if_pos (by decide +kernel)]; kernel_rfl) | (rw [if_neg (by decide +kernel)]; exact ⟨rfl, rfl⟩))
    (fun os started H enc _ => lifted os started H enc)

/-- The statement. -/
theorem proved : Rows.BucketPlaysSaid := over
end Go.Proofs.YtljegjcajlkgiaaGreat.bucketPlays
