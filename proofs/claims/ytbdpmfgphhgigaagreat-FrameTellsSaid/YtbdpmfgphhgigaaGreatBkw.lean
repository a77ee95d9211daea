/- The book's calls on lists of the kind Texts. -/
import Derived.Test.YtbdpmfgphhgigaaGreatBkg
import Derived.Test.YtbdpmfgphhgigaaGreatBkb
import Derived.Test.YtbdpmfgphhgigaaGreatTxt
import Derived.StillTailTactics
import Derived.Deep.RegionHeld3
namespace Go.Proofs.YtbdpmfgphhgigaaGreat.Bk
open Go.ChangeShapes Go.WideShapes Go.ChangeAt Go.RowKit
set_option linter.unusedVariables false
set_option linter.unusedSimpArgs false
set_option maxRecDepth 100000
def kW : Kd (ByteArray) where
  tE := 9
  tL := 24
  sz := 1
  enc x := [.string x]
  nil := ⟨#[]⟩
  mark i k := nameS i k
  len _ := rfl
  pos := by decide
  one a u hu := by simp at hu; subst hu; rfl
  ne := by decide
theorem infoW : (Tryz.prog.info? 9).map (fun i => (i.zero, i.size, i.bytes)) = some (some (.string ⟨#[]⟩), 1, 16) := by kernel_rfl
theorem infoLW : (Tryz.prog.info? 24).map (fun i => (i.zero, i.size, i.bytes)) = some (some (.slice none 0 0), 1, 24) := by kernel_rfl
theorem csW_nil : kW.cs [] = [] := rfl
theorem setW (w : World) (g t : Nat) (x : ByteArray) : w.setCells g (t * kW.sz) (kW.enc x) = (w.setCell ⟨g, t, none⟩ (.string x)) := by
  show (w.setCell ⟨g, t * 1, none⟩ _) = _
  rw [Nat.mul_one]
set_option maxHeartbeats 1000000 in
theorem copyW (C : Nat) (e : E) (l : List (ByteArray)) (w : World) (h : Row kW C w e l) (hn : e.n ≤ 1000000) :
    Calls Tryz.prog 32 #[.slice e.A e.n e.c] w fun x w' => MadeL kW l w x w' := by
  obtain ⟨i0, hi, hz0, hz1, hz2⟩ := info_parts infoW
  obtain ⟨A, n, c⟩ := e
  have hl : n = l.length := h.1
  have hs := h.src
  have ho := kW.cs_one l
  simp only at hn hs
  unfold MadeL
  generalize kW.cs l = xs at *
  go_enter Tryz.func32, Tryz.ntmps32
  go_wp2_with (at_builtin; refine wpList_append_src _ rfl _ _ 24 rfl 9 i0 (.string ⟨#[]⟩) 1 16 Tryz.underlying24 hi hz0 hz1 hz2 rfl (by decide) w.heap.size (.slice none 0 0) 0 [] rfl (World.ownsRow_nil _ _ _ _) A n c _ rfl hs ho (by unfold maxLen; omega) (by omega) (Nat.le_refl _) ?_; intro v' w1 hown hgrow hat)
  go_ret
  subst hl
  simp only [Nat.zero_add, List.nil_append] at hown
  obtain ⟨A', c', rfl⟩ := own_shape hown
  exact ⟨A', c', rfl, hown, (Below.refl _ _).grown hgrow (Nat.le_refl _) (fun k hk => by simp [Value.ownBlock] at hk)⟩
set_option maxHeartbeats 2000000 in
theorem marksW (i n : Nat) (w : World) (hi : i ≤ 1000) (hn : n ≤ 1000000) (a : Nat) (ha : a ≤ 10000000) :
    Calls Tryz.prog 96 #[.int .i64 i, .int .i64 a, .int .i64 n] w fun e w' => ∃ A c, e = .returned (.slice A n c) ∧ w'.ownsRow w.heap.size kW.tE kW.sz (.slice A n c) n (kW.cs (marks kW i a n)) ∧ Below w.heap.size w w' := by
  obtain ⟨i0, hi0, hz0, hz1, hz2⟩ := info_parts infoW
  have b1 : (i : Int) ≤ 1000 := by omega
  have b2 : (0 : Int) ≤ (i : Int) := by omega
  have b3 : (a : Int) ≤ 10000000 := by omega
  have b4 : (0 : Int) ≤ (a : Int) := by omega
  have b5 : (n : Int) ≤ 1000000 := by omega
  have b6 : (0 : Int) ≤ (n : Int) := by omega
  go_enter Tryz.func96, Tryz.ntmps96
  go_wp2_with fail
  go_loopw [7, 8] (fun v x wr => ∃ k : Nat, k ≤ n ∧ x = .int .i64 ((a : Int) + (k : Int)) ∧ Hid (wr.ownsRow w.heap.size 9 1 v k (kW.cs (marks kW i a k)) ∧ Below w.heap.size w wr)) (fun _ x _ => a + n - (intOf x).toNat)
  case atStart => exact ⟨0, Nat.zero_le _, by simp, World.ownsRow_nil _ _ _ _, Below.refl _ _⟩
  case round =>
    obtain ⟨k, hk, rfl, hq⟩ := hrel
    have HQ := Lib.hid hq.out
    clear hq
    have b7 : (0 : Int) ≤ (k : Int) := by omega
    by_cases hlt : k < n
    · have b8 : (a : Int) + (k : Int) < (a : Int) + (n : Int) := by omega
      have b9 : (k : Int) < (n : Int) := by omega
      have NM := Lib.hid (fun u => name_is i (a + k) hi (by omega) u)
      rw [show ((a + k : Nat) : Int) = (a : Int) + (k : Int) from by omega] at NM
      have HS := Lib.hid (show kW.cs (marks kW i a (k + 1)) = kW.cs (marks kW i a k) ++ [.string (nameS i (a + k))] from by rw [marks_succ, kW.cs_append, kW.cs_single]; rfl)
      generalize nameS i (a + k) = S at *
      go_wp2_with fail
      refine (NM.out _).mono ?_; rintro e w1 ⟨rfl, hb⟩
      have hown := owns_below HQ.out.1 hb
      have HB1 := Lib.hid (HQ.out.2.trans (hb.mono HQ.out.2.size))
      clear hb
      go_wp2_with (at_builtin; refine wpList_append_own _ rfl _ _ 24 rfl w.heap.size 9 i0 (.string ⟨#[]⟩) 1 16 Tryz.underlying24 hi0 hz0 hz1 hz2 rfl (by decide) _ _ _ rfl (hown.alloc _) ⟨w1.heap.size, 0, none⟩ 1 1 [.string S] rfl rfl (cell_one_new _ _ _) (by simp [Value.oneCell']) (by unfold maxLen; omega) (by omega) (by have := HB1.out.size; simp; omega) ?_; intro v' w2 hown' hgrow _; obtain ⟨g', cap', rfl⟩ := ownsRow_succ hown')
      have HO : Hid (w2.ownsRow w.heap.size 9 1 (.slice (some ⟨g', 0, none⟩) (k + 1) cap') (k + 1) (kW.cs (marks kW i a (k + 1)))) := by
        rw [Hid, HS.out]
        exact hown'
      have HB : Hid (Below w.heap.size w w2) := (HB1.out.alloc HB1.out.size _).grown hgrow (by have := HB1.out.size; simp; omega) (fun g hg => (hown.lt g hg).1)
      clear hown hown' hgrow
      go_wp2_with fail
      go_roundw
      case rel => exact ⟨k + 1, by omega, by go_num, HO.out, HB.out⟩
      case measure => simp [intOf]; omega
    · obtain rfl : k = n := by omega
      have b8 : ¬ ((a : Int) + (k : Int) < (a : Int) + (k : Int)) := by omega
      go_wp2_with fail
      go_ret
      obtain ⟨h1, h2⟩ := HQ.out
      obtain ⟨A', c', rfl⟩ := own_shape h1
      exact ⟨A', c', rfl, h1, h2⟩
theorem readW {w : World} {e : E} {l : List (ByteArray)} (h : Rd kW w e l) (hn : e.n ≤ maxLen) (hw : ∀ x ∈ l, x.size ≤ maxLen) : TextsM w.heap.size w e.A e.n l := by
  refine ⟨h.1.symm, hn, fun k hk => ?_⟩
  obtain ⟨g, h1, ⟨cur, h2⟩, h3⟩ := h.2 k hk
  have getE2 : ∀ {k : Nat}, k < e.n → l.getD k ⟨#[]⟩ ∈ l := fun hk => by
    rw [getD_at (by rw [← h.1]; exact hk)]; exact List.getElem_mem _
  exact ⟨g, 0, h1, (Array.getElem?_eq_some_iff.1 h2).1, by have := h3 0 _ rfl; simpa [kW] using this, hw _ (getE2 hk)⟩
theorem marksW_w (i a n : Nat) (hi : i ≤ 1000) (ha : a + n ≤ 100000000) : ∀ x ∈ marks kW i a n, x.size ≤ maxLen := by
  intro x hx
  obtain ⟨k, hk, rfl⟩ := List.mem_map.1 hx
  have := List.mem_range.1 hk
  show (nameS i (a + k)).size ≤ maxLen
  rw [nameS_size]; unfold maxLen; omega
theorem sameW_yes {n c d : Nat} {A B : Option Addr} {l : List (ByteArray)} (w : World) (h1 : Rd kW w ⟨A, n, c⟩ l) (h2 : Rd kW w ⟨B, n, d⟩ l) (hw : ∀ x ∈ l, x.size ≤ maxLen) (hn : n ≤ 1000000) :
    Calls Tryz.prog 16 #[.slice A n c, .slice B n d] w fun e w' => e = .returned (.bool true) ∧ Below w.heap.size w w' := by
  have hm : n ≤ maxLen := by unfold maxLen; omega
  refine (sameTx_is (c := c) (d := d) w (readW h1 hm hw) (readW h2 hm hw)).mono ?_
  rintro e w' ⟨rfl, q, rfl⟩
  exact ⟨by rw [decide_eq_true rfl], ⟨rfl, rfl, rfl, Nat.le_refl _, fun _ _ => rfl⟩⟩
set_option maxHeartbeats 4000000 in
theorem putW (C b : Nat) (cs : Array Value) (v : Value) (es : List E) (F : Nat → List (ByteArray)) (w : World) (hb : w.heap[b]? = some (.cells cs 46 (0, 0))) (hcs : cs[2]? = some v) (g2 : w.ownsRow C kW.tL 1 v es.length (es.map E.val)) (h2 : Conts kW C w es F) (h4 : Far es) (hk : es.length ≤ 200) (hsz : ∀ i, i < es.length → (es.getD i e0).n ≤ 1000000) :
    Calls Tryz.prog 49 #[ptr b] w fun e w' => e = .returned (.tuple #[]) ∧ Marking kW C es F w es.length 0 w' := by
  have HS := Lib.hid hsz
  have H2 := Lib.hid h2
  have H4 := Lib.hid h4
  have H0 : Hid (Marking kW C es F w 0 0 w) := ⟨by rw [half_zero]; exact h2, KeptE.refl _ _⟩
  obtain ⟨k, hk2⟩ : ∃ k, es.length = k := ⟨_, rfl⟩
  have HK := Lib.hid hk2
  have c0 : w.cell? ⟨b, 2, none⟩ = some v := (cell_of_row w b 2 _ _ _ hb).trans hcs
  have hnb := h2.type hb (by decide)
  obtain ⟨Av, cv, rfl⟩ := own_shape g2
  rw [hk2] at hk g2 c0
  have C0 := Lib.hid c0
  have HNB := Lib.hid hnb
  have G2 := Lib.hid g2
  have hN : (k : Int) ≤ 200 := by omega
  clear h2 h4 hsz hk2 hb hcs g2 c0 hnb
  go_enter Tryz.func49, Tryz.ntmps49
  go_wp2_with fail
  go_loopw [2] (fun x wr => ∃ i : Nat, i ≤ k ∧ x = .int .i64 i ∧ Marking kW C es F w i 0 wr) (fun x _ => k - (intOf x).toNat)
  case atStart => exact ⟨0, Nat.zero_le _, rfl, H0.out⟩
  case round =>
    obtain ⟨i, hi, rfl, hq⟩ := hrel
    have HQ := Lib.hid hq
    clear hq
    have c0 := HQ.out.2.cell C0.out HNB.out
    have b0 : (0 : Int) ≤ (i : Int) := by omega
    by_cases hlt : i < k
    · have b1 : (i : Int) < (k : Int) := by omega
      obtain ⟨gv, rfl, hgv, cew, cur, hcur⟩ := owns_entry G2.out hlt
      have hil : i < es.length := by rw [HK.out]; exact hlt
      have hFl : (F i).length = (es.getD i e0).n := (H2.out i hil).1.symm
      have hz := HS.out i hil
      have hng := H2.out.type hcur (by decide)
      obtain ⟨e, hee⟩ : ∃ e, es.getD i e0 = e := ⟨_, rfl⟩
      have HEE := Lib.hid hee
      rw [hee] at cew hFl hz
      have CEW := Lib.hid cew
      have HNG := Lib.hid hng
      obtain ⟨eA, eN, eC⟩ := e
      simp only at cew hFl hz
      have ce := HQ.out.2.cell cew HNG.out
      have HFL := Lib.hid hFl
      have HIL := Lib.hid hil
      have HM := Lib.hid (marksW i eN wr (by omega) hz 0 (by omega))
      have hzz : (eN : Int) ≤ 1000000 := by omega
      clear hee hFl hil cew hcur hng
      go_wp2_with fail
      refine HM.out.mono ?_; rintro e w2 ⟨Am, cm, rfl, hm, hb2⟩
      have HMR : Hid (Row kW 0 w2 ⟨Am, eN, cm⟩ (marks kW i 0 eN)) := ⟨(marks_length _ _ _).symm, own_base hm (Nat.zero_le _)⟩
      have HMF : Hid (∀ g, (Value.slice Am eN cm).ownBlock = some g → ∀ e ∈ es, e.own ≠ some g) := fun g hg e he ho => by
        have h1 := (hm.lt g hg).1
        have h2 := (HQ.out.1.lt e he g ho).2
        omega
      have HQ2 := Lib.hid (HQ.out.below hb2)
      clear hm hb2 HQ c0 ce HM
      have c0 := HQ2.out.2.cell C0.out HNB.out
      have ce := HQ2.out.2.cell CEW.out HNG.out
      go_wp2_with fail
      go_loopw [4] (fun x wr => ∃ t : Nat, t ≤ eN ∧ x = .int .i64 t ∧ Hid (Marking kW C es F w i t wr ∧ Row kW 0 wr ⟨Am, eN, cm⟩ (marks kW i 0 eN))) (fun x _ => eN - (intOf x).toNat)
      case atStart => exact ⟨0, Nat.zero_le _, rfl, HQ2.out, HMR.out⟩
      case round =>
        clear HQ2 HMR c0 ce
        obtain ⟨t, ht, rfl, hq⟩ := hrel
        have HQ := Lib.hid hq.out
        clear hq
        have c0 := HQ.out.1.2.cell C0.out HNB.out
        have ce := HQ.out.1.2.cell CEW.out HNG.out
        have t0 : (0 : Int) ≤ (t : Int) := by omega
        by_cases htl : t < eN
        · have t1 : (t : Int) < (eN : Int) := by omega
          obtain ⟨gm, hgm0, _, cm0⟩ := HQ.out.2.at (i := t) htl
          simp only at hgm0
          subst hgm0
          rw [marks_getD _ _ _ _ htl, Nat.zero_add] at cm0
          have m0 : wr.cell? ⟨gm, t, none⟩ = some (.string (kW.mark i t)) := by have := cm0 0 _ rfl; simpa [kW] using this
          have re := HQ.out.1.1 i HIL.out
          rw [HEE.out] at re
          obtain ⟨ge, hge0, _, cx⟩ := re.at (i := t) htl
          simp only at hge0
          subst hge0
          obtain ⟨p0v, p0⟩ : ∃ v, wr.cell? ⟨ge, t, none⟩ = some v := ⟨_, by have := cx 0 _ rfl; simpa [kW] using this⟩
          have hfz : ∀ o, wr.frozen? ⟨ge, o, none⟩ = false := fun o => by
            obtain ⟨cur, hc⟩ := re.block (g := ge) rfl
            exact Lib.frozen_of_heap hc o
          have f0 := hfz (t)
          have hgm : ge ≠ gm := fun h => HMF.out gm rfl _ (getE_mem HIL.out) (by rw [HEE.out, ← h]; rfl)
          have HX := Lib.hid (HQ.out.1.set H4.out HIL.out (by rw [HFL.out]; exact htl) (g := ge) (by rw [HEE.out]; rfl))
          have HMM := Lib.hid (set_other (g := ge) (o := t * kW.sz) (vs := kW.enc (kW.mark i t)) HQ.out.2 (fun e => hgm (by simpa [E.own, E.val, Value.ownBlock] using e.symm)))
          rw [setW] at HX HMM
          generalize kW.mark i t = y at *
          clear re hfz hgm cm0 cx
          go_wp2_with fail
          go_region
          all_goals go_wp2_with fail
          all_goals go_roundw
          case rel => exact ⟨t + 1, by omega, by go_num, HX.out.drewN 1, HMM.out⟩
          case measure => simp [intOf]; omega
        · obtain rfl : t = eN := by omega
          have HX : Hid (Marking kW C es F w (i + 1) 0 wr) := by
            have h := HQ.out.1
            refine ⟨?_, h.2⟩
            rw [← half_next, HFL.out]
            exact h.1
          go_wp2_with fail
          go_roundw
          case rel => exact ⟨i + 1, by omega, by go_num, HX.out⟩
          case measure => simp [intOf]; omega
    · obtain rfl : i = k := by omega
      go_wp2_with fail
      go_end0
      exact ⟨rfl, by rw [HK.out]; exact HQ.out⟩
set_option maxHeartbeats 4000000 in
theorem growW (C b : Nat) (cs : Array Value) (v : Value) (es : List E) (w : World) (hb : w.heap[b]? = some (.cells cs 46 (0, 0))) (hcs : cs[2]? = some v) (hC : C ≤ w.heap.size) (g2 : w.ownsRow C kW.tL 1 v es.length (es.map E.val)) (h2 : Conts kW C w es (fun j => marks kW j 0 (es.getD j e0).n)) (h4 : Far es) (hk : es.length ≤ 200) (hsz : ∀ i, i < es.length → (es.getD i e0).n ≤ 100000) :
    Calls Tryz.prog 57 #[ptr b] w fun e w' => GrownAll kW C es w e w' := by
  obtain ⟨i0, hi0, hz0, hz1, hz2⟩ := info_parts infoW
  obtain ⟨j0, hj0, yz0, yz1, yz2⟩ := info_parts infoLW
  have HS := Lib.hid hsz
  have HCC := Lib.hid hC
  have H2 := Lib.hid h2
  have H4 := Lib.hid h4
  have HES : Hid (∀ e ∈ es, ∀ g, e.own = some g → g < w.heap.size) := fun e he g hg => (h2.lt e he g hg).2
  have H0 : Hid (Grown kW C es w 0 (.slice none 0 0) [] w) := ⟨rfl, World.ownsRow_nil _ _ _ _, fun j hj => by omega, fun j hj => by omega, fun j _ hj => h2 j hj, KeptE.refl _ _⟩
  obtain ⟨k, hk2⟩ : ∃ k, es.length = k := ⟨_, rfl⟩
  have HK := Lib.hid hk2
  have c0 : w.cell? ⟨b, 2, none⟩ = some v := (cell_of_row w b 2 _ _ _ hb).trans hcs
  have hnb := h2.type hb (by decide)
  obtain ⟨Av, cv, rfl⟩ := own_shape g2
  rw [hk2] at hk g2 c0
  have C0 := Lib.hid c0
  have HNB := Lib.hid hnb
  have G2 := Lib.hid g2
  have hN : (k : Int) ≤ 200 := by omega
  clear h2 h4 hsz hk2 hb hcs g2 c0 hnb hC
  go_enter Tryz.func57, Tryz.ntmps57
  go_wp2_with fail
  go_loopw [3, 4] (fun o x wr => ∃ i : Nat, i ≤ k ∧ x = .int .i64 i ∧ ∃ A c gs, o = .slice A i c ∧ Grown kW C es w i (.slice A i c) gs wr) (fun _ x _ => k - (intOf x).toNat)
  case atStart => exact ⟨0, Nat.zero_le _, rfl, _, _, _, rfl, H0.out⟩
  case round =>
    obtain ⟨i, hi, rfl, Ao, co, gs, rfl, hq⟩ := hrel
    have HQ := Lib.hid hq
    clear hq
    have c0 := HQ.out.kept.cell C0.out HNB.out
    have b0 : (0 : Int) ≤ (i : Int) := by omega
    by_cases hlt : i < k
    · have b1 : (i : Int) < (k : Int) := by omega
      obtain ⟨gv, rfl, hgv, cew, cur, hcur⟩ := owns_entry G2.out hlt
      have hil : i < es.length := by rw [HK.out]; exact hlt
      have hz := HS.out i hil
      have hng := H2.out.type hcur (by decide)
      have HST := Lib.hid (Growth.start (HQ.out.rest i (Nat.le_refl _) hil))
      have HLT := Lib.hid (fun g (hg : (es.getD i e0).own = some g) => Nat.lt_of_lt_of_le (HES.out _ (getE_mem hil) g hg) HQ.out.kept.2.2.2.1)
      have HCR := Lib.hid (Nat.le_trans HCC.out HQ.out.kept.2.2.2.1)
      have HOUT := Lib.hid HQ.out.out
      have HOF : Hid (∀ {w2 : World}, wr.grownBy w2 (es.getD i e0).own → w2.ownsRow w.heap.size 24 1 (.slice Ao i co) i (gs.map E.val)) := fun hg => owns_kept HOUT.out fun g hgo => hg.block g (HOUT.out.lt g hgo).2 fun he => by
        obtain ⟨cur, hc⟩ := owns_block HOUT.out hgo
        obtain ⟨cur', hc'⟩ := (HQ.out.rest i (Nat.le_refl _) hil).block he.symm
        rw [hc] at hc'
        simp at hc'
        exact kW.ne hc'.2.symm
      have HNX : Hid (∀ {out' : Value} {w2 w3 : World} {A : Option Addr} {c : Nat} {ob : Obj}, Growth kW C wr (es.getD i e0) i 72 (.slice A ((es.getD i e0).n + 72) c) w2 → w3.ownsRow w.heap.size 24 1 out' (i + 1) (gs.map E.val ++ [.slice A ((es.getD i e0).n + 72) c]) → (w2.alloc ob).grownBy w3 (Value.slice Ao i co).ownBlock → Grown kW C es w (i + 1) out' (gs ++ [⟨A, (es.getD i e0).n + 72, c⟩]) w3) :=
        fun a b c => grown_next HQ.out H4.out hil HES.out a b c
      obtain ⟨e, hee⟩ : ∃ e, es.getD i e0 = e := ⟨_, rfl⟩
      rw [hee] at cew hz HST HLT HNX HOF
      have ce := HQ.out.kept.cell cew hng
      have hFr : Hid (∀ {w2 : World}, wr.grownBy w2 e.own → w2.cell? ⟨b, 2, none⟩ = some (.slice (some ⟨gv, 0, none⟩) k cv)) := fun hg => (World.cell?_of_block (w := wr) (hg.block b (World.block_lt_of_cell? wr _ c0) (fun hh => HNB.out e (by rw [← hee]; exact getE_mem hil) hh.symm))).trans c0
      obtain ⟨eA, eN, eC⟩ := e
      simp only at cew hz ce
      have HE0 : Hid (Growth kW C wr ⟨eA, eN, eC⟩ i 0 (.slice eA eN eC) wr) := HST.out
      have hzz : (eN : Int) ≤ 100000 := by omega
      clear hee hil cew hcur hng HST
      go_wp2_with fail
      go_loopw [5, 6] (fun l x w2 => ∃ t : Nat, t ≤ 12 ∧ x = .int .i64 t ∧ ∃ A c, l = .slice A (eN + t) c ∧ Growth kW C wr ⟨eA, eN, eC⟩ i t (.slice A (eN + t) c) w2) (fun _ x _ => 12 - (intOf x).toNat)
      case atStart => exact ⟨0, by omega, rfl, eA, eC, rfl, HE0.out⟩
      case round =>
        obtain ⟨t, ht, rfl, Al, cl, rfl, hq⟩ := hrel
        have HG := Lib.hid hq
        clear hq
        have t0 : (0 : Int) ≤ (t : Int) := by omega
        have t1 : (t : Int) ≤ 12 := by omega
        by_cases htl : t < 12
        · have t2 : (t : Int) < 12 := by omega
          have hc := hFr.out HG.out.frame
          have HM := Lib.hid (marksW i 1 wr (by omega) (by omega) (eN + t) (by omega))
          have e3 : ((eN + t : Nat) : Int) = (eN : Int) + (t : Int) := by omega
          rw [e3] at HM
          clear e3
          go_wp2_with fail
          refine HM.out.mono ?_; rintro e w3 ⟨Am, cm, rfl, hm, hb2⟩
          have HG3 := Lib.hid (HG.out.below hb2)
          obtain ⟨gm, rfl, hsrc⟩ := row_src hm (by omega)
          have HSR := Lib.hid hsrc
          have HC3 := Lib.hid (Nat.le_trans HCR.out HG3.out.frame.size)
          clear hm hb2 hsrc
          go_wp2_with (at_builtin; refine wpList_append_parts _ rfl _ _ 24 rfl 9 i0 (.string ⟨#[]⟩) 1 16 Tryz.underlying24 hi0 hz0 hz1 hz2 rfl (by decide) C _ _ _ rfl HG3.out.own ⟨gm, 0, none⟩ 1 cm (kW.cs (marks kW i (eN + t) 1)) rfl (by rw [kW.cs_length, marks_length]; rfl) HSR.out (kW.cs_one _) (by omega) (by unfold maxLen; simp only; omega) (by simp only; omega) HC3.out ?_; intro v' w4 hown hp; obtain ⟨A4, c4, rfl⟩ := own_shape hown)
          have HN := Lib.hid (HG3.out.step HLT.out hown hp)
          clear hown hp
          go_roundw
          case rel => exact ⟨t + 1, by omega, by go_num, A4, c4, rfl, HN.out⟩
          case measure => simp [intOf]; omega
        · obtain rfl : t = 12 := by omega
          have HM := Lib.hid (marksW i 60 wr (by omega) (by omega) (eN + 12) (by omega))
          have e3 : ((eN + 12 : Nat) : Int) = (eN : Int) + 12 := by omega
          rw [e3] at HM
          clear e3
          have hil2 : (i : Int) ≤ 200 := by omega
          go_wp2_with fail
          refine HM.out.mono ?_; rintro e w3 ⟨Am, cm, rfl, hm, hb2⟩
          have HG3 := Lib.hid (HG.out.below hb2)
          obtain ⟨gm, rfl, hsrc⟩ := row_src hm (by omega)
          have HSR := Lib.hid hsrc
          have HC3 := Lib.hid (Nat.le_trans HCR.out HG3.out.frame.size)
          clear hm hb2 hsrc
          go_wp2_with (first
            | (at_builtin; refine wpList_append_parts _ rfl (.tmp 34) (.tmp 38) 24 rfl 9 i0 (.string ⟨#[]⟩) 1 16 Tryz.underlying24 hi0 hz0 hz1 hz2 rfl (by decide) C (.slice Al (eN + 12) cl) (eN + 12) _ rfl HG3.out.own ⟨gm, 0, none⟩ 60 cm (kW.cs (marks kW i (eN + 12) 60)) rfl (by rw [kW.cs_length, marks_length]; rfl) HSR.out (kW.cs_one _) (by omega) (by unfold maxLen; omega) (by omega) HC3.out ?_; intro v' w4 hown hp; obtain ⟨A4, c4, rfl⟩ := own_shape hown; have HN := Lib.hid (HG3.out.step HLT.out hown hp); have hout := HOF.out HN.out.frame)
            | (at_builtin; refine wpList_append_own _ rfl (.tmp 33) (.tmp 40) 37 rfl w.heap.size 24 j0 (.slice none 0 0) 1 24 Tryz.underlying37 hj0 yz0 yz1 yz2 rfl (by decide) (.slice Ao i co) i _ rfl (hout.alloc _) ⟨w4.heap.size, 0, none⟩ 1 1 [.slice A4 (eN + 12 + 60) c4] rfl rfl (cell_one_new _ _ _) (by intro x hx; simp at hx; subst hx; rfl) (by unfold maxLen; omega) (by omega) (by have := HQ.out.kept.2.2.2.1; have := HN.out.frame.size; simp; omega) ?_; intro v5 w5 hown5 hgrow5 _; obtain ⟨A5, c5, rfl⟩ := own_shape hown5))
          have HX := Lib.hid (HNX.out HN.out hown5 hgrow5)
          clear hout hown5 hgrow5 hown hp
          go_wp2_with fail
          go_roundw
          case rel => exact ⟨i + 1, by omega, by go_num, A5, c5, _, rfl, HX.out⟩
          case measure => simp [intOf]; omega
    · obtain rfl : i = k := by omega
      go_wp2_with fail
      go_ret
      refine ⟨Ao, co, gs, by rw [HK.out]; rfl, ?_⟩
      rw [HK.out]
      exact HQ.out
set_option maxHeartbeats 4000000 in
theorem markedW (C : Nat) (A : Option Addr) (k c : Nat) (es : List E) (w : World) (hk : es.length = k) (hn : k ≤ 200) (h1 : w.ownsRow C kW.tL 1 (.slice A k c) k (es.map E.val)) (h2 : ∀ j, j < k → Rd kW w (es.getD j e0) (marks kW j 0 (es.getD j e0).n)) (hsz : ∀ j, j < k → (es.getD j e0).n ≤ 1000000) :
    Calls Tryz.prog 66 #[.slice A k c] w fun e w' => e = .returned (.bool true) ∧ Below w.heap.size w w' := by
  have H1 := Lib.hid h1
  have H2 := Lib.hid h2
  have HS := Lib.hid hsz
  have hN : (k : Int) ≤ 200 := by omega
  clear h1 h2 hsz hk
  go_enter Tryz.func66, Tryz.ntmps66
  go_wp2_with fail
  go_loopw [3] (fun x wr => ∃ i : Nat, i ≤ k ∧ x = .int .i64 i ∧ Hid (Below w.heap.size w wr)) (fun x _ => k - (intOf x).toNat)
  case atStart => exact ⟨0, Nat.zero_le _, rfl, Below.refl _ _⟩
  case round =>
    obtain ⟨i, hi, rfl, hq⟩ := hrel
    have HQ := Lib.hid hq.out
    clear hq
    have b0 : (0 : Int) ≤ (i : Int) := by omega
    by_cases hlt : i < k
    · have b1 : (i : Int) < (k : Int) := by omega
      obtain ⟨g, rfl, hg, ce0, _, _⟩ := owns_entry H1.out hlt
      have ce := (HQ.out.cell (p := ⟨g, i, none⟩) hg).trans ce0
      have hr := (H2.out i hlt).below HQ.out
      have hz := HS.out i hlt
      generalize es.getD i e0 = e at *
      obtain ⟨eA, eN, eC⟩ := e
      simp only at ce hr hz
      have HR := Lib.hid hr
      have hzz : (eN : Int) ≤ 1000000 := by omega
      have HM := Lib.hid (marksW i eN wr.drew (by omega) hz 0 (by omega))
      have HSW := Lib.hid (marksW_w i 0 eN (by omega) (by omega))
      have hgl := Nat.lt_of_lt_of_le hg HQ.out.size
      have HGL := Lib.hid hgl
      have HHZ := Lib.hid hz
      clear hr ce0 hg hgl hz
      go_wp2_with fail
      go_region_law (first
        | (go_simp; go_at_call 96; refine HM.out.mono ?_; rintro e w2 ⟨Am, cm, rfl, hm, hb2⟩; have ce2 : w2.cell? ⟨g, i, none⟩ = some (.slice eA eN eC) := (hb2.cell (p := ⟨g, i, none⟩) HGL.out).trans ce; have HRM : Hid (Row kW 0 w2 ⟨Am, eN, cm⟩ (marks kW i 0 eN)) := ⟨(marks_length _ _ _).symm, own_base hm (Nat.zero_le _)⟩; have HR2 := Lib.hid (HR.out.below (w' := w2) ⟨hb2.os, hb2.tape, hb2.output, hb2.size, hb2.block⟩); have HB2 : Hid (Below wr.heap.size wr w2) := ⟨hb2.os, hb2.tape, hb2.output, hb2.size, hb2.block⟩; clear hm hb2)
        | (go_simp; go_at_call 16; refine (sameW_yes w2 HR2.out HRM.out.rd HSW.out HHZ.out).mono ?_; rintro e w3 ⟨rfl, hb3⟩; have HB3 := Lib.hid hb3; clear hb3))
      all_goals go_wp2_with fail
      all_goals
        go_roundw
        case rel => exact ⟨i + 1, by omega, by go_num, (HQ.out.trans (HB2.out.mono HQ.out.size)).trans (HB3.out.mono (Nat.le_trans HQ.out.size HB2.out.size))⟩
        case measure => simp [intOf]; omega
    · obtain rfl : i = k := by omega
      go_wp2_with fail
      go_ret
      exact ⟨rfl, HQ.out⟩
set_option maxHeartbeats 4000000 in
theorem stillW (C b : Nat) (cs : Array Value) (v u : Value) (es fs : List E) (ls : List (List (ByteArray))) (w : World) (hb : w.heap[b]? = some (.cells cs 46 (0, 0))) (h0 : cs[2]? = some v) (h1 : cs[3]? = some u) (h : Part kW C w v u es fs ls ls) (hn : es.length ≤ 200) (hsz : ∀ i, i < es.length → (es.getD i e0).n ≤ 1000000) (hw : ∀ i, i < es.length → ∀ x ∈ ls.getD i [], x.size ≤ maxLen) (hfl : fs.length = es.length) :
    Calls Tryz.prog 39 #[ptr b] w fun e w' => e = .returned (.bool true) ∧ Below w.heap.size w w' := by
  have HS := Lib.hid hsz
  have HW := Lib.hid hw
  have c0 : w.cell? ⟨b, 2, none⟩ = some v := (cell_of_row w b 2 _ _ _ hb).trans h0
  have c1 : w.cell? ⟨b, 3, none⟩ = some u := (cell_of_row w b 3 _ _ _ hb).trans h1
  have hbl := (Array.getElem?_eq_some_iff.1 hb).1
  obtain ⟨h2, h3, h4, h5, h6, h7, h8, h9⟩ := h
  obtain ⟨Av, cv, rfl⟩ := own_shape h2
  obtain ⟨Au, cu, rfl⟩ := own_shape h3
  rw [hfl] at h3 c1
  obtain ⟨k, hk⟩ : ∃ k, es.length = k := ⟨_, rfl⟩
  rw [hk] at h2 h3 hfl hn c0 c1
  have HK := Lib.hid hk
  have HFL := Lib.hid hfl
  have H2 := Lib.hid h2
  have H3 := Lib.hid h3
  have H7 := Lib.hid h7
  have H8 := Lib.hid h8
  have HCB := Lib.hid (fun (wr : World) (h : Below w.heap.size w wr) => show wr.cell? ⟨b, 2, none⟩ = some (.slice Av k cv) ∧ wr.cell? ⟨b, 3, none⟩ = some (.slice Au k cu) from ⟨(h.cell (p := ⟨b, 2, none⟩) hbl).trans c0, (h.cell (p := ⟨b, 3, none⟩) hbl).trans c1⟩)
  have hN : (k : Int) ≤ 200 := by omega
  clear h0 h1 h2 h3 h4 h5 h6 h7 h8 h9 hfl hsz hk hw hb c0 c1 hbl
  go_enter Tryz.func39, Tryz.ntmps39
  go_wp2_with fail
  go_loopw [3] (fun x wr => ∃ i : Nat, i ≤ k ∧ x = .int .i64 i ∧ Hid (Below w.heap.size w wr)) (fun x _ => k - (intOf x).toNat)
  case atStart => exact ⟨0, Nat.zero_le _, rfl, Below.refl _ _⟩
  case round =>
    obtain ⟨i, hi, rfl, hq⟩ := hrel
    have HQ := Lib.hid hq.out
    clear hq
    obtain ⟨c0, c1⟩ := HCB.out wr HQ.out
    have b0 : (0 : Int) ≤ (i : Int) := by omega
    by_cases hlt : i < k
    · have b1 : (i : Int) < (k : Int) := by omega
      obtain ⟨g, rfl, hg, ce0, _, _⟩ := owns_entry H2.out hlt
      obtain ⟨g2, rfl, hg2, cf0, _, _⟩ := owns_entry H3.out hlt
      have ce := (HQ.out.cell (p := ⟨g, i, none⟩) hg).trans ce0
      have cf := (HQ.out.cell (p := ⟨g2, i, none⟩) hg2).trans cf0
      have re := H7.out i (by rw [HK.out]; exact hlt)
      have rf := H8.out i (by rw [HFL.out]; exact hlt)
      have hz := HS.out i (by rw [HK.out]; exact hlt)
      have hw1 := HW.out i (by rw [HK.out]; exact hlt)
      simp only at re rf
      generalize es.getD i e0 = e at *
      generalize fs.getD i e0 = f at *
      generalize ls.getD i [] = l at *
      obtain ⟨eA, eN, eC⟩ := e
      obtain ⟨fA, fN, fC⟩ := f
      simp only at ce cf hz
      obtain rfl : eN = fN := re.1.trans rf.1.symm
      have HC := Lib.hid (fun (u : World) (hb : Below w.heap.size w u) => sameW_yes (c := eC) (d := fC) u (re.rd.below hb) (rf.rd.below hb) hw1 hz)
      have HC1 := Lib.hid (HC.out wr HQ.out)
      have HC2 := Lib.hid (HC.out wr.drew ⟨HQ.out.os, HQ.out.tape, HQ.out.output, HQ.out.size, HQ.out.block⟩)
      clear re rf hz ce0 cf0 hg hg2 HC hw1
      go_wp2_with fail
      go_region_law ((go_simp; go_at_call 16; refine HC2.out.mono ?_; rintro e w3 ⟨rfl, hb3⟩; have HB3 := Lib.hid hb3; clear hb3))
      all_goals go_wp2_with fail
      all_goals
        go_roundw
        case rel => exact ⟨i + 1, by omega, by go_num, HQ.out.trans ((show Below wr.heap.size wr w3 from ⟨HB3.out.os, HB3.out.tape, HB3.out.output, HB3.out.size, HB3.out.block⟩).mono HQ.out.size)⟩
        case measure => simp [intOf]; omega
    · obtain rfl : i = k := by omega
      go_wp2_with fail
      go_ret
      exact ⟨rfl, HQ.out⟩
set_option maxHeartbeats 8000000 in
theorem addW (C b : Nat) (cs : Array Value) (v u : Value) (es fs : List E) (ls ms : List (List (ByteArray))) (A : Option Addr) (n c : Nat) (l : List (ByteArray)) (w : World) (hb : w.heap[b]? = some (.cells cs 46 (0, 0))) (h0 : cs[2]? = some v) (h1 : cs[3]? = some u) (hCb : C ≤ b) (hC : C ≤ w.heap.size) (h : Part kW C w v u es fs ls ms) (hr : Row kW C w ⟨A, n, c⟩ l) (hn : n ≤ 1000000) (hk : es.length ≤ 200) (hkf : fs.length ≤ 200)
    (hfar : ∀ x ∈ es ++ fs, FarR x ⟨A, n, c⟩) :
    Calls Tryz.prog 13 #[ptr b, .slice A n c] w fun e w' => e = .returned (.tuple #[]) ∧ Added kW 46 2 C b cs es fs ls ms ⟨A, n, c⟩ l (fun _ m => m = l) w w' := by
  obtain ⟨i0, hi, hz0, hz1, hz2⟩ := info_parts infoLW
  have HF := Lib.hid hfar
  have HP := Lib.hid h
  have HR := Lib.hid hr
  have HCb := Lib.hid hCb
  have HC := Lib.hid hC
  have HBB := Lib.hid hb
  have HCS := Lib.hid h1
  obtain ⟨h2, h3, h4, h5, h6, h7, h8, h9⟩ := h
  have c0 : w.cell? ⟨b, 2, none⟩ = some v := (cell_of_row w b 2 _ _ _ hb).trans h0
  have f0 : w.frozen? ⟨b, 2, none⟩ = false := Lib.frozen_of_heap hb 2
  have hbl := (Array.getElem?_eq_some_iff.1 hb).1
  obtain ⟨Av, cv, hv⟩ := own_shape h2
  obtain ⟨Au, cu, hu⟩ := own_shape h3
  obtain ⟨k, hk2⟩ : ∃ k, es.length = k := ⟨_, rfl⟩
  obtain ⟨kf, hkf2⟩ : ∃ kf, fs.length = kf := ⟨_, rfl⟩
  rw [hk2] at h2 hv hk
  rw [hkf2] at h3 hkf hu
  have HK := Lib.hid hk2
  have HKF := Lib.hid hkf2
  subst hv hu
  have hkN : (k : Int) < 250 := by omega
  have H3 := Lib.hid h3
  have H4 := Lib.hid h4
  have HNN : Hid ((2 : Nat) ≠ 3) := by unfold Hid; decide
  clear h0 h1 h3 h4 h5 h6 h7 h8 h9 hk2 hkf2 hr hCb hC hfar hb
  go_enter Tryz.func13, Tryz.ntmps13
  go_wp2_with (at_builtin; refine wpList_append_src _ rfl (.tmp 14) (.tmp 16) 37 rfl 24 i0 (.slice none 0 0) 1 24 Tryz.underlying37 hi hz0 hz1 hz2 rfl (by decide) C _ _ _ rfl (h2.alloc _) _ 1 1 [.slice A n c] rfl ⟨rfl, fun _ => ⟨_, rfl, cell_one_new _ _ _⟩⟩ (by intro x hx; simp at hx; subst hx; rfl) (by unfold maxLen; omega) (by omega) (by have := HC.out; simp; omega) ?_; intro v' w1 hown hgrow hat; obtain ⟨A', c', rfl⟩ := own_shape hown; rw [World.size_alloc] at hat; have KK := Lib.hid (grown_entry (C := C) (o := 2) (x := .slice A n c) (by decide) HBB.out HCb.out HC.out h2 hown _ hgrow hat); have d0 : w1.cell? ⟨b, 2, none⟩ = some (.slice Av k cv) := (cell_of_row w1 b 2 _ _ _ KK.out.2.2.2.1).trans ((cell_of_row w b 2 _ _ _ HBB.out).symm.trans c0); have d1 : w1.frozen? ⟨b, 2, none⟩ = false := Lib.frozen_of_heap KK.out.2.2.2.1 2)
  obtain ⟨k1, k2, k3, k5, k6⟩ := KK.out
  have hu3 := H3.out
  have K1 := Lib.hid k1
  have K2 := Lib.hid k2
  have K3 := Lib.hid k3
  have HU : Hid ((w1.setCell ⟨b, 2, none⟩ (.slice A' (k + 1) c')).ownsRow C 24 1 (.slice Au kf cu) kf (fs.map E.val)) := owns_kept hu3 fun g hg => by
    obtain ⟨cur, hc⟩ := owns_block hu3 hg
    exact k6 g cur hc (fun e => H4.out g e hg)
  have HUV : Hid (∀ g, (Value.slice A' (k + 1) c').ownBlock = some g → (Value.slice Au kf cu).ownBlock ≠ some g) := fun g hg hu => by
    rcases hat with e | e
    · exact H4.out g (e ▸ hg) hu
    · rw [e] at hg
      have e1 : w.heap.size + 1 = g := by simpa using hg
      have := (hu3.lt g hu).2
      omega
  have HRW := Lib.hid (HR.out.kt k3 ⟨kW.ne, by decide⟩)
  clear k1 k2 k3 k5 k6 hown hgrow hat h2 hu3 KK c0 f0 d0 d1
  generalize hW : w1.setCell ⟨b, 2, none⟩ (.slice A' (k + 1) c') = W at *
  have H1' := Lib.hid K1.out
  have x1 : W.cell? ⟨b, 3, none⟩ = some (.slice Au kf cu) := (cell_of_row W b 3 _ _ _ K1.out).trans (by rw [Array.getElem?_setIfInBounds_ne (by decide)]; exact HCS.out)
  have xf1 : W.frozen? ⟨b, 3, none⟩ = false := Lib.frozen_of_heap K1.out 3
  have HCP := Lib.hid (copyW C ⟨A, n, c⟩ l W.drew HRW.out hn)
  clear hW
  go_region_law (first
    | (refine step_append_src _ (by rfl) (.tmp 24) (.tmp 27) 37 (by rfl) 24 i0 (.slice none 0 0) 1 24 Tryz.underlying37 hi hz0 hz1 hz2 rfl (by decide) C (.slice Au kf cu) kf (fs.map E.val) (by rfl) (hU2.alloc _) (some ⟨w2.heap.size, 0, none⟩) 1 1 [.slice A2 l.length c2] (by rfl) ⟨rfl, fun _ => ⟨_, rfl, cell_one_new _ _ _⟩⟩ (by intro x hx; simp at hx; subst hx; rfl) (by unfold maxLen; omega) (by omega) (by have := HC2.out; simp; omega) ?_; intro v3 w3 hown hgrow hat; obtain ⟨A3, c3, rfl⟩ := own_shape hown; rw [World.size_alloc] at hat; have KK := Lib.hid (grown_entry (C := C) (o := 3) (x := .slice A2 l.length c2) (by decide) hh2 HCb.out HC2.out hU2 hown _ hgrow hat); have d2 : w3.cell? ⟨b, 3, none⟩ = some (.slice Au kf cu) := (cell_of_row w3 b 3 _ _ _ KK.out.2.2.2.1).trans ((cell_of_row w2 b 3 _ _ _ hh2).symm.trans x2); have d3 : w3.frozen? ⟨b, 3, none⟩ = false := Lib.frozen_of_heap KK.out.2.2.2.1 3)
    | (go_simp; go_at_call 32; refine HCP.out.mono ?_; rintro e w2 ⟨A2, c2, rfl, hr2, hb2⟩; have hh2 : w2.heap[b]? = some (.cells (cs.setIfInBounds 2 (.slice A' (k + 1) c')) 46 (0, 0)) := (hb2.block b (Array.getElem?_eq_some_iff.1 H1'.out).1).trans H1'.out; have hU2 : w2.ownsRow C 24 1 (.slice Au kf cu) kf (fs.map E.val) := owns_kept HU.out (fun g hg => hb2.block g (HU.out.lt g hg).2); have HC2 := Lib.hid (show C ≤ w2.heap.size from Nat.le_trans (Nat.le_trans HC.out K3.out.1.size) hb2.size); have x2 : w2.cell? ⟨b, 3, none⟩ = some (.slice Au kf cu) := (hb2.cell (p := ⟨b, 3, none⟩) (World.block_lt_of_cell? W _ x1)).trans x1; have x3 : ∀ ob, (w2.alloc ob).cell? ⟨b, 3, none⟩ = some (.slice Au kf cu) := fun ob => Lib.cell?_alloc_some ob x2))
  all_goals go_end0
  all_goals (have HX := added_end (K := kW) (o := 2) (m := l) (M := (fun _ m => m = l)) (cs0 := cs) (by decide) (by decide) HCb.out HC.out HK.out HKF.out HP.out HR.out HF.out K2.out K3.out HUV.out HU.out (show Below W.heap.size W w2 from ⟨hb2.os, hb2.tape, hb2.output, hb2.size, hb2.block⟩) ⟨rfl, hr2⟩ (fun _ _ => rfl) KK.out.1 KK.out.2.1 KK.out.2.2.1 KK.out.2.2.2.2 hat)
  all_goals exact ⟨rfl, HX⟩
theorem putW_st (C b : Nat) (cs : Array Value) (v : Value) (es : List E) (F : Nat → List (ByteArray)) (w : World) (hb : w.heap[b]? = some (.cells cs 46 (0, 0))) (hcs : cs[2]? = some v) (hC : C ≤ w.heap.size) (h : St kW C w v es F) :
    Calls Tryz.prog 49 #[ptr b] w fun e w' => e = .returned (.tuple #[]) ∧ KT C (fun t => t ≠ kW.tE) w w' ∧ St kW C w' v es (markF kW es) :=
  (putW C b cs v es F w hb hcs h.vr h.ct h.far h.few (fun i hi => by have := h.short i hi; omega)).mono fun e w' ⟨he, hm⟩ => ⟨he, h.put hm hC⟩
theorem growW_st (C b : Nat) (cs : Array Value) (v : Value) (es : List E) (w : World) (hb : w.heap[b]? = some (.cells cs 46 (0, 0))) (hcs : cs[2]? = some v) (hC : C ≤ w.heap.size) (h : St kW C w v es (markF kW es)) :
    Calls Tryz.prog 57 #[ptr b] w fun e w' => ∃ A c gs, e = .returned (.slice A es.length c) ∧ KT C (fun t => t ≠ kW.tE) w w' ∧ Done kW C w' v es A c gs :=
  (growW C b cs v es w hb hcs hC h.vr h.ct h.far h.few (fun i hi => by have := h.short i hi; omega)).mono fun e w' hg => h.grow hg hC
theorem markedW_new (C : Nat) (v : Value) (es gs : List E) (A : Option Addr) (c : Nat) (w : World) (h : Done kW C w v es A c gs) :
    Calls Tryz.prog 66 #[.slice A es.length c] w fun e w' => e = .returned (.bool true) ∧ Below w.heap.size w w' :=
  markedW C A es.length c gs w h.len h.few h.out h.new h.news
theorem markedW_old (C : Nat) (v : Value) (es gs : List E) (A : Option Addr) (c : Nat) (w : World) (h : Done kW C w v es A c gs) :
    Calls Tryz.prog 66 #[v] w fun e w' => e = .returned (.bool true) ∧ Below w.heap.size w w' := by
  have hv := h.vr
  obtain ⟨Av, cv, rfl⟩ := own_shape hv
  exact markedW C Av es.length cv es w rfl h.few hv h.old h.olds
end Go.Proofs.YtbdpmfgphhgigaaGreat.Bk
