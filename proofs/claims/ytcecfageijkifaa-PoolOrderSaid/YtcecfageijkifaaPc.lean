/- The program's pool, and what it reads and writes: Flush; empty. -/
import Derived.Test.YtcecfageijkifaaPb
namespace Go.Proofs.Ytcecfageijkifaa.Po
open Go.ChangeShapes Go.WideShapes Go.ChangeAt Go.RowKit
set_option linter.unusedVariables false
set_option linter.unusedSimpArgs false
set_option maxRecDepth 100000
/-- What is asked of the three functions. -/
structure Host.Good {Ω : Type} (h : Host Ω) : Prop where
  er : ∀ args w, (callFunc h.gr args).run Try.prog w = .ok (.enter h.gr args) w
  ew : ∀ args w, (callFunc h.gw args).run Try.prog w = .ok (.enter h.gw args) w
  el : ∀ args w, (callFunc h.gl args).run Try.prog w = .ok (.enter h.gl args) w
  keep : ∀ {S S' : Nat → Prop} {w w' : World} {o : Ω}, h.M S w o → Tn S' w w' → (∀ i, S i → ¬ S' i) → h.M S w' o
  lt : ∀ {S : Nat → Prop} {w : World} {o : Ω}, h.M S w o → ∀ i, S i → i < w.heap.size
  down : ∀ {o : Ω} {n : Nat}, h.ok o (n + 1) → h.ok o n
  rok : ∀ {o : Ω} {n : Nat} {k : Int}, h.ok o (n + 1) → h.ok (h.rdF o k).2 n
  wok : ∀ {o : Ω} {n : Nat} {k : Int} {b : BA}, h.ok o (n + 1) → h.ok (h.wrF o k b).2 n
  lok : ∀ {o : Ω} {n : Nat} {k : Int}, h.ok o (n + 1) → h.ok (h.lgF o k).2 n
  rlen : ∀ {S : Nat → Prop} {w : World} {o : Ω} {k : Int}, h.M S w o → (h.rdF o k).1.1.length ≤ 1099511627776
  read : ∀ {S : Nat → Prop} {w : World} {o : Ω} {n : Nat} {k : Int}, h.M S w o → h.ok o (n + 1) → rng k →
    Calls Try.prog h.gr (h.rpre ++ #[.int .i64 k] ++ h.rcap) w fun e w' => e = .returned (.tuple #[.string (str (h.rdF o k).1.1), .int .i64 (h.rdF o k).1.2]) ∧ ∃ S', h.M S' w' (h.rdF o k).2 ∧ Tn S w w' ∧ ∀ i, S' i → S i ∨ w.heap.size ≤ i
  write : ∀ {S : Nat → Prop} {w : World} {o : Ω} {n : Nat} {k : Int} {b : BA}, h.M S w o → h.ok o (n + 1) → rng k → b.length ≤ 1099511627776 →
    Calls Try.prog h.gw (h.wpre ++ #[.int .i64 k, .string (str b)] ++ h.wcap) w fun e w' => e = .returned (.int .i64 (h.wrF o k b).1) ∧ ∃ S', h.M S' w' (h.wrF o k b).2 ∧ Tn S w w' ∧ ∀ i, S' i → S i ∨ w.heap.size ≤ i
  log : ∀ {S : Nat → Prop} {w : World} {o : Ω} {n : Nat} {k : Int}, h.M S w o → h.ok o (n + 1) → rng k →
    Calls Try.prog h.gl (h.lpre ++ #[.int .i64 k] ++ h.lcap) w fun e w' => e = .returned (.int .i64 (h.lgF o k).1) ∧ ∃ S', h.M S' w' (h.lgF o k).2 ∧ Tn S w w' ∧ ∀ i, S' i → S i ∨ w.heap.size ≤ i
/-- A pool and what it reads and writes, in blocks of S. -/
def Bt {Ω : Type} (h : Host Ω) (S SP : Nat → Prop) (p F T : Nat) (bk : Int → Option Nat) (tf : Int → Option (Nat × Nat)) (A : Pl) (o : Ω) (w : World) : Prop :=
  PM SP h.rv h.wv h.lv p F T bk tf A w ∧ (∃ SO, h.M SO w o ∧ (∀ i, SP i → ¬ SO i) ∧ ∀ i, SO i → S i) ∧ (∀ i, SP i → S i) ∧ ∀ i, S i → i < w.heap.size
section
variable {Ω : Type} {h : Host Ω} {S SP : Nat → Prop} {p F T : Nat} {bk : Int → Option Nat} {tf : Int → Option (Nat × Nat)} {A : Pl} {o : Ω} {w : World}
/-- The blocks after: the old ones and new ones. -/
def Nw (S S' : Nat → Prop) (w : World) : Prop := ∀ i, S' i → S i ∨ w.heap.size ≤ i
theorem Nw.refl (S : Nat → Prop) (w : World) : Nw S S w := fun i h => .inl h
theorem Nw.trans {S S' S'' : Nat → Prop} {w w' : World} (h : Nw S S' w) (k : Nw S' S'' w') (hs : w.heap.size ≤ w'.heap.size) : Nw S S'' w := fun i hi => by
  rcases k i hi with h1 | h1
  · exact h i h1
  · exact .inr (Nat.le_trans hs h1)
/-- From one world to another, within the blocks of S; then those of S'. -/
def Ch (S S' : Nat → Prop) (w w' : World) : Prop := Tn S w w' ∧ Nw S S' w
theorem Ch.refl (S : Nat → Prop) (w : World) : Ch S S w w := ⟨.refl S w, .refl S w⟩
theorem Ch.trans {S S' S'' : Nat → Prop} {a b c : World} (h : Ch S S' a b) (k : Ch S' S'' b c) : Ch S S'' a c := ⟨h.1.then k.1 h.2, h.2.trans k.2 h.1.size⟩
theorem Ch.drew (S : Nat → Prop) (w : World) : Ch S S w w.drew := ⟨.drew S w, .refl S w⟩
theorem Bt.keep (hg : h.Good) {S' : Nat → Prop} {w' : World} (hb : Bt h S SP p F T bk tf A o w) (t : Tn S' w w') (hs : ∀ i, S i → ¬ S' i) : Bt h S SP p F T bk tf A o w' := by
  obtain ⟨h1, ⟨SO, h2, h3, h4⟩, h5, h6⟩ := hb
  exact ⟨h1.keep t (fun i hi => hs i (h5 i hi)), ⟨SO, hg.keep h2 t (fun i hi => hs i (h4 i hi)), h3, h4⟩, h5, fun i hi => Nat.lt_of_lt_of_le (h6 i hi) t.size⟩
/-- The pool's own step. -/
theorem Bt.own (hg : h.Good) {SP' : Nat → Prop} {w' : World} {F' T' : Nat} {bk' : Int → Option Nat} {tf' : Int → Option (Nat × Nat)} {A' : Pl} (hb : Bt h S SP p F T bk tf A o w) (hp : PM SP' h.rv h.wv h.lv p F' T' bk' tf' A' w') (t : Tn SP w w') (hn : Nw SP SP' w) :
    ∃ S', Bt h S' SP' p F' T' bk' tf' A' o w' ∧ Ch S S' w w' := by
  obtain ⟨h1, ⟨SO, h2, h3, h4⟩, h5, h6⟩ := hb
  refine ⟨fun i => SP' i ∨ SO i, ⟨hp, ⟨SO, hg.keep h2 t (fun i hi h' => h3 i h' hi), fun i hi h' => ?_, fun i hi => .inr hi⟩, fun i hi => .inl hi, fun i hi => ?_⟩, ⟨t.mono h5, fun i hi => ?_⟩⟩
  · rcases hn i hi with h7 | h7
    · exact h3 i h7 h'
    · have := hg.lt h2 i h'; omega
  · rcases hi with hi | hi
    · exact hp.lt i hi
    · exact Nat.lt_of_lt_of_le (hg.lt h2 i hi) t.size
  · rcases hi with hi | hi
    · rcases hn i hi with h7 | h7
      · exact .inl (h5 i h7)
      · exact .inr h7
    · exact .inl (h4 i hi)
/-- A step of what it reads and writes. -/
theorem Bt.host (hg : h.Good) {w' : World} {o' : Ω} {SO SO' : Nat → Prop} (h1 : PM SP h.rv h.wv h.lv p F T bk tf A w) (h3 : ∀ i, SP i → ¬ SO i) (h4 : ∀ i, SO i → S i) (h5 : ∀ i, SP i → S i) (h6 : ∀ i, S i → i < w.heap.size)
    (k1 : h.M SO' w' o') (k2 : Tn SO w w') (k3 : ∀ i, SO' i → SO i ∨ w.heap.size ≤ i) : ∃ S', Bt h S' SP p F T bk tf A o' w' ∧ Ch S S' w w' := by
  refine ⟨fun i => SP i ∨ SO' i, ⟨h1.keep k2 h3, ⟨SO', k1, fun i hi h' => ?_, fun i hi => .inr hi⟩, fun i hi => .inl hi, fun i hi => ?_⟩, ⟨k2.mono h4, fun i hi => ?_⟩⟩
  · rcases k3 i h' with h7 | h7
    · exact h3 i hi h7
    · have := h1.lt i hi; omega
  · rcases hi with hi | hi
    · exact Nat.lt_of_lt_of_le (h1.lt i hi) k2.size
    · exact hg.lt k1 i hi
  · rcases hi with hi | hi
    · exact .inl (h5 i hi)
    · rcases k3 i hi with h7 | h7
      · exact .inl (h4 i h7)
      · exact .inr h7
theorem Bt.log (hg : h.Good) {n : Nat} (hb : Bt h S SP p F T bk tf A o w) (hok : h.ok o (n + 1)) {k : Int} (hk : rng k) :
    Calls Try.prog h.gl (h.lpre ++ #[.int .i64 k] ++ h.lcap) w fun e w' => e = .returned (.int .i64 (h.lgF o k).1) ∧ ∃ S', Bt h S' SP p F T bk tf A (h.lgF o k).2 w' ∧ Ch S S' w w' := by
  obtain ⟨h1, ⟨SO, h2, h3, h4⟩, h5, h6⟩ := hb
  refine (hg.log h2 hok hk).mono ?_
  rintro e w' ⟨he, S', k1, k2, k3⟩
  exact ⟨he, Bt.host hg h1 h3 h4 h5 h6 k1 k2 k3⟩
theorem Bt.write (hg : h.Good) {n : Nat} (hb : Bt h S SP p F T bk tf A o w) (hok : h.ok o (n + 1)) {k : Int} (hk : rng k) {b : BA} (hl : b.length ≤ 1099511627776) :
    Calls Try.prog h.gw (h.wpre ++ #[.int .i64 k, .string (str b)] ++ h.wcap) w fun e w' => e = .returned (.int .i64 (h.wrF o k b).1) ∧ ∃ S', Bt h S' SP p F T bk tf A (h.wrF o k b).2 w' ∧ Ch S S' w w' := by
  obtain ⟨h1, ⟨SO, h2, h3, h4⟩, h5, h6⟩ := hb
  refine (hg.write h2 hok hk hl).mono ?_
  rintro e w' ⟨he, S', k1, k2, k3⟩
  exact ⟨he, Bt.host hg h1 h3 h4 h5 h6 k1 k2 k3⟩
theorem Bt.read (hg : h.Good) {n : Nat} (hb : Bt h S SP p F T bk tf A o w) (hok : h.ok o (n + 1)) {k : Int} (hk : rng k) :
    Calls Try.prog h.gr (h.rpre ++ #[.int .i64 k] ++ h.rcap) w fun e w' => e = .returned (.tuple #[.string (str (h.rdF o k).1.1), .int .i64 (h.rdF o k).1.2]) ∧ ∃ S', Bt h S' SP p F T bk tf A (h.rdF o k).2 w' ∧ Ch S S' w w' := by
  obtain ⟨h1, ⟨SO, h2, h3, h4⟩, h5, h6⟩ := hb
  refine (hg.read h2 hok hk).mono ?_
  rintro e w' ⟨he, S', k1, k2, k3⟩
  exact ⟨he, Bt.host hg h1 h3 h4 h5 h6 k1 k2 k3⟩
/-- A frame turned. -/
theorem PM.reframe {rv wv lv : Value} (hp : PM SP rv wv lv p F T bk tf A w) {k : Int} {b : Nat} (hb : bk k = some b) {w' : World} (t : Tn (fun i => i = b) w w') {f' : Fm} (hx : Bx w' b (fcs f') 71) : PM SP rv wv lv p F T bk tf { A with fr := upd A.fr k f' } w' :=
  ⟨t.bx hp.box (fun e => bx_type (hp.fr k b hb) hp.box (by decide) e.symm), hp.frm.kept t (fun e => bx_map (hp.fr k b hb) hp.frm e.symm), hp.tms.kept t (fun e => bx_map (hp.fr k b hb) hp.tms e.symm), hp.tmf,
    fun j c hc => by
      by_cases hj : j = k
      · subst hj
        rw [hb] at hc
        cases hc
        show Bx w' b (fcs (upd A.fr j f' j)) _
        rw [upd_same]; exact hx
      · show Bx w' c (fcs (upd A.fr k f' j)) _
        rw [upd_other _ _ hj]
        exact t.bx (hp.fr j c hc) (fun e => hj (hp.inj j k b (by rw [hc, e]) hb)), hp.iff, hp.inj, hp.hFT, hp.sp, hp.sF, hp.sT, hp.sb, fun i hi => Nat.lt_of_lt_of_le (hp.lt i hi) t.size⟩
theorem Bt.reframe (hg : h.Good) (hb : Bt h S SP p F T bk tf A o w) {k : Int} {b : Nat} (hk : bk k = some b) {w' : World} (t : Tn (fun i => i = b) w w') {f' : Fm} (hx : Bx w' b (fcs f') 71) : ∃ S', Bt h S' SP p F T bk tf { A with fr := upd A.fr k f' } o w' ∧ Ch S S' w w' :=
  hb.own hg (hb.1.reframe hk t hx) (t.mono (fun i hi => by subst hi; exact hb.1.sb k _ hk)) (.refl SP w)
/-- What a call of the pool leaves: its answer, the pool and the host after. -/
def After (h : Host Ω) (S : Nat → Prop) (p : Nat) (r : Pl × Ω) (w w' : World) : Prop := ∃ S' SP' F' T' bk' tf', Bt h S' SP' p F' T' bk' tf' r.1 r.2 w' ∧ Ch S S' w w'
theorem clean_false {k : Int} (h1 : k ∈ A.ks) (h2 : (A.fr k).d = true) : isClean A k = false := by simp [isClean, h1, h2]
theorem flush_is (hg : h.Good) (hA : Ok A) {n : Nat} (hok : h.ok o (n + 2)) (hb : Bt h S SP p F T bk tf A o w) {k : Int} (hk : rng k) :
    Calls Try.prog 15 #[ptr p, .int .i64 k] w fun e w' => e = .returned (.int .i64 (flushP h A o k).1) ∧ ∃ S', Bt h S' SP p F T bk tf (flushP h A o k).2.1 (flushP h A o k).2.2 w' ∧ Ch S S' w w' := by
  have MY := Lib.hid (made_yes hb.1)
  have CL := Lib.hid (clean_is hb.1 hk)
  obtain ⟨R, hR⟩ : ∃ R, flushP h A o k = R := ⟨_, rfl⟩
  rw [hR]
  have HR := Lib.hid hR
  clear hR
  by_cases hc : k ∈ A.ks ∧ (A.fr k).d = true
  · obtain ⟨hc1, hc2⟩ := hc
    rw [clean_false hc1 hc2] at CL
    obtain ⟨b, hbk⟩ : ∃ b, bk k = some b := by
      have := (hb.1.iff k).2 hc1
      cases hq : bk k with
      | none => rw [hq] at this; cases this
      | some b => exact ⟨b, rfl⟩
    have lk := hb.1.look hk
    rw [hbk] at lk
    simp only [vP] at lk
    obtain ⟨h0, h1, h2, h3, h4, h5, h6⟩ := hb.1.cells
    obtain ⟨f0, f1, f2, f3⟩ := hb.1.frame hbk
    have d2 : w.drew.cell? ⟨p, 2, none⟩ = some (.func (.func h.gl) h.lpre h.lcap) := h2
    have d3 : w.drew.cell? ⟨b, 3, none⟩ = some (.int .i64 (A.fr k).lsn) := f3
    have hgl := hg.el
    have HB := Lib.hid hb
    have HK := Lib.hid hbk
    have HD := Lib.hid hc2
    have HC := Lib.hid hc1
    clear hb hbk hc2 hc1
    go_enter Try.func15, Try.ntmps15
    go_wp2_with fail
    refine MY.out.mono ?_; rintro e w1 ⟨rfl, rfl⟩
    go_wp2_with fail
    refine CL.out.mono ?_; rintro e w1 ⟨rfl, rfl⟩
    go_upto_region 6 with fail
    go_still_tail 8, (by kernel_rfl)
    change wpList _ _ _ _ _ w1.drew
    have BD := Lib.hid (HB.out.keep hg (Tn.drew (fun _ => False) w1) (fun i hi hf => hf))
    have CH := Lib.hid (Ch.drew S w1)
    clear d2 d3 h0 h1 h2 h3 h4 h5 h6 f0 f1 f2 f3
    generalize w1.drew = w2 at *
    go_wp2_with fail
    have l4 := BD.out.log hg hok (hA.ls k)
    have e4 : h.lpre ++ #[Value.int .i64 (A.fr k).lsn] = h.lpre.push (.int .i64 (A.fr k).lsn) := by simp
    rw [e4] at l4
    clear e4
    refine l4.mono ?_; rintro e w3 ⟨rfl, S3, hb3, c3⟩
    have C3 := Lib.hid (CH.out.trans c3)
    have B3 := Lib.hid hb3
    clear l4 hb3 c3 BD CH
    have lok := hg.lok (k := (A.fr k).lsn) hok
    obtain ⟨L, hL⟩ : ∃ L, h.lgF o (A.fr k).lsn = L := ⟨_, rfl⟩
    rw [hL] at B3 lok ⊢
    have HL := Lib.hid hL
    clear hL
    obtain ⟨le, lo⟩ := L
    by_cases hle : le = 0
    · subst hle
      have f3 := B3.out.1.cells
      obtain ⟨h0, h1, h2, h3, h4, h5, h6⟩ := f3
      obtain ⟨f0, f1, f2, f3⟩ := B3.out.1.frame HK.out
      have hgw := hg.ew
      clear h0 h2 h3 h4 h5 h6 f1 f2 f3
      go_upto_region 9 with fail
      go_still_tail 9, (by kernel_rfl)
      change wpList _ _ _ _ _ w3.drew
      have BD := Lib.hid (B3.out.keep hg (Tn.drew (fun _ => False) w3) (fun i hi hf => hf))
      have CH := Lib.hid (C3.out.trans (Ch.drew S3 w3))
      clear h1 f0
      generalize w3.drew = w4 at *
      go_wp2_with fail
      have l4 := BD.out.write hg (n := n) lok hk (hA.sz k)
      rw [Array.append_assoc] at l4
      refine l4.mono ?_; rintro e w5 ⟨rfl, S5, hb5, c5⟩
      have C5 := Lib.hid (CH.out.trans c5)
      have B5 := Lib.hid hb5
      clear l4 hb5 c5 BD CH B3 C3
      obtain ⟨L, hW⟩ : ∃ L, h.wrF lo k (A.fr k).b = L := ⟨_, rfl⟩
      rw [hW] at B5 ⊢
      have HW := Lib.hid hW
      clear hW
      obtain ⟨we, wo⟩ := L
      by_cases hwe : we = 0
      · subst hwe
        have hfz := (B5.out.1.fr k b HK.out).free 1
        have f1 := (B5.out.1.frame HK.out).2.1
        go_wp2_with fail
        go_ret
        have RE : R = (0, cleanP A k, wo) := by
          rw [← HR.out]
          simp [flushP, HC.out, HD.out, HL.out, HW.out]
        rw [RE]
        obtain ⟨S6, hb6, c6⟩ := B5.out.reframe hg HK.out (Tn.setCell w5 ⟨b, 1, none⟩ (.bool false) rfl) (f' := { A.fr k with d := false }) ((B5.out.1.fr k b HK.out).set 1 (.bool false))
        exact ⟨rfl, _, hb6, C5.out.trans c6⟩
      · have hz : ¬ ((we : Int) = 0) := by omega
        go_wp2_with fail
        go_ret
        have RE : R = (we, A, wo) := by
          rw [← HR.out]
          simp [flushP, HC.out, HD.out, HL.out, HW.out, hwe]
        rw [RE]
        exact ⟨rfl, _, B5.out, C5.out⟩
    · have hz : ¬ ((le : Int) = 0) := by omega
      go_wp2_with fail
      go_ret
      have RE : R = (le, A, lo) := by
        rw [← HR.out]
        simp [flushP, HC.out, HD.out, HL.out, hle]
      rw [RE]
      exact ⟨rfl, _, B3.out, C3.out⟩
  · have e1 : isClean A k = true := by
      unfold isClean
      by_cases h1 : k ∈ A.ks
      · have : (A.fr k).d = false := by
          cases hd : (A.fr k).d with
          | true => exact absurd ⟨h1, hd⟩ hc
          | false => rfl
        simp [this]
      · simp [h1]
    rw [e1] at CL
    have RE : R = (0, A, o) := by
      rw [← HR.out]
      unfold flushP
      rw [if_neg hc]
    have HB := Lib.hid hb
    subst RE
    clear hb hc e1 HR
    go_enter Try.func15, Try.ntmps15
    go_wp2_with fail
    refine MY.out.mono ?_; rintro e w1 ⟨rfl, rfl⟩
    go_wp2_with fail
    refine CL.out.mono ?_; rintro e w1 ⟨rfl, rfl⟩
    go_wp2_with fail
    go_ret
    exact ⟨rfl, _, HB.out, .refl _ _⟩
end
end Go.Proofs.Ytcecfageijkifaa.Po
