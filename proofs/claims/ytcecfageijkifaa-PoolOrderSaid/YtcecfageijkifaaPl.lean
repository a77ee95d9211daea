/- The program's pool: Get, Set. -/
import Derived.Test.YtcecfageijkifaaPk
namespace Go.Proofs.Ytcecfageijkifaa.Po
open Go.ChangeShapes Go.WideShapes Go.ChangeAt Go.RowKit
set_option linter.unusedVariables false
set_option linter.unusedSimpArgs false
set_option maxRecDepth 100000
section
variable {Ω : Type} {h : Host Ω} {S SP : Nat → Prop} {p F T : Nat} {bk : Int → Option Nat} {tf : Int → Option (Nat × Nat)} {A : Pl} {o : Ω} {w : World}
theorem empty_ok (hA : Ok A) (k : Int) : Ok (emptyP h A o k).2.1 ∧ (emptyP h A o k).2.1.acc = A.acc ∧ (emptyP h A o k).2.1.most = A.most ∧ ((emptyP h A o k).1 = 0 → (emptyP h A o k).2.1.ks = delK k A.ks) ∧ (emptyP h A o k).2.1.tm = A.tm := by
  obtain ⟨f1, f2, f3, f4⟩ := flush_ks (h := h) (A := A) (o := o) k
  have h1 := flush_ok (h := h) (o := o) hA k
  unfold emptyP
  split
  · rename_i hq
    exact ⟨h1, f3, f2, fun h0 => absurd h0 hq, f4⟩
  · exact ⟨del_ok h1 k, f3, f2, fun _ => by show delK k _ = _; rw [f1], f4⟩
theorem prov_ok (hA : Ok A) {k : Int} (hk : rng k) {c : BA} (hc : c.length ≤ 1099511627776) : Ok (provP h A o k c).2.1 ∧ (provP h A o k c).2.1.acc = A.acc ∧ ((provP h A o k c).1 = 0 → k ∈ (provP h A o k c).2.1.ks) ∧ (provP h A o k c).2.1.most = A.most ∧ (provP h A o k c).2.1.tm = A.tm := by
  obtain ⟨e1, e2, e3, e4, e5⟩ := empty_ok (h := h) (o := o) hA (victim A)
  unfold provP
  split
  · rename_i hk1
    exact ⟨hA, rfl, fun _ => hk1, rfl, rfl⟩
  · rename_i hk1
    split
    · rename_i hl
      exact ⟨ins_ok hA hk hl hk1 hc, rfl, fun _ => mem_insK.2 (.inl rfl), rfl, rfl⟩
    · rename_i hl
      split
      · rename_i hq
        exact ⟨e1, e2, fun h0 => absurd h0 hq, e3, e5⟩
      · rename_i hq
        have h0 : (emptyP h A o (victim A)).1 = 0 := by omega
        have hne : A.ks ≠ [] := fun h0 => hl (by rw [h0]; exact hA.m1)
        have hd := delK_length hA.srt (victim_mem A hne)
        have e4' := e4 h0
        refine ⟨ins_ok e1 hk (by rw [e4', e3]; have := hA.len; omega) (by rw [e4']; exact fun hm => hk1 (mem_delK.1 hm).1) hc, e2, fun _ => mem_insK.2 (.inl rfl), e3, e5⟩
theorem acc_ok (hA : Ok A) (k : Int) : Ok (accP A k) := by
  refine ⟨hA.srt, hA.len, hA.m1, hA.m2, hA.rg, fun j => ?_, hA.sz, hA.si, hA.ls⟩
  have h1 := hA.tm j
  have h2 := hA.tm k
  show (upd A.tm k _ j).1 ≤ A.acc + 1 ∧ (upd A.tm k _ j).2 ≤ A.acc + 1
  by_cases hj : j = k
  · subst hj
    rw [upd_same]
    exact ⟨by simp only; omega, Nat.le_refl _⟩
  · rw [upd_other _ _ hj]
    exact ⟨by omega, by omega⟩
theorem Bt.acc (hg : h.Good) (hb : Bt h S SP p F T bk tf A o w) (ha : A.acc < 1000000) {k : Int} (hk : rng k) : Calls Try.prog 35 #[ptr p, .int .i64 k] w fun e w' => e = .returned (.tuple #[]) ∧ ∃ S' tf', Bt h S' SP p F T bk tf' (accP A k) o w' ∧ Ch S S' w w' := by
  refine (access_is hb.1 ha hk).mono ?_
  rintro e w' ⟨rfl, h1, h2⟩
  obtain ⟨S', h3, h4⟩ := hb.own hg h1 h2 (.refl SP w)
  exact ⟨rfl, S', _, h3, h4⟩
set_option maxHeartbeats 2000000 in
theorem get_is (hg : h.Good) (hA : Ok A) {n : Nat} (hok : h.ok o (n + 3)) (ha : A.acc < 1000000) (hb : Bt h S SP p F T bk tf A o w) {k : Int} (hk : rng k) :
    Calls Try.prog 13 #[ptr p, .int .i64 k] w fun e w' => e = .returned (.tuple #[.string (str (getP h A o k).1.1), .int .i64 (getP h A o k).1.2]) ∧ After h S p (getP h A o k).2 w w' := by
  have RE0 := Lib.hid (show getP h A o k = if k ∈ A.ks then (((A.fr k).b, 0), accP A k, o) else if (h.rdF o k).1.2 ≠ 0 then (([], (h.rdF o k).1.2), A, (h.rdF o k).2) else if (provP h A (h.rdF o k).2 k (h.rdF o k).1.1).1 ≠ 0 then (([], (provP h A (h.rdF o k).2 k (h.rdF o k).1.1).1), (provP h A (h.rdF o k).2 k (h.rdF o k).1.1).2) else ((((provP h A (h.rdF o k).2 k (h.rdF o k).1.1).2.1.fr k).b, 0), accP (provP h A (h.rdF o k).2 k (h.rdF o k).1.1).2.1 k, (provP h A (h.rdF o k).2 k (h.rdF o k).1.1).2.2) from rfl)
  obtain ⟨R, hR⟩ : ∃ R, getP h A o k = R := ⟨_, rfl⟩
  rw [hR] at RE0 ⊢
  have MY := Lib.hid (made_yes hb.1)
  obtain ⟨b0, b1, b2, b3, b4, b5, b6⟩ := hb.1.cells
  have lk := hb.1.look hk
  have B := Lib.hid hb
  have HA := Lib.hid hA
  clear hR hb hA
  by_cases hkn : k ∈ A.ks
  · have RE := Lib.hid (show R = (((A.fr k).b, 0), accP A k, o) from by rw [RE0.out, if_pos hkn])
    obtain ⟨b, hbn⟩ : ∃ b, bk k = some b := by
      have := (B.out.1.iff k).2 hkn
      cases hq : bk k with
      | none => rw [hq] at this; cases this
      | some b => exact ⟨b, rfl⟩
    rw [hbn] at lk
    simp only [vP] at lk
    have HBN := Lib.hid hbn
    have AC := Lib.hid (B.out.acc hg ha hk)
    clear RE0 hkn hbn
    go_enter Try.func13, Try.ntmps13
    go_wp2_with fail
    refine MY.out.mono ?_; rintro e w1 ⟨rfl, rfl⟩
    go_wp2_with fail
    refine AC.out.mono ?_; rintro e w2 ⟨rfl, S2, tf2, hb2, c2⟩
    have B2 := Lib.hid hb2
    have C2 := Lib.hid c2
    have f0 : w2.cell? ⟨b, 0, none⟩ = some (.string (str (A.fr k).b)) := (hb2.1.frame HBN.out).1
    have hlen := HA.out.sz k
    clear hb2 c2 AC b0 b1 b2 b3 b4 b5 b6
    have CLN := Lib.hid (fun (u : World) => clone_any (str (A.fr k).b) (by rw [str_size]; omega) u)
    generalize (A.fr k).b = c at *
    go_wp2_with fail
    refine (CLN.out _).mono ?_; rintro e w3 ⟨rfl, hb3⟩
    go_wp2_with fail
    go_ret2
    rw [RE.out]
    exact ⟨rfl, S2, SP, F, T, bk, tf2, B2.out.keep hg (Tn.of_below (S := fun _ => False) hb3) (fun i hi hf => hf), C2.out.trans ⟨Tn.of_below hb3, Nw.refl _ _⟩⟩
  · have hbn : bk k = none := by
      cases hq : bk k with
      | none => rfl
      | some b => exact absurd ((B.out.1.iff k).1 (by rw [hq]; rfl)) hkn
    rw [hbn] at lk
    simp only [vP] at lk
    have RE1 := RE0.out
    rw [if_neg hkn] at RE1
    have RE2 := Lib.hid RE1
    have HRL := Lib.hid (show (h.rdF o k).1.1.length ≤ 1099511627776 from by obtain ⟨_, ⟨SO, hm, _⟩, _⟩ := B.out; exact hg.rlen hm)
    have l4 := B.out.read hg (n := n + 2) hok hk
    have e4 : h.rpre ++ #[Value.int .i64 k] = h.rpre.push (.int .i64 k) := by simp
    rw [e4] at l4
    have lok := hg.rok (k := k) hok
    obtain ⟨L, hL⟩ : ∃ L, h.rdF o k = L := ⟨_, rfl⟩
    rw [hL] at RE2 HRL l4 lok
    obtain ⟨⟨rb, re⟩, ro⟩ := L
    have RD := Lib.hid l4
    have hgr := hg.er
    clear hL RE1 RE0 l4 e4 hbn
    go_enter Try.func13, Try.ntmps13
    go_wp2_with fail
    refine MY.out.mono ?_; rintro e w1 ⟨rfl, rfl⟩
    go_wp2_with fail
    refine RD.out.mono ?_; rintro e w2 ⟨rfl, S2, hb2, c2⟩
    have B2 := Lib.hid hb2
    have C2 := Lib.hid c2
    clear hb2 c2 RD B MY lk b0 b1 b2 b3 b4 b5 b6 hgr
    by_cases hre : re = 0
    · subst hre
      have RE3 := RE2.out
      rw [if_neg (by simp)] at RE3
      have PR := Lib.hid (prov_is hg HA.out lok B2.out hk HRL.out)
      obtain ⟨pk1, pk2, pk3, _, _⟩ := prov_ok (h := h) (o := ro) HA.out hk HRL.out
      obtain ⟨L, hL⟩ : ∃ L, provP h A ro k rb = L := ⟨_, rfl⟩
      rw [hL] at PR RE3 pk1 pk2 pk3
      obtain ⟨pe, A1, o1⟩ := L
      have HOK := Lib.hid pk1
      have HACC := Lib.hid pk2
      have HMEM := Lib.hid pk3
      have RE4 := Lib.hid RE3
      clear hL RE3 RE2 pk1 pk2 pk3 lok
      go_wp2_with fail
      refine PR.out.mono ?_; rintro e w3 ⟨vf, rfl, S3, SP3, bk3, hb3, c3, hv3⟩
      have B3 := Lib.hid hb3
      have C3 := Lib.hid (C2.out.trans c3)
      by_cases hpe : pe = 0
      · subst hpe
        obtain rfl : vf = vP (bk3 k) := hv3 rfl
        obtain ⟨b, hbn⟩ : ∃ b, bk3 k = some b := by
          have := (hb3.1.iff k).2 (HMEM.out rfl)
          cases hq : bk3 k with
          | none => rw [hq] at this; cases this
          | some b => exact ⟨b, rfl⟩
        rw [hbn]
        simp only [vP]
        have HBN := Lib.hid hbn
        have AC := Lib.hid (hb3.acc hg (by rw [show A1.acc = A.acc from HACC.out]; exact ha) hk)
        have RE := Lib.hid (show R = (((A1.fr k).b, 0), accP A1 k, o1) from by rw [RE4.out, if_neg (by simp)])
        clear RE4 hbn hb3 c3 hv3 PR B2 C2
        go_wp2_with fail
        refine AC.out.mono ?_; rintro e w4 ⟨rfl, S4, tf4, hb4, c4⟩
        have B4 := Lib.hid hb4
        have C4 := Lib.hid (C3.out.trans c4)
        have f0 : w4.cell? ⟨b, 0, none⟩ = some (.string (str (A1.fr k).b)) := (hb4.1.frame HBN.out).1
        have hlen := HOK.out.sz k
        clear hb4 c4 AC
        have CLN := Lib.hid (fun (u : World) => clone_any (str (A1.fr k).b) (by rw [str_size]; omega) u)
        generalize (A1.fr k).b = c at *
        go_wp2_with fail
        refine (CLN.out _).mono ?_; rintro e w5 ⟨rfl, hb5⟩
        go_wp2_with fail
        go_ret2
        rw [RE.out]
        exact ⟨rfl, S4, _, F, T, _, tf4, B4.out.keep hg (Tn.of_below (S := fun _ => False) hb5) (fun i hi hf => hf), C4.out.trans ⟨Tn.of_below hb5, Nw.refl _ _⟩⟩
      · have hz : ¬ ((pe : Int) = 0) := by omega
        have RE := Lib.hid (show R = (([], pe), A1, o1) from by rw [RE4.out, if_pos hpe])
        clear hb3 c3 hv3 PR B2 C2 RE4
        go_wp2_with fail
        go_ret2
        rw [RE.out]
        exact ⟨rfl, S3, _, F, T, _, tf, B3.out, C3.out⟩
    · have hz : ¬ ((re : Int) = 0) := by omega
      have RE := Lib.hid (show R = (([], re), A, ro) from by rw [RE2.out, if_pos hre])
      go_wp2_with fail
      go_ret2
      rw [RE.out]
      exact ⟨rfl, S2, SP, F, T, bk, tf, B2.out, C2.out⟩
end
end Go.Proofs.Ytcecfageijkifaa.Po
