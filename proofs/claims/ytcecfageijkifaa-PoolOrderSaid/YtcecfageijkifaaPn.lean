/- The program's pool: Set; All; New. -/
import Derived.Test.YtcecfageijkifaaPl
namespace Go.Proofs.Ytcecfageijkifaa.Po
open Go.ChangeShapes Go.WideShapes Go.ChangeAt Go.RowKit
set_option linter.unusedVariables false
set_option linter.unusedSimpArgs false
set_option maxRecDepth 100000
section
variable {Ω : Type} {h : Host Ω} {S SP : Nat → Prop} {p F T : Nat} {bk : Int → Option Nat} {tf : Int → Option (Nat × Nat)} {A : Pl} {o : Ω} {w : World}
set_option maxHeartbeats 2000000 in
theorem set_is (hg : h.Good) (hA : Ok A) {n : Nat} (hok : h.ok o (n + 2)) (ha : A.acc < 1000000) (hb : Bt h S SP p F T bk tf A o w) {k : Int} (hk : rng k) {c : BA} (hc : c.length ≤ 1099511627776) {lsn : Int} :
    Calls Try.prog 14 #[ptr p, .int .i64 k, .string (str c), .int .i64 lsn] w fun e w' => e = .returned (.int .i64 (setP h A o k c lsn).1) ∧ After h S p (setP h A o k c lsn).2 w w' := by
  have RE0 := Lib.hid (show setP h A o k c lsn = if (provP h A o k []).1 ≠ 0 then provP h A o k [] else (0, accP (dirtP (provP h A o k []).2.1 k c lsn) k, (provP h A o k []).2.2) from rfl)
  obtain ⟨R, hR⟩ : ∃ R, setP h A o k c lsn = R := ⟨_, rfl⟩
  rw [hR] at RE0 ⊢
  have MY := Lib.hid (made_yes hb.1)
  have PR := Lib.hid (show Calls Try.prog 34 #[ptr p, .int .i64 k, .string ⟨#[]⟩] w _ from prov_is hg hA hok hb hk (c := []) (by simp))
  obtain ⟨pk1, pk2, pk3, _, _⟩ := prov_ok (h := h) (o := o) hA hk (c := []) (by simp)
  obtain ⟨L, hL⟩ : ∃ L, provP h A o k [] = L := ⟨_, rfl⟩
  rw [hL] at PR RE0 pk1 pk2 pk3
  obtain ⟨pe, A1, o1⟩ := L
  have HOK := Lib.hid pk1
  have HACC := Lib.hid pk2
  have HMEM := Lib.hid pk3
  have CLN := Lib.hid (fun (u : World) => clone_any (str c) (by rw [str_size]; omega) u)
  clear hL pk1 pk2 pk3 hR hb hok
  go_enter Try.func14, Try.ntmps14
  go_wp2_with fail
  refine MY.out.mono ?_; rintro e w1 ⟨rfl, rfl⟩
  go_wp2_with fail
  refine PR.out.mono ?_; rintro e w3 ⟨vf, rfl, S3, SP3, bk3, hb3, c3, hv3⟩
  have B3 := Lib.hid hb3
  have C3 := Lib.hid c3
  by_cases hpe : pe = 0
  · subst hpe
    obtain rfl : vf = vP (bk3 k) := hv3 rfl
    obtain ⟨b, hbn⟩ : ∃ b, bk3 k = some b := by
      have := (hb3.1.iff k).2 (HMEM.out rfl)
      cases hq : bk3 k with
      | none => rw [hq] at this; cases this
      | some b => exact ⟨b, rfl⟩
    rw [hbn]
    simp only [vP]
    have HBN := Lib.hid hbn
    have X3 := Lib.hid (hb3.1.fr k b hbn)
    clear hb3 c3 hv3 PR hbn MY
    cases hd : (A1.fr k).d with
    | true =>
      have RE := Lib.hid (show R = (0, accP (dirtP A1 k c lsn) k, o1) from by rw [RE0.out, if_neg (by simp)])
      have c1 : w3.cell? ⟨b, 1, none⟩ = some (.bool true) := by have := X3.out.cell 1; rw [show (fcs (A1.fr k))[1]? = some (.bool (A1.fr k).d) from rfl, hd] at this; exact this
      have HD := Lib.hid hd
      clear hd RE0
      have X4 := Lib.hid (show Bx w3 b #[.string (str (A1.fr k).b), .bool (A1.fr k).d, .int .i64 (A1.fr k).since, .int .i64 (A1.fr k).lsn] 71 from X3.out)
      have T4 := Lib.hid (Tn.refl (fun i => i = b) w3)
      go_upto_region 8 with fail
      clear c1 X3
      go_wp2_with fail
      refine (CLN.out _).mono ?_; rintro e w5 ⟨rfl, hb5⟩
      have X5 := Lib.hid (X4.out.held hb5)
      have T5 := Lib.hid (T4.out.trans (Tn.of_below hb5))
      have c0 : w5.cell? ⟨b, 0, none⟩ = some (.string (str (A1.fr k).b)) := X5.out.cell 0
      have c1 : w5.cell? ⟨b, 1, none⟩ = some (.bool (A1.fr k).d) := X5.out.cell 1
      have c3 : w5.cell? ⟨b, 3, none⟩ = some (.int .i64 (A1.fr k).lsn) := X5.out.cell 3
      have z0 := X5.out.free 0
      have z1 := X5.out.free 1
      have z3 := X5.out.free 3
      have X6 := Lib.hid (show Bx (((w5.setCell ⟨b, 0, none⟩ (.string (str c))).setCell ⟨b, 1, none⟩ (.bool true)).setCell ⟨b, 3, none⟩ (.int .i64 lsn)) b (fcs ⟨c, true, (A1.fr k).since, lsn⟩) 71 from ((X5.out.set 0 (.string (str c))).set 1 (.bool true)).set 3 (.int .i64 lsn))
      have T6 := Lib.hid (((T5.out.trans (Tn.setCell w5 ⟨b, 0, none⟩ (.string (str c)) rfl)).trans (Tn.setCell _ ⟨b, 1, none⟩ (.bool true) rfl)).trans (Tn.setCell _ ⟨b, 3, none⟩ (.int .i64 lsn) rfl))
      clear hb5 X4 T4
      go_upto_region 9 with fail
      clear c0 c1 c3 z0 z1 z3
      generalize ((w5.setCell ⟨b, 0, none⟩ (.string (str c))).setCell ⟨b, 1, none⟩ (.bool true)).setCell ⟨b, 3, none⟩ (.int .i64 lsn) = w6 at *
      obtain ⟨S6, hb6, c6⟩ := B3.out.reframe hg HBN.out T6.out X6.out
      have HDR := Lib.hid (show dirtP A1 k c lsn = { A1 with fr := upd A1.fr k ⟨c, true, (A1.fr k).since, lsn⟩ } from by unfold dirtP; rw [HD.out]; rfl)
      rw [← HDR.out] at hb6
      have C6 := Lib.hid (C3.out.trans c6)
      have AC := Lib.hid (hb6.acc hg (by show A1.acc < 1000000; rw [show A1.acc = A.acc from HACC.out]; exact ha) hk)
      clear hb6 c6 X6 T6 T5 X5
      go_wp2_with fail
      refine AC.out.mono ?_; rintro e w7 ⟨rfl, S7, tf7, hb7, c7⟩
      have B7 := Lib.hid hb7
      have C7 := Lib.hid (C6.out.trans c7)
      clear hb7 c7 AC
      go_wp2_with fail
      go_ret
      rw [RE.out]
      exact ⟨rfl, S7, _, F, T, _, tf7, B7.out, C7.out⟩
    | false =>
      have RE := Lib.hid (show R = (0, accP (dirtP A1 k c lsn) k, o1) from by rw [RE0.out, if_neg (by simp)])
      have c1 : w3.cell? ⟨b, 1, none⟩ = some (.bool false) := by have := X3.out.cell 1; rw [show (fcs (A1.fr k))[1]? = some (.bool (A1.fr k).d) from rfl, hd] at this; exact this
      have c2 : w3.cell? ⟨b, 2, none⟩ = some (.int .i64 (A1.fr k).since) := X3.out.cell 2
      have z2 := X3.out.free 2
      have HD := Lib.hid hd
      clear hd RE0
      have X4 := Lib.hid (show Bx (w3.setCell ⟨b, 2, none⟩ (.int .i64 lsn)) b #[.string (str (A1.fr k).b), .bool (A1.fr k).d, .int .i64 lsn, .int .i64 (A1.fr k).lsn] 71 from X3.out.set 2 _)
      have T4 := Lib.hid (Tn.setCell (S := fun i => i = b) w3 ⟨b, 2, none⟩ (.int .i64 lsn) rfl)
      go_upto_region 8 with fail
      clear c1 c2 z2 X3
      generalize w3.setCell ⟨b, 2, none⟩ (.int .i64 lsn) = w4 at *
      go_wp2_with fail
      refine (CLN.out _).mono ?_; rintro e w5 ⟨rfl, hb5⟩
      have X5 := Lib.hid (X4.out.held hb5)
      have T5 := Lib.hid (T4.out.trans (Tn.of_below hb5))
      have c0 : w5.cell? ⟨b, 0, none⟩ = some (.string (str (A1.fr k).b)) := X5.out.cell 0
      have c1 : w5.cell? ⟨b, 1, none⟩ = some (.bool (A1.fr k).d) := X5.out.cell 1
      have c3 : w5.cell? ⟨b, 3, none⟩ = some (.int .i64 (A1.fr k).lsn) := X5.out.cell 3
      have z0 := X5.out.free 0
      have z1 := X5.out.free 1
      have z3 := X5.out.free 3
      have X6 := Lib.hid (show Bx (((w5.setCell ⟨b, 0, none⟩ (.string (str c))).setCell ⟨b, 1, none⟩ (.bool true)).setCell ⟨b, 3, none⟩ (.int .i64 lsn)) b (fcs ⟨c, true, lsn, lsn⟩) 71 from ((X5.out.set 0 (.string (str c))).set 1 (.bool true)).set 3 (.int .i64 lsn))
      have T6 := Lib.hid (((T5.out.trans (Tn.setCell w5 ⟨b, 0, none⟩ (.string (str c)) rfl)).trans (Tn.setCell _ ⟨b, 1, none⟩ (.bool true) rfl)).trans (Tn.setCell _ ⟨b, 3, none⟩ (.int .i64 lsn) rfl))
      clear hb5 X4 T4
      go_upto_region 9 with fail
      clear c0 c1 c3 z0 z1 z3
      generalize ((w5.setCell ⟨b, 0, none⟩ (.string (str c))).setCell ⟨b, 1, none⟩ (.bool true)).setCell ⟨b, 3, none⟩ (.int .i64 lsn) = w6 at *
      obtain ⟨S6, hb6, c6⟩ := B3.out.reframe hg HBN.out T6.out X6.out
      have HDR := Lib.hid (show dirtP A1 k c lsn = { A1 with fr := upd A1.fr k ⟨c, true, lsn, lsn⟩ } from by unfold dirtP; rw [HD.out]; rfl)
      rw [← HDR.out] at hb6
      have C6 := Lib.hid (C3.out.trans c6)
      have AC := Lib.hid (hb6.acc hg (by show A1.acc < 1000000; rw [show A1.acc = A.acc from HACC.out]; exact ha) hk)
      clear hb6 c6 X6 T6 T5 X5
      go_wp2_with fail
      refine AC.out.mono ?_; rintro e w7 ⟨rfl, S7, tf7, hb7, c7⟩
      have B7 := Lib.hid hb7
      have C7 := Lib.hid (C6.out.trans c7)
      clear hb7 c7 AC
      go_wp2_with fail
      go_ret
      rw [RE.out]
      exact ⟨rfl, S7, _, F, T, _, tf7, B7.out, C7.out⟩
  · have hz : ¬ ((pe : Int) = 0) := by omega
    have RE := Lib.hid (show R = (pe, A1, o1) from by rw [RE0.out, if_pos hpe])
    clear hb3 c3 hv3 PR MY
    go_wp2_with fail
    go_ret
    rw [RE.out]
    exact ⟨rfl, S3, _, F, T, _, tf, B3.out, C3.out⟩
end
end Go.Proofs.Ytcecfageijkifaa.Po
