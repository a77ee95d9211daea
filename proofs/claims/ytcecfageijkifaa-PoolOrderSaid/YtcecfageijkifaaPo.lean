/- The program's pool: New; All; how many calls more. -/
import Derived.Test.YtcecfageijkifaaPn
namespace Go.Proofs.Ytcecfageijkifaa.Po
open Go.ChangeShapes Go.WideShapes Go.ChangeAt Go.RowKit
set_option linter.unusedVariables false
set_option linter.unusedSimpArgs false
set_option maxRecDepth 100000
def newP (n : Nat) : Pl := ⟨n, [], fun _ => ⟨[], false, 0, 0⟩, fun _ => (0, 0), 0⟩
theorem new_ok {n : Nat} (h1 : 1 ≤ n) (h2 : n ≤ 16) : Ok (newP n) :=
  ⟨List.Pairwise.nil, Nat.zero_le _, h1, h2, fun k hk => by simp [newP] at hk, fun k => ⟨Nat.le_refl _, Nat.le_refl _⟩, fun k => Nat.zero_le _, fun k => (⟨by decide, by decide⟩ : rng 0), fun k => (⟨by decide, by decide⟩ : rng 0)⟩
section
variable {Ω : Type} {h : Host Ω} {S SP : Nat → Prop} {p F T : Nat} {bk : Int → Option Nat} {tf : Int → Option (Nat × Nat)} {A : Pl} {o : Ω} {w : World}
theorem new_is (hg : h.Good) {SO : Nat → Prop} (hm : h.M SO w o) {n : Nat} (h1 : 1 ≤ n) (h2 : n ≤ 16) : Calls Try.prog 9 #[.int .i64 n, .func (.func h.gr) h.rpre h.rcap, .func (.func h.gw) h.wpre h.wcap, .func (.func h.gl) h.lpre h.lcap] w fun e w' => e = .returned (ptr (w.heap.size + 2)) ∧ ∃ S' SP' F' T', Bt h S' SP' (w.heap.size + 2) F' T' (fun _ => none) (fun _ => none) (newP n) o w' ∧ Below w.heap.size w w' ∧ Nw SO S' w := by
  have n1 := fun w => eq_r h.gr h.rpre h.rcap w
  have n2 := fun w => eq_w h.gw h.wpre h.wcap w
  have n3 := fun w => eq_l h.gl h.lpre h.lcap w
  have z1 : ¬ ((n : Int) < 1) := by omega
  have z2 : ¬ ((16 : Int) < (n : Int)) := by omega
  have HM := Lib.hid hm
  have hmm := @run_makeMap Try.prog
  clear hm
  go_enter Try.func9, Try.ntmps9
  go_wp2_with fail
  go_ret
  have b1 : Below w.heap.size w (w.alloc (.map #[] 0)) := (Below.refl _ w).alloc (Nat.le_refl _) _
  have b2 : Below w.heap.size w ((w.alloc (.map #[] 0)).alloc (.map #[] 0)) := b1.alloc b1.size _
  have b3 := b2.alloc b2.size (.cells #[h.rv, h.wv, h.lv, .int .i64 n, .map (some w.heap.size), .map (some (w.heap.size + 1)), .int .i64 0] 63)
  have mF : MapI Rp eP (w.alloc (.map #[] 0)) w.heap.size 0 (fun _ => none) := MapI.made w
  have mT : MapI Rt eT ((w.alloc (.map #[] 0)).alloc (.map #[] 0)) (w.heap.size + 1) 0 (fun _ => none) := by
    have := MapI.made (α := Nat × Nat) (R := Rt) (e := eT) (w.alloc (.map #[] 0))
    rwa [World.size_alloc] at this
  have mF2 := mF.kept (Tn.alloc (fun _ => False) _ (.map #[] 0)) (fun hf => hf)
  have mF3 := mF2.kept (Tn.alloc (fun _ => False) _ (.cells #[h.rv, h.wv, h.lv, .int .i64 n, .map (some w.heap.size), .map (some (w.heap.size + 1)), .int .i64 0] 63)) (fun hf => hf)
  have mT3 := mT.kept (Tn.alloc (fun _ => False) _ (.cells #[h.rv, h.wv, h.lv, .int .i64 n, .map (some w.heap.size), .map (some (w.heap.size + 1)), .int .i64 0] 63)) (fun hf => hf)
  have bx := Bx.new ((w.alloc (.map #[] 0)).alloc (.map #[] 0)) #[h.rv, h.wv, h.lv, .int .i64 n, .map (some w.heap.size), .map (some (w.heap.size + 1)), .int .i64 0] 63
  rw [World.size_alloc, World.size_alloc] at bx
  refine ⟨rfl, fun i => (w.heap.size ≤ i ∧ i < w.heap.size + 3) ∨ SO i, ⟨fun i => w.heap.size ≤ i ∧ i < w.heap.size + 3, w.heap.size, w.heap.size + 1, ?_, ⟨SO, hg.keep HM.out (Tn.of_below (S := fun _ => False) b3) (fun i hi hf => hf), fun i hi h' => ?_, fun i hi => .inr hi⟩, fun i hi => .inl hi, fun i hi => ?_⟩, b3, fun i hi => ?_⟩
  · refine ⟨bx, mF3, mT3, fun k => rfl, fun k b hb => by simp at hb, fun k => by simp [newP], fun k k' b hb => by simp at hb, by omega, by omega, by omega, by omega, fun k b hb => by simp at hb, fun i hi => ?_⟩
    rw [World.size_alloc, World.size_alloc, World.size_alloc]; omega
  · have := hg.lt HM.out i h'; omega
  · rcases hi with hi | hi
    · rw [World.size_alloc, World.size_alloc, World.size_alloc]; omega
    · exact Nat.lt_of_lt_of_le (hg.lt HM.out i hi) b3.size
  · rcases hi with hi | hi
    · exact .inr hi.1
    · exact .inl hi
theorem ok_le (hg : h.Good) : ∀ {a b : Nat}, h.ok o a → b ≤ a → h.ok o b := by
  intro a
  induction a with
  | zero => intro b hk hb; obtain rfl : b = 0 := by omega
            exact hk
  | succ a ih =>
    intro b hk hb
    by_cases he : b = a + 1
    · rw [he]; exact hk
    · exact ih (hg.down hk) (by omega)
theorem flush_okn (hg : h.Good) {n : Nat} {k : Int} (hok : h.ok o (n + 2)) : h.ok (flushP h A o k).2.2 n := by
  unfold flushP
  split
  · split
    · exact hg.down (hg.lok hok)
    · split
      · exact hg.wok (hg.lok hok)
      · exact hg.wok (hg.lok hok)
  · exact hg.down (hg.down hok)
theorem empty_okn (hg : h.Good) {n : Nat} {k : Int} (hok : h.ok o (n + 2)) : h.ok (emptyP h A o k).2.2 n := by
  unfold emptyP
  split
  · exact flush_okn hg hok
  · exact flush_okn hg hok
theorem prov_okn (hg : h.Good) {n : Nat} {k : Int} {c : BA} (hok : h.ok o (n + 2)) : h.ok (provP h A o k c).2.2 n := by
  unfold provP
  split
  · exact hg.down (hg.down hok)
  · split
    · exact hg.down (hg.down hok)
    · split
      · exact empty_okn hg hok
      · exact empty_okn hg hok
theorem get_okn (hg : h.Good) {n : Nat} {k : Int} (hok : h.ok o (n + 3)) : h.ok (getP h A o k).2.2 n := by
  unfold getP
  split
  · exact hg.down (hg.down (hg.down hok))
  · split
    · exact hg.down (hg.down (hg.rok hok))
    · split
      · exact prov_okn hg (hg.rok hok)
      · exact prov_okn hg (hg.rok hok)
theorem set_okn (hg : h.Good) {n : Nat} {k lsn : Int} {c : BA} (hok : h.ok o (n + 2)) : h.ok (setP h A o k c lsn).2.2 n := by
  unfold setP
  split
  · exact prov_okn hg hok
  · exact prov_okn hg hok
theorem get_ok (hg : h.Good) (hA : Ok A) {SO : Nat → Prop} (hm : h.M SO w o) {k : Int} (hk : rng k) : Ok (getP h A o k).2.1 ∧ (getP h A o k).2.1.acc ≤ A.acc + 1 ∧ (getP h A o k).2.1.most = A.most := by
  obtain ⟨e1, e2, e3, e4, _⟩ := prov_ok (h := h) (o := (h.rdF o k).2) hA hk (hg.rlen hm (k := k))
  unfold getP
  split
  · exact ⟨acc_ok hA k, Nat.le_refl _, rfl⟩
  · split
    · exact ⟨hA, Nat.le_succ _, rfl⟩
    · split
      · exact ⟨e1, by rw [e2]; omega, e4⟩
      · exact ⟨acc_ok e1 k, by show (provP h A (h.rdF o k).2 k (h.rdF o k).1.1).2.1.acc + 1 ≤ _; rw [e2]; exact Nat.le_refl _, e4⟩
theorem dirt_ok (hA : Ok A) {k lsn : Int} {c : BA} (hc : c.length ≤ 1099511627776) (hl : rng lsn) : Ok (dirtP A k c lsn) := by
  refine ⟨hA.srt, hA.len, hA.m1, hA.m2, hA.rg, hA.tm, fun j => ?_, fun j => ?_, fun j => ?_⟩
  all_goals
    by_cases hj : j = k
    · subst hj
      simp only [dirtP, upd_same]
      first | exact hc | exact hl | (split; exact hA.si j; exact hl)
    · simp only [dirtP, upd_other _ _ hj]
      first | exact hA.sz j | exact hA.si j | exact hA.ls j
theorem set_ok (hA : Ok A) {k lsn : Int} {c : BA} (hk : rng k) (hc : c.length ≤ 1099511627776) (hl : rng lsn) : Ok (setP h A o k c lsn).2.1 ∧ (setP h A o k c lsn).2.1.acc ≤ A.acc + 1 ∧ (setP h A o k c lsn).2.1.most = A.most := by
  obtain ⟨e1, e2, e3, e4, _⟩ := prov_ok (h := h) (o := o) hA hk (c := []) (Nat.zero_le _)
  unfold setP
  split
  · exact ⟨e1, by rw [e2]; omega, e4⟩
  · exact ⟨acc_ok (dirt_ok e1 hc hl) k, by show (provP h A o k []).2.1.acc + 1 ≤ _; rw [e2]; exact Nat.le_refl _, e4⟩
theorem all_ok : ∀ (l : List Int) (A : Pl) (o : Ω), Ok A → Ok (allL h A o l).2.1 ∧ (allL h A o l).2.1.acc = A.acc ∧ (allL h A o l).2.1.most = A.most
  | [], A, o, hA => ⟨hA, rfl, rfl⟩
  | k :: r, A, o, hA => by
    obtain ⟨f1, f2, f3, f4⟩ := flush_ks (h := h) (A := A) (o := o) k
    unfold allL
    split
    · exact ⟨flush_ok hA k, f3, f2⟩
    · obtain ⟨e1, e2, e3⟩ := all_ok r (flushP h A o k).2.1 (flushP h A o k).2.2 (flush_ok hA k)
      exact ⟨e1, by rw [e2, f3], by rw [e3, f2]⟩
theorem all_okn (hg : h.Good) {n : Nat} : ∀ (l : List Int) (A : Pl) (o : Ω), h.ok o (n + 2 * l.length) → h.ok (allL h A o l).2.2 n
  | [], A, o, hk => hk
  | k :: r, A, o, hk => by
    have h0 : h.ok o (n + 2 * r.length + 2) := by
      rw [List.length_cons] at hk
      rwa [show n + 2 * (r.length + 1) = n + 2 * r.length + 2 by omega] at hk
    have h1 : h.ok (flushP h A o k).2.2 (n + 2 * r.length) := flush_okn hg h0
    unfold allL
    split
    · exact ok_le hg h1 (by omega)
    · exact all_okn hg r _ _ h1
set_option maxHeartbeats 2000000 in
theorem all_is (hg : h.Good) (hA : Ok A) {m : Nat} (hok : h.ok o (m + 32)) (hb : Bt h S SP p F T bk tf A o w) :
    Calls Try.prog 16 #[ptr p] w fun e w' => e = .returned (.int .i64 (allP h A o).1) ∧ ∃ S', Bt h S' SP p F T bk tf (allP h A o).2.1 (allP h A o).2.2 w' ∧ Ch S S' w w' := by
  have MY := Lib.hid (made_yes hb.1)
  have DP := Lib.hid (dirtyPages_is hb.1 hA)
  have HL := dirty_len hA
  have HRG := Lib.hid (fun (i : Nat) (hi : i < (dirtyK A).length) => hA.rg _ (dirty_mem (show (dirtyK A).getD i 0 ∈ dirtyK A by simp [List.getD, hi])).1)
  have HB := Lib.hid hb
  have HA := Lib.hid hA
  have HOK := Lib.hid hok
  obtain ⟨R, hR⟩ : ∃ R, allP h A o = R := ⟨_, rfl⟩
  rw [hR]
  unfold allP at hR
  have HR := Lib.hid hR
  clear hb hR hA hok
  go_enter Try.func16, Try.ntmps16
  go_wp2_with fail
  refine MY.out.mono ?_; rintro e w1 ⟨rfl, rfl⟩
  go_wp2_with fail
  refine DP.out.mono ?_; rintro e w2 ⟨v2, rfl, hl, hb2⟩
  obtain ⟨Av, c, rfl, hat⟩ := hl.at
  have B2 := Lib.hid (HB.out.keep hg (Tn.of_below (S := fun _ => False) hb2) (fun i hi hf => hf))
  have C2 := Lib.hid (show Ch S S w1 w2 from ⟨Tn.of_below hb2, Nw.refl _ _⟩)
  obtain ⟨l, hll⟩ : ∃ l, dirtyK A = l := ⟨_, rfl⟩
  obtain ⟨n, hn⟩ : ∃ n, l.length = n := ⟨_, rfl⟩
  rw [hll, hn] at hat HL HRG
  rw [hll, hn]
  rw [hll] at HR
  have HN := Lib.hid hn
  have HAT := Lib.hid (show ∀ i, i < n → ∃ g, Av = some ⟨g, 0, none⟩ ∧ ¬ S g ∧ g < w2.heap.size ∧ w2.cell? ⟨g, i, none⟩ = some (.int .i64 (l.getD i 0)) from fun i hi => by
    obtain ⟨g, h1, h2, h3, h4⟩ := hat i hi
    exact ⟨g, h1, fun hs => by have := HB.out.2.2.2 g hs; omega, h3, h4⟩)
  clear hat hl hll hn DP MY hb2 HB
  go_wp2_with fail
  go_loopw [12] (fun x wr => ∃ (i : Nat) (Ai : Pl) (oi : Ω) (Si : Nat → Prop), i ≤ n ∧ x = .int .i64 i ∧ Hid (allL h Ai oi (l.drop i) = R) ∧ Hid (Ok Ai) ∧ Hid (h.ok oi (m + 2 * (n - i))) ∧ Hid (Bt h Si SP p F T bk tf Ai oi wr) ∧ Hid (Ch S Si w1 wr) ∧ Hid (∀ i, i < n → ∃ g, Av = some ⟨g, 0, none⟩ ∧ ¬ Si g ∧ g < wr.heap.size ∧ wr.cell? ⟨g, i, none⟩ = some (.int .i64 (l.getD i 0)))) (fun x _ => n - (intOf x).toNat)
  case atStart => exact ⟨0, A, o, S, Nat.zero_le _, rfl, HR, HA, Lib.hid (ok_le hg HOK.out (by omega)), B2, C2, HAT⟩
  case round =>
    obtain ⟨i, Ai, oi, Si, hi, rfl, hr, ha, hk, hb, hc, ht⟩ := hrel
    have RI := Lib.hid hr.out
    have AI := Lib.hid ha.out
    have OI := Lib.hid hk.out
    have BI := Lib.hid hb.out
    have CI := Lib.hid hc.out
    have TI := Lib.hid ht.out
    clear hr ha hk hb hc ht HR B2 C2 HAT
    have b0 : (0 : Int) ≤ (i : Int) := by omega
    by_cases hlt : i < n
    · have b1 : (i : Int) < (n : Int) := by omega
      obtain ⟨g, rfl, hg1, hg2, hci⟩ := TI.out i hlt
      have HD := Lib.hid (show l.drop i = l.getD i 0 :: l.drop (i + 1) from by
        rw [List.drop_eq_getElem_cons (by rw [HN.out]; exact hlt)]
        simp [List.getD, HN.out, hlt])
      have FL := Lib.hid (flush_is hg AI.out (n := m + 2 * (n - (i + 1))) (by have := OI.out; rwa [show m + 2 * (n - i) = m + 2 * (n - (i + 1)) + 2 by omega] at this) BI.out (HRG.out i hlt))
      have FO := Lib.hid (flush_okn (h := h) (A := Ai) (k := l.getD i 0) hg (n := m + 2 * (n - (i + 1))) (by have := OI.out; rwa [show m + 2 * (n - i) = m + 2 * (n - (i + 1)) + 2 by omega] at this))
      have FA := Lib.hid (flush_ok (h := h) (o := oi) AI.out (l.getD i 0))
      have RI2 := RI.out
      rw [HD.out] at RI2
      unfold allL at RI2
      obtain ⟨x, hx⟩ : ∃ x, l.getD i 0 = x := ⟨_, rfl⟩
      rw [hx] at hci FL FO FA RI2
      obtain ⟨L, hL⟩ : ∃ L, flushP h Ai oi x = L := ⟨_, rfl⟩
      rw [hL] at FL FO FA RI2
      obtain ⟨le, A1, o1⟩ := L
      have RI3 := Lib.hid RI2
      clear RI2 hL hx RI
      go_wp2_with fail
      refine FL.out.mono ?_; rintro e w3 ⟨rfl, S3, hb3, c3⟩
      have B3 := Lib.hid hb3
      have C3 := Lib.hid (CI.out.trans c3)
      have T3 := Lib.hid (show ∀ i, i < n → ∃ g, (some ⟨g, 0, none⟩ : Option Addr) = some ⟨g, 0, none⟩ ∧ True from fun i _ => ⟨g, rfl, trivial⟩)
      have T4 := Lib.hid (show ∀ j, j < n → ∃ g', (some ⟨g, 0, none⟩ : Option Addr) = some ⟨g', 0, none⟩ ∧ ¬ S3 g' ∧ g' < w3.heap.size ∧ w3.cell? ⟨g', j, none⟩ = some (.int .i64 (l.getD j 0)) from fun j hj => by
        obtain ⟨g', k1, k2, k3, k4⟩ := TI.out j hj
        refine ⟨g', k1, fun hs => ?_, Nat.lt_of_lt_of_le k3 c3.1.size, ?_⟩
        · rcases c3.2 g' hs with h1 | h1
          · exact k2 h1
          · omega
        · rw [World.cell?_of_block (w := _) (c3.1.block g' k3 k2)]
          exact k4)
      clear hb3 c3 T3 TI BI CI FL
      by_cases hle : le = 0
      · subst hle
        have RI4 := Lib.hid (show allL h A1 o1 (l.drop (i + 1)) = R from by have := RI3.out; simpa using this)
        go_wp2_with fail
        go_roundw
        case rel => exact ⟨i + 1, A1, o1, S3, by omega, by go_num, RI4, FA, FO, B3, C3, T4⟩
        case measure => simp [intOf]; omega
      · have hz : ¬ ((le : Int) = 0) := by omega
        have RI4 := Lib.hid (show R = (le, A1, o1) from by have := RI3.out; rw [if_pos hle] at this; exact this.symm)
        go_wp2_with fail
        go_ret
        rw [RI4.out]
        exact ⟨rfl, S3, B3.out, C3.out⟩
    · obtain rfl : i = n := by omega
      have RI4 := Lib.hid (show R = (0, Ai, oi) from by have := RI.out; rw [List.drop_eq_nil_of_le (by rw [HN.out]; exact Nat.le_refl _)] at this; exact this.symm)
      go_wp2_with fail
      go_ret
      rw [RI4.out]
      exact ⟨rfl, Si, BI.out, CI.out⟩
end
end Go.Proofs.Ytcecfageijkifaa.Po
