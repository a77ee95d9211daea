/- The program's pool: the dirty pages. -/
import Derived.Test.YtcecfageijkifaaPg
import Derived.Laws.IdiomCopy
namespace Go.Proofs.Ytcecfageijkifaa.Po
open Go.ChangeShapes Go.WideShapes Go.ChangeAt Go.RowKit
set_option linter.unusedVariables false
set_option linter.unusedSimpArgs false
set_option maxRecDepth 100000
theorem OwnI.block {B : Nat} {w : World} {v : Value} {l : List Int} (h : OwnI B w v l) : (v = .slice none 0 0 ∧ l = []) ∨ ∃ g c cur, v = .slice (some ⟨g, 0, none⟩) l.length c ∧ B ≤ g ∧ Bx w g cur 3 ∧ l.length ≤ c ∧ l.length ≤ cur.size ∧ ∀ i, i < l.length → cur[i]? = some (.int .i64 (l.getD i 0)) := by
  rcases h.2 with ⟨rfl, hn⟩ | ⟨g, cap, cur, rfl, h1, h2, h3, h4, h5, h6⟩
  · exact .inl ⟨rfl, List.eq_nil_of_length_eq_zero hn⟩
  · refine .inr ⟨g, cap, cur, rfl, h1, h2, h3, by omega, fun i hi => ?_⟩
    have e1 : (cur.toList.take (l.length * 1))[i]? = (ics l)[i]? := by rw [h6]
    rw [List.getElem?_take_of_lt (by omega), Array.getElem?_toList] at e1
    rw [e1]
    simp [ics, List.getD, hi]
/-- A list of numbers, as it is read. -/
def Lst (B : Nat) (w : World) (v : Value) (l : List Int) : Prop := (v = .slice none 0 0 ∧ l = []) ∨ ∃ g c, v = .slice (some ⟨g, 0, none⟩) l.length c ∧ B ≤ g ∧ g < w.heap.size ∧ l.length ≤ c ∧ ∀ i, i < l.length → w.cell? ⟨g, i, none⟩ = some (.int .i64 (l.getD i 0))
theorem OwnI.lst {B : Nat} {w : World} {v : Value} {l : List Int} (h : OwnI B w v l) : Lst B w v l := h.shape
theorem Tn.setCells {S : Nat → Prop} (g : Nat) (h : S g) : ∀ (vs : List Value) (o : Nat) (w : World), Tn S w (w.setCells g o vs)
  | [], _, w => .refl S w
  | v :: r, o, w => (Tn.setCell w ⟨g, o, none⟩ v h).trans (Tn.setCells g h r (o + 1) _)
/-- The dirty ones of the first j. -/
def dk (A : Pl) (j : Nat) : List Int := (A.ks.take j).filter fun k => (A.fr k).d
theorem dk_step (A : Pl) {j : Nat} (hj : j < A.ks.length) : dk A (j + 1) = dk A j ++ (if (A.fr (A.ks.getD j 0)).d then [A.ks.getD j 0] else []) := by
  unfold dk
  rw [List.take_succ_eq_append_getElem hj, List.filter_append]
  congr 1
  simp only [List.getD, List.getElem?_eq_getElem hj, Option.getD_some]
  cases h : (A.fr A.ks[j]).d <;> simp [h]
theorem dk_all (A : Pl) : dk A A.ks.length = dirtyK A := by unfold dk dirtyK; rw [List.take_length]
theorem dk_first (A : Pl) {j : Nat} (hj : j ≤ A.ks.length) (h : ∀ i, i < j → (A.fr (A.ks.getD i 0)).d = true) : dk A j = A.ks.take j := by
  unfold dk
  refine List.filter_eq_self.2 fun a ha => ?_
  obtain ⟨i, hi, rfl⟩ := List.getElem_of_mem ha
  have hi2 : i < j := by simp at hi; omega
  have := h i hi2
  rw [List.getElem_take]
  simpa [List.getD, show i < A.ks.length by omega] using this
theorem clean_d {A : Pl} {k : Int} (hk : k ∈ A.ks) : isClean A k = !(A.fr k).d := by simp [isClean, hk]
/-- The row while it is rewritten: the first ones are the dirty ones of the first j; from j on it is as it was. -/
def DSt (A : Pl) (n g j i : Nat) (wr : World) : Prop := ∃ cur, Bx wr g cur 3 ∧ n ≤ cur.size ∧ (∀ k, k < i → cur[k]? = some (.int .i64 ((dk A j).getD k 0))) ∧ ∀ k, j ≤ k → k < n → cur[k]? = some (.int .i64 (A.ks.getD k 0))
theorem DSt.skip {A : Pl} {n g j i : Nat} {wr : World} (h : DSt A n g j i wr) (hn : A.ks.length = n) (hj : j < n) (hd : (A.fr (A.ks.getD j 0)).d = false) : DSt A n g (j + 1) i wr := by
  obtain ⟨cur, h1, h2, h3, h4⟩ := h
  refine ⟨cur, h1, h2, fun k hk => ?_, fun k h5 h6 => h4 k (by omega) h6⟩
  rw [dk_step A (by omega), hd, if_neg (by simp), List.append_nil]
  exact h3 k hk
theorem DSt.keep {A : Pl} {n g j i : Nat} {wr : World} (h : DSt A n g j i wr) (hn : A.ks.length = n) (hj : j < n) (hij : i < j) (hi : i = (dk A j).length) (hd : (A.fr (A.ks.getD j 0)).d = true) : DSt A n g (j + 1) (i + 1) (wr.setCell ⟨g, i, none⟩ (.int .i64 (A.ks.getD j 0))) := by
  obtain ⟨cur, h1, h2, h3, h4⟩ := h
  refine ⟨_, h1.set i _, by simpa using h2, fun k hk => ?_, fun k h5 h6 => ?_⟩
  · rw [dk_step A (by omega), hd, if_pos rfl]
    by_cases he : k = i
    · subst he
      rw [Array.getElem?_setIfInBounds_self_of_lt (by omega)]
      have e9 : (dk A j ++ [A.ks.getD j 0]).getD k 0 = A.ks.getD j 0 := by
        rw [hi]
        simp [List.getD_eq_getElem?_getD]
      rw [e9]
    · rw [Array.getElem?_setIfInBounds_ne (by omega), h3 k (by omega)]
      rw [List.getD_eq_getElem?_getD, List.getD_eq_getElem?_getD, List.getElem?_append_left (by omega)]
  · rw [Array.getElem?_setIfInBounds_ne (by omega)]
    exact h4 k (by omega) h6
section
variable {Ω : Type} {h : Host Ω} {S : Nat → Prop} {p F T : Nat} {bk : Int → Option Nat} {tf : Int → Option (Nat × Nat)} {A : Pl} {w : World}
/-- slices.IndexFunc(ks, p.Clean). -/
theorem index_is (l : List Int) (w : World) (CL : ∀ i, i < l.length → Calls Try.prog 28 #[ptr p, .int .i64 (l.getD i 0)] w fun e w' => e = .returned (.bool (isClean A (l.getD i 0))) ∧ w' = w) (hl : l.length ≤ 16) (Av : Option Addr) (c : Nat)
    (hc : ∀ i, i < l.length → ∃ g, Av = some ⟨g, 0, none⟩ ∧ w.cell? ⟨g, i, none⟩ = some (.int .i64 (l.getD i 0))) :
    Calls Try.prog 50 #[.slice Av l.length c, .func (.func 28) #[ptr p] #[]] w fun e w' => w' = w ∧ ((e = .returned (.int .i64 (-1)) ∧ ∀ k ∈ l, isClean A k = false) ∨ ∃ j, j < l.length ∧ e = .returned (.int .i64 j) ∧ isClean A (l.getD j 0) = true ∧ ∀ i, i < j → isClean A (l.getD i 0) = false) := by
  obtain ⟨n, hn⟩ : ∃ n, l.length = n := ⟨_, rfl⟩
  rw [hn] at CL hl hc ⊢
  have HN := Lib.hid hn
  have HCL := Lib.hid CL
  have HC := Lib.hid hc
  clear CL hc hn
  go_enter Try.func50, Try.ntmps50
  go_wp2_with fail
  go_loopw [8] (fun x wr => ∃ i : Nat, i ≤ n ∧ x = .int .i64 i ∧ wr = w ∧ Hid (∀ k, k < i → isClean A (l.getD k 0) = false)) (fun x _ => n - (intOf x).toNat)
  case atStart => exact ⟨0, Nat.zero_le _, rfl, rfl, Lib.hid (fun k hk => absurd hk (Nat.not_lt_zero _))⟩
  case round =>
    obtain ⟨i, hi, rfl, rfl, hb⟩ := hrel
    have HB := Lib.hid hb.out
    clear hb
    have b0 : (0 : Int) ≤ (i : Int) := by omega
    by_cases hlt : i < n
    · have b1 : (i : Int) < (n : Int) := by omega
      obtain ⟨g, rfl, hci⟩ := HC.out i hlt
      have CI := Lib.hid (HCL.out i hlt)
      obtain ⟨x, hx⟩ : ∃ x, l.getD i 0 = x := ⟨_, rfl⟩
      rw [hx] at hci CI
      have HX := Lib.hid hx
      clear hx
      cases hcl : isClean A x with
      | true =>
        rw [hcl] at CI
        have HT := Lib.hid hcl
        clear hcl
        go_wp2_with fail
        refine CI.out.mono ?_; rintro e w2 ⟨rfl, rfl⟩
        go_wp2_with fail
        go_ret
        exact ⟨rfl, .inr ⟨i, hlt, rfl, by rw [HX.out]; exact HT.out, HB.out⟩⟩
      | false =>
        rw [hcl] at CI
        have HT := Lib.hid hcl
        clear hcl
        go_wp2_with fail
        refine CI.out.mono ?_; rintro e w2 ⟨rfl, rfl⟩
        go_wp2_with fail
        go_roundw
        case rel => exact ⟨i + 1, by omega, by go_num, by first | rfl | trivial, Lib.hid (fun k hk => by
          by_cases he : k = i
          · rw [he, HX.out]; exact HT.out
          · exact HB.out k (by omega))⟩
        case measure => simp [intOf]; omega
    · obtain rfl : i = n := by omega
      go_wp2_with fail
      go_ret
      refine ⟨rfl, .inl ⟨rfl, fun k hk => ?_⟩⟩
      obtain ⟨j, hj, rfl⟩ := List.getElem_of_mem hk
      have := HB.out j (by have := HN.out; omega)
      simpa [List.getD, hj] using this
/-- slices.DeleteFunc(ks, p.Clean). -/
theorem del_is (hp : PM S h.rv h.wv h.lv p F T bk tf A w) (hA : Ok A) {w1 : World} (hw : Below w.heap.size w w1) {v : Value} (ho : OwnI w.heap.size w1 v A.ks) :
    Calls Try.prog 44 #[v, .func (.func 28) #[ptr p] #[]] w1 fun e w' => ∃ v', e = .returned v' ∧ Lst w.heap.size w' v' (dirtyK A) ∧ Below w.heap.size w w' := by
  have CL := Lib.hid (fun (u : World) (hu : Below w.heap.size w u) (k : Int) (hk : k ∈ A.ks) => clean_is (h := h) (hp.below hu) (hA.rg k hk))
  have hl : A.ks.length ≤ 16 := Nat.le_trans hA.len hA.m2
  have GD := Lib.hid (fun (i : Nat) (hi : i < A.ks.length) => show A.ks.getD i 0 ∈ A.ks from by simp [List.getD, hi])
  rcases ho.block with ⟨rfl, h0⟩ | ⟨g, c, cur, rfl, hg, hx, hcap, hcs, hcell⟩
  · have IX := Lib.hid (index_is (p := p) (A := A) [] w1 (fun i hi => by simp at hi) (by simp) none 0 (fun i hi => by simp at hi))
    have HO := Lib.hid ho
    have HW := Lib.hid hw
    have H0 := Lib.hid h0
    clear ho hw hp h0
    go_enter Try.func44, Try.ntmps44
    go_wp2_with fail
    refine IX.out.mono ?_; rintro e w2 ⟨rfl, hx⟩
    obtain rfl : e = .returned (.int .i64 (-1)) := by
      rcases hx with ⟨he, _⟩ | ⟨j, hj, _⟩
      · exact he
      · simp at hj
    go_wp2_with fail
    go_ret
    exact ⟨_, rfl, .inl ⟨rfl, by unfold dirtyK; rw [H0.out]; rfl⟩, HW.out⟩
  · have IX := Lib.hid (index_is (p := p) (A := A) A.ks w1 (fun i hi => CL.out w1 hw _ (GD.out i hi)) hl (some ⟨g, 0, none⟩) c (fun i hi => ⟨g, rfl, (hx.cell i).trans (hcell i hi)⟩))
    obtain ⟨n, hn⟩ : ∃ n, A.ks.length = n := ⟨_, rfl⟩
    rw [hn] at IX GD hcap hcs hcell hl ⊢
    have HN := Lib.hid hn
    have hol := ho.lst
    rw [hn] at hol
    have HO := Lib.hid hol
    clear hol
    have HW := Lib.hid hw
    have HX := Lib.hid hx
    have HCE := Lib.hid hcell
    clear ho hw hp hn hcell hx
    go_enter Try.func44, Try.ntmps44
    go_wp2_with fail
    refine IX.out.mono ?_; rintro e w2 ⟨rfl, hx⟩
    have HIX := Lib.hid hx
    clear hx IX
    rcases HIX.out with ⟨rfl, hall⟩ | ⟨j0, hj0, rfl, hcj, hbe⟩
    · have HD := Lib.hid (show dirtyK A = A.ks from List.filter_eq_self.2 fun k hk => by
        have := hall k hk
        rw [clean_d hk] at this
        simpa using this)
      clear hall HIX
      go_wp2_with fail
      go_ret
      refine ⟨_, rfl, ?_, HW.out⟩
      rw [HD.out]
      exact HO.out
    · have d0 : dk A (j0 + 1) = A.ks.take j0 := by
        have hk := GD.out j0 hj0
        rw [clean_d hk] at hcj
        rw [dk_step A (by rw [HN.out]; exact hj0), if_neg (by simpa using hcj), List.append_nil]
        exact dk_first A (by rw [HN.out]; omega) (fun i hi => by
          have := hbe i hi
          rw [clean_d (GD.out i (by omega))] at this
          simpa using this)
      have hlen : j0 = (dk A (j0 + 1)).length := by rw [d0, List.length_take, HN.out]; omega
      have ST := Lib.hid (show DSt A n g (j0 + 1) j0 w2 from ⟨cur, HX.out, hcs, fun k hk => by
        rw [d0, HCE.out k (by omega)]
        simp [List.getD, List.getElem?_take_of_lt hk], fun k _ h6 => HCE.out k h6⟩)
      have HLEN := Lib.hid hlen
      have hz : ¬ ((j0 : Int) = -1) := by omega
      have bj : (j0 : Int) < 16 := by omega
      clear hcj hbe HIX d0 hlen
      go_wp2_with fail
      go_loopw [5, 6, 7] (fun x y _ wr => ∃ i j : Nat, j ≤ n ∧ i < j ∧ x = .int .i64 i ∧ y = .int .i64 j ∧ Hid (i = (dk A j).length) ∧ Hid (DSt A n g j i wr) ∧ Hid (Below w.heap.size w wr)) (fun _ y _ _ => n - (intOf y).toNat)
      case atStart => exact ⟨j0, j0 + 1, by omega, by omega, rfl, by go_num, HLEN, ST, HW⟩
      case round =>
        obtain ⟨i, j, hj, hij, rfl, rfl, hle, hst, hb⟩ := hrel
        have HB := Lib.hid hb.out
        have HS := Lib.hid hst.out
        have HL := Lib.hid hle.out
        clear hb hst hle ST HLEN HX HCE HW
        have b0 : (0 : Int) ≤ (j : Int) := by omega
        have i0 : (0 : Int) ≤ (i : Int) := by omega
        by_cases hlt : j < n
        · have b1 : (j : Int) < (n : Int) := by omega
          have i1 : (i : Int) < (n : Int) := by omega
          have CJ := Lib.hid (CL.out wr HB.out _ (GD.out j hlt))
          obtain ⟨cu, k1, k2, k3, k4⟩ := HS.out
          have hcj : wr.cell? ⟨g, j, none⟩ = some (.int .i64 (A.ks.getD j 0)) := (k1.cell j).trans (k4 j (Nat.le_refl _) hlt)
          have hfz := k1.free i
          have hci : ∃ old, wr.cell? ⟨g, i, none⟩ = some old := by
            have := k1.cell i
            rw [Array.getElem?_eq_getElem (by omega)] at this
            exact ⟨_, this⟩
          obtain ⟨old, hci⟩ := hci
          clear k1 k2 k3 k4
          have HM := Lib.hid (GD.out j hlt)
          obtain ⟨x, hx⟩ : ∃ x, A.ks.getD j 0 = x := ⟨_, rfl⟩
          rw [hx] at hcj CJ HM
          have HX := Lib.hid hx
          clear hx
          cases hd : (A.fr x).d with
          | true =>
            have e1 : isClean A x = false := by rw [clean_d HM.out, hd]; rfl
            rw [e1] at CJ
            have HDD := Lib.hid hd
            have SN := Lib.hid (HS.out.keep HN.out hlt hij HL.out (by rw [HX.out]; exact HDD.out))
            rw [HX.out] at SN
            have BN := Lib.hid (HB.out.setCell (p := ⟨g, i, none⟩) hg (.int .i64 x))
            clear hd e1
            go_wp2_with fail
            refine CJ.out.mono ?_; rintro e w3 ⟨rfl, rfl⟩
            go_wp2_with fail
            go_roundw
            case rel => exact ⟨_, _, _, _, _, _, _, _, _, _, _, _, _, _, _, _, _, _, _, _, _, _, _, ⟨i + 1, j + 1, by omega, by omega, by go_num, by go_num, Lib.hid (by rw [dk_step A (by rw [HN.out]; exact hlt), HX.out, HDD.out, if_pos rfl, List.length_append, ← HL.out]; rfl), SN, BN⟩, rfl⟩
            case measure => simp [intOf]; omega
          | false =>
            have e1 : isClean A x = true := by rw [clean_d HM.out, hd]; rfl
            rw [e1] at CJ
            have HDD := Lib.hid hd
            clear hd e1
            go_wp2_with fail
            refine CJ.out.mono ?_; rintro e w3 ⟨rfl, rfl⟩
            go_wp2_with fail
            go_roundw
            case rel => exact ⟨_, _, _, _, _, _, _, _, _, _, _, _, _, _, _, _, _, _, _, _, _, _, _, ⟨i, j + 1, by omega, by omega, rfl, by go_num, Lib.hid (by rw [dk_step A (by rw [HN.out]; exact hlt), HX.out, HDD.out, if_neg (by simp), List.append_nil]; exact HL.out), HS.out.skip HN.out hlt (by rw [HX.out]; exact HDD.out), HB⟩, rfl⟩
            case measure => simp [intOf]; omega
        · obtain rfl : j = n := by omega
          obtain ⟨cu, k1, k2, k3, k4⟩ := HS.out
          have hcl : ∀ ty, (Builtin.clear_ #[49] ty #[.slice (some ⟨g, i, none⟩) (j - i) (c - i)]).run Try.prog wr = .ok (.tuple #[]) (wr.setCells g i (List.replicate (j - i) (.int .i64 0))) :=
            fun ty => Lib.run_clear_slice wr _ _ ty _ Try.underlying49 Try.zeroValue3 rfl rfl g i _ _ (by omega) (fun t ht => by rw [k1.cell, Array.getElem?_eq_getElem (by omega)]; rfl) (fun t ht => k1.free _)
          have TC := Lib.hid (Tn.setCells (S := fun k => k = g) g rfl (List.replicate (j - i) (.int .i64 0)) i wr)
          have HO2 := Lib.hid (fun (k : Nat) (hk : k < i) => World.cell?_setCells_out g (List.replicate (j - i) (Value.int .i64 0)) i wr ⟨g, k, none⟩ (fun _ _ => .inl hk))
          have HK3 := Lib.hid (fun (k : Nat) (hk : k < i) => (k1.cell k).trans (k3 k hk))
          have HLT := Lib.hid k1.lt
          clear k1 k2 k3 k4
          go_wp2_with fail
          go_ret
          have TCB := TC.out.below (C := w.heap.size) (Nat.le_trans HB.out.size (Nat.le_refl _)) (fun k hk => by subst hk; exact hg)
          have HDK := dk_all A
          rw [HN.out] at HDK
          rw [HDK] at HK3 HL
          refine ⟨_, rfl, .inr ⟨g, c, ?_, hg, Nat.lt_of_lt_of_le HLT.out TC.out.size, ?_, fun k hk => ?_⟩, HB.out.trans TCB⟩
          · rw [← HL.out]; rfl
          · rw [← HL.out]; omega
          · rw [← HL.out] at hk
            exact (HO2.out k hk).trans (HK3.out k hk)
end
end Go.Proofs.Ytcecfageijkifaa.Po
