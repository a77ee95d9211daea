/- The program's pool: empty; provide. -/
import Derived.Test.YtcecfageijkifaaPi
import Derived.Shelf.Strconv.Clone
import Derived.LoopN
namespace Go.Proofs
open Go.Shelf
def Try.cloL_ren : Go.Shelf.Ren := ⟨fun | 316 => 43 | n => n, fun | 9 => 9 | 3 => 3 | 4 => 4 | 37 => 40 | 0 => 0 | 127 => 83 | 5 => 5 | n => n, fun | n => n⟩
theorem Try.cloL : Go.Proofs.LaysM.n316 Try.prog Try.cloL_ren := {
  mixed := by kernel_rfl
  f316 := Try.func43.trans (congrArg some (by kernel_rfl))
  t0 := Try.underlying0
  a0 := Try.isAgg0
  z0 := Try.sizeOf0
  v0 := Try.zeroValue0
  t3 := Try.underlying3
  a3 := Try.isAgg3
  z3 := Try.sizeOf3
  v3 := Try.zeroValue3
  t4 := Try.underlying4
  a4 := Try.isAgg4
  z4 := Try.sizeOf4
  v4 := Try.zeroValue4
  t9 := Try.underlying9
  a9 := Try.isAgg9
  z9 := Try.sizeOf9
  v9 := Try.zeroValue9
  t37 := Try.underlying40
  a37 := Try.isAgg40
  z37 := Try.sizeOf40
  v37 := Try.zeroValue40
  t127 := Try.underlying83
  a127 := Try.isAgg83
  z127 := Try.sizeOf83
  v127 := Try.zeroValue83
  t5 := Try.underlying5
  a5 := Try.isAgg5
  z5 := Try.sizeOf5
  v5 := Try.zeroValue5
  i0 := by kernel_rfl
  i3 := by kernel_rfl
  i4 := by kernel_rfl
  i5 := by kernel_rfl
  i9 := by kernel_rfl
  i37 := by kernel_rfl
  i127 := by kernel_rfl }
end Go.Proofs
namespace Go.Proofs.Ytcecfageijkifaa.Po
open Go.ChangeShapes Go.WideShapes Go.ChangeAt Go.RowKit
set_option linter.unusedVariables false
set_option linter.unusedSimpArgs false
set_option maxRecDepth 100000
theorem clone_any (s : ByteArray) (hs : s.size ≤ 281474976710656) (w : World) : Calls Try.prog 36 #[.string s] w fun e w' => e = .returned (.string s) ∧ Below w.heap.size w w' := by
  have R := Lib.hid (fun w => Any.stringslite_Clone Try.cloL s w hs)
  go_enter Try.func36, Try.ntmps36
  go_wp2_with (go_at_call 43; refine (R.out _).mono ?_; rintro e w1 ⟨rfl, hb⟩)
  go_ret
  exact ⟨rfl, hb⟩
theorem MapI.tight {α : Type} {R : Value → Option (DW × List MemPlace)} {e : Option α → DW} {w : World} {b n : Nat} {f : Int → Option α} {ks : List Int} (h : MapI R e w b n f) (hn : ks.Nodup) (hi : ∀ k, (f k).isSome = true ↔ k ∈ ks) : MapI R e w b ks.length f := by
  have h0 := h
  obtain ⟨D, h1, h2, h3⟩ := h
  have hp : ks.Perm (intKeys D) := CollectedI.perm (left := fun _ => false) ⟨hn, fun k => by rw [h3]; simpa using (hi k).symm⟩ h1 keyedI Try.underlying3 (fun _ => rfl)
  have hs : Maps.size D = ks.length := by
    obtain ⟨es, rfl⟩ := h1.isMap
    have := hp.length_eq
    simp [intKeys] at this
    exact this.symm
  have h4 := own_tight h1
  rw [hs] at h4
  exact ⟨D, h4, h2, h3⟩
theorem delK_nodup {k : Int} {ks : List Int} (h : ks.Nodup) : (delK k ks).Nodup := h.filter _
section
variable {Ω : Type} {h : Host Ω} {S SP : Nat → Prop} {p F T : Nat} {bk : Int → Option Nat} {tf : Int → Option (Nat × Nat)} {A : Pl} {o : Ω} {w : World}
theorem PM.len {rv wv lv : Value} (hp : PM SP rv wv lv p F T bk tf A w) (hA : Ok A) (ty : TypeId) : (Builtin.len_ #[60] ty #[.map (some F)]).run Try.prog w = .ok (.int .i64 A.ks.length) w := by
  obtain ⟨D, h1, _, h3⟩ := map_perm hp.frm (sorted_nodup hA.srt) hp.iff
  rw [← h3]
  exact h1.len Try.underlying60 ty
theorem PM.drop {rv wv lv : Value} (hp : PM SP rv wv lv p F T bk tf A w) (hA : Ok A) {w' : World} {k : Int} {n : Nat} (g : w.grownBy w' (some F)) (m : MapI Rp eP w' F n (updI bk k none)) : PM SP rv wv lv p F T (updI bk k none) tf (delP A k) w' := by
  have hi : ∀ j, (updI bk k none j).isSome = true ↔ j ∈ delK k A.ks := fun j => by
    rw [mem_delK]
    by_cases hj : j = k
    · subst hj; simp [updI]
    · simp [updI, hj]; exact hp.iff j
  have hb : ∀ j b, updI bk k none j = some b → bk j = some b := fun j b hj => by
    by_cases he : j = k
    · subst he; simp [updI] at hj
    · rwa [updI_other _ _ he] at hj
  exact ⟨hp.box.grown g (fun e => bx_map hp.box hp.frm (by cases e; rfl)), m.tight (delK_nodup (sorted_nodup hA.srt)) hi, hp.tms.grown g (fun e => hp.hFT (by cases e; rfl)), hp.tmf,
    fun j b hj => (hp.fr j b (hb j b hj)).grown g (fun e => bx_map (hp.fr j b (hb j b hj)) hp.frm (by cases e; rfl)), hi, fun j j' b h1 h2 => hp.inj j j' b (hb j b h1) (hb j' b h2), hp.hFT, hp.sp, hp.sF, hp.sT, fun j b hj => hp.sb j b (hb j b hj),
    fun i hi => Nat.lt_of_lt_of_le (hp.lt i hi) g.size⟩
theorem PM.ins {rv wv lv : Value} (hp : PM SP rv wv lv p F T bk tf A w) (hA : Ok A) {w' : World} {k : Int} {n b : Nat} {c : BA} (hk : k ∉ A.ks) (hb : ¬ SP b) (hx : Bx w b (fcs ⟨c, false, 0, 0⟩) 71) (g : w.grownBy w' (some F)) (m : MapI Rp eP w' F n (updI bk k (some b))) :
    PM (fun i => SP i ∨ i = b) rv wv lv p F T (updI bk k (some b)) tf (insP A k c) w' := by
  have hi : ∀ j, (updI bk k (some b) j).isSome = true ↔ j ∈ insK k A.ks := fun j => by
    rw [mem_insK]
    by_cases hj : j = k
    · subst hj; simp [updI]
    · simp [updI, hj]; exact hp.iff j
  refine ⟨hp.box.grown g (fun e => bx_map hp.box hp.frm (by cases e; rfl)), m.tight (sorted_nodup (insK_sorted hA.srt)) hi, hp.tms.grown g (fun e => hp.hFT (by cases e; rfl)), hp.tmf, fun j d hj => ?_, hi, fun j j' d h1 h2 => ?_, hp.hFT, .inl hp.sp, .inl hp.sF, .inl hp.sT, fun j d hj => ?_, fun i hi => ?_⟩
  · by_cases he : j = k
    · subst he
      rw [updI_same] at hj
      cases hj
      show Bx w' b (fcs (upd A.fr j _ j)) _
      rw [upd_same]
      exact hx.grown g (fun e => bx_map hx hp.frm (by cases e; rfl))
    · rw [updI_other _ _ he] at hj
      show Bx w' d (fcs (upd A.fr k _ j)) _
      rw [upd_other _ _ he]
      exact (hp.fr j d hj).grown g (fun e => bx_map (hp.fr j d hj) hp.frm (by cases e; rfl))
  · by_cases e1 : j = k
    · by_cases e2 : j' = k
      · rw [e1, e2]
      · subst e1
        rw [updI_same] at h1
        rw [updI_other _ _ e2] at h2
        cases h1
        exact absurd (hp.sb _ _ h2) hb
    · rw [updI_other _ _ e1] at h1
      by_cases e2 : j' = k
      · subst e2
        rw [updI_same] at h2
        cases h2
        exact absurd (hp.sb _ _ h1) hb
      · rw [updI_other _ _ e2] at h2
        exact hp.inj j j' d h1 h2
  · by_cases he : j = k
    · subst he
      rw [updI_same] at hj
      cases hj
      exact .inr rfl
    · rw [updI_other _ _ he] at hj
      exact .inl (hp.sb j d hj)
  · rcases hi with hi | hi
    · exact Nat.lt_of_lt_of_le (hp.lt i hi) g.size
    · subst hi; exact Nat.lt_of_lt_of_le hx.lt g.size
theorem flush_ok (hA : Ok A) (k : Int) : Ok (flushP h A o k).2.1 := by
  have hc : Ok (cleanP A k) := by
    refine ⟨hA.srt, hA.len, hA.m1, hA.m2, hA.rg, hA.tm, fun j => ?_, fun j => ?_, fun j => ?_⟩
    all_goals
      show _ 
      by_cases hj : j = k
      · subst hj
        simp only [cleanP, upd_same]
        first | exact hA.sz j | exact hA.si j | exact hA.ls j
      · simp only [cleanP, upd_other _ _ hj]
        first | exact hA.sz j | exact hA.si j | exact hA.ls j
  unfold flushP
  split
  · split
    · exact hA
    · split
      · exact hA
      · exact hc
  · exact hA
theorem empty_is (hg : h.Good) (hA : Ok A) {n : Nat} (hok : h.ok o (n + 2)) (hb : Bt h S SP p F T bk tf A o w) {k : Int} (hk : rng k) :
    Calls Try.prog 40 #[ptr p, .int .i64 k] w fun e w' => e = .returned (.int .i64 (emptyP h A o k).1) ∧ ∃ S' bk', Bt h S' SP p F T bk' tf (emptyP h A o k).2.1 (emptyP h A o k).2.2 w' ∧ Ch S S' w w' := by
  have FL := Lib.hid (flush_is hg hA hok hb hk)
  have HA := Lib.hid (flush_ok (h := h) (o := o) hA k)
  have RE := Lib.hid (show emptyP h A o k = if (flushP h A o k).1 ≠ 0 then flushP h A o k else (0, delP (flushP h A o k).2.1 k, (flushP h A o k).2.2) from rfl)
  obtain ⟨R, hR⟩ : ∃ R, emptyP h A o k = R := ⟨_, rfl⟩
  rw [hR] at RE ⊢
  obtain ⟨L, hL⟩ : ∃ L, flushP h A o k = L := ⟨_, rfl⟩
  rw [hL] at FL RE HA
  clear hR hL hA hb
  obtain ⟨le, A1, o1⟩ := L
  go_enter Try.func40, Try.ntmps40
  go_wp2_with fail
  refine FL.out.mono ?_; rintro e w1 ⟨rfl, S1, hb1, c1⟩
  have B1 := Lib.hid hb1
  have C1 := Lib.hid c1
  clear hb1 c1 FL
  by_cases hle : le = 0
  · subst hle
    have c4 := B1.out.1.cells.2.2.2.2.1
    obtain ⟨w2, q1, q2, q3⟩ := B1.out.1.frm.drop Try.underlying60 hk 0
    have PD := Lib.hid (B1.out.1.drop HA.out q3 q2)
    have TD := Lib.hid (Tn.of_grown (S := SP) q3 (fun i hi => by cases hi; exact B1.out.1.sF))
    clear q2 q3
    go_wp2_with fail
    go_ret
    have e1 : R = (0, delP A1 k, o1) := by rw [RE.out]; rfl
    rw [e1]
    obtain ⟨S2, hb2, c2⟩ := B1.out.own hg PD.out TD.out (.refl SP w1)
    exact ⟨rfl, S2, _, hb2, C1.out.trans c2⟩
  · have hz : ¬ ((le : Int) = 0) := by omega
    go_wp2_with fail
    go_ret
    have e1 : R = (le, A1, o1) := by rw [RE.out, if_pos hle]
    rw [e1]
    exact ⟨rfl, S1, _, B1.out, C1.out⟩
end
end Go.Proofs.Ytcecfageijkifaa.Po
