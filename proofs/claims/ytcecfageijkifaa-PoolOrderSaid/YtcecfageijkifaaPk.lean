/- The program's pool: provide. -/
import Derived.Test.YtcecfageijkifaaPj
import Derived.LoopN
import Derived.Deep.QuietTactic
namespace Go.Proofs.Ytcecfageijkifaa.Po
open Go.ChangeShapes Go.WideShapes Go.ChangeAt Go.RowKit
set_option linter.unusedVariables false
set_option linter.unusedSimpArgs false
set_option maxRecDepth 100000
section
variable {Ω : Type} {h : Host Ω} {S SP : Nat → Prop} {p F T : Nat} {bk : Int → Option Nat} {tf : Int → Option (Nat × Nat)} {A : Pl} {o : Ω} {w : World}
theorem ins_ok (hA : Ok A) {k : Int} (hk : rng k) (hl : A.ks.length < A.most) (hn : k ∉ A.ks) {c : BA} (hc : c.length ≤ 1099511627776) : Ok (insP A k c) := by
  refine ⟨insK_sorted hA.srt, ?_, hA.m1, hA.m2, fun j hj => ?_, hA.tm, fun j => ?_, fun j => ?_, fun j => ?_⟩
  · show (insK k A.ks).length ≤ A.most
    rw [insK_length hn]; omega
  · rcases mem_insK.1 hj with rfl | hj
    · exact hk
    · exact hA.rg j hj
  all_goals
    by_cases hj : j = k
    · subst hj
      simp only [insP, upd_same]
      first | exact hc | exact ⟨by decide, by decide⟩
    · simp only [insP, upd_other _ _ hj]
      first | exact hA.sz j | exact hA.si j | exact hA.ls j
theorem del_ok (hA : Ok A) (k : Int) : Ok (delP A k) :=
  ⟨delK_sorted hA.srt, Nat.le_trans (List.length_filter_le _ _) hA.len, hA.m1, hA.m2, fun j hj => hA.rg j (mem_delK.1 hj).1, hA.tm, hA.sz, hA.si, hA.ls⟩
theorem flush_ks (k : Int) : (flushP h A o k).2.1.ks = A.ks ∧ (flushP h A o k).2.1.most = A.most ∧ (flushP h A o k).2.1.acc = A.acc ∧ (flushP h A o k).2.1.tm = A.tm := by
  unfold flushP
  split
  · split
    · exact ⟨rfl, rfl, rfl, rfl⟩
    · split
      · exact ⟨rfl, rfl, rfl, rfl⟩
      · exact ⟨rfl, rfl, rfl, rfl⟩
  · exact ⟨rfl, rfl, rfl, rfl⟩
theorem below_dN (w : World) (n : Nat) : Below w.heap.size w (w.drewN n) := ⟨rfl, rfl, rfl, Nat.le_refl _, fun _ _ => rfl⟩
set_option maxHeartbeats 4000000 in
theorem prov_is (hg : h.Good) (hA : Ok A) {n : Nat} (hok : h.ok o (n + 2)) (hb : Bt h S SP p F T bk tf A o w) {k : Int} (hk : rng k) {c : BA} (hc : c.length ≤ 1099511627776) :
    Calls Try.prog 34 #[ptr p, .int .i64 k, .string (str c)] w fun e w' => ∃ vf, e = .returned (.tuple #[vf, .int .i64 (provP h A o k c).1]) ∧ ∃ S' SP' bk', Bt h S' SP' p F T bk' tf (provP h A o k c).2.1 (provP h A o k c).2.2 w' ∧ Ch S S' w w' ∧ ((provP h A o k c).1 = 0 → vf = vP (bk' k)) := by
  have B := Lib.hid hb
  have HAW := Lib.hid hA
  have RE0 := Lib.hid (show provP h A o k c = if k ∈ A.ks then (0, A, o) else if A.ks.length < A.most then (0, insP A k c, o) else if (emptyP h A o (victim A)).1 ≠ 0 then emptyP h A o (victim A) else (0, insP (emptyP h A o (victim A)).2.1 k c, (emptyP h A o (victim A)).2.2) from rfl)
  obtain ⟨R, hR⟩ : ∃ R, provP h A o k c = R := ⟨_, rfl⟩
  rw [hR] at RE0 ⊢
  have CLN := Lib.hid (fun (u : World) => clone_any (str c) (by rw [str_size]; omega) u)
  clear hR hb hA
  by_cases hkn : k ∈ A.ks
  · have RE := Lib.hid (show R = (0, A, o) from by rw [RE0.out, if_pos hkn])
    obtain ⟨b, hbn⟩ : ∃ b, bk k = some b := by
      have := (B.out.1.iff k).2 hkn
      cases hq : bk k with
      | none => rw [hq] at this; cases this
      | some b => exact ⟨b, rfl⟩
    obtain ⟨b0, b1, b2, b3, b4, b5, b6⟩ := B.out.1.cells
    have lkd := fun n : Nat => (PM.below B.out.1 (below_dN w n)).look hk
    rw [hbn] at lkd
    simp only [vP] at lkd
    have HBN := Lib.hid hbn
    have BQ := Lib.hid (fun n : Nat => B.out.keep hg (Tn.of_below (S := fun _ => False) (below_dN w n)) (fun i hi hf => hf))
    have CQ := Lib.hid (fun n : Nat => show Ch S S w (World.drewN w n) from ⟨Tn.of_below (below_dN w n), Nw.refl _ _⟩)
    clear hkn hbn RE0
    go_enter Try.func34, Try.ntmps34
    go_wp2_with fail
    refine wp_loop_rounds 3 ?_
    rw [rounds_succ]
    go_upto_region 1 with fail
    go_quiet (fail)
    generalize hwq : World.drewN w _ = W2
    obtain ⟨nq, hnq⟩ : ∃ n, World.drewN w n = W2 := ⟨_, hwq⟩
    have b2' := BQ.out nq
    have c2' := CQ.out nq
    rw [hnq] at b2' c2'
    have B2 := Lib.hid b2'
    have C2 := Lib.hid c2'
    clear hwq hnq b2' c2' BQ CQ lkd b0 b1 b2 b3 b4 b5 b6
    obtain ⟨b0, b1, b2, b3, b4, b5, b6⟩ := B2.out.1.cells
    have lk := B2.out.1.look hk
    rw [HBN.out] at lk
    simp only [vP] at lk
    clear b0 b1 b2 b3 b5 b6
    go_wp2_with fail
    go_ret2
    rw [RE.out]
    exact ⟨_, rfl, S, SP, bk, B2.out, C2.out, fun _ => by rw [HBN.out]; rfl⟩
  · have HN := Lib.hid hkn
    clear hkn
    by_cases hlt : A.ks.length < A.most
    · have RE := Lib.hid (show R = (0, insP A k c, o) from by rw [RE0.out, if_neg HN.out, if_pos hlt])
      have HLT := Lib.hid hlt
      clear hlt RE0
      obtain ⟨bkW, hbw⟩ : ∃ b, b = bk := ⟨_, rfl⟩
      rw [← hbw] at B
      clear hbw
      obtain ⟨SW, hsw⟩ : ∃ s, s = S := ⟨_, rfl⟩
      rw [← hsw] at B
      obtain ⟨SPW, hspw⟩ : ∃ s, s = SP := ⟨_, rfl⟩
      rw [← hspw] at B
      clear hspw
      have CH := Lib.hid (show Ch S SW w w from by rw [hsw]; exact .refl _ _)
      clear hsw
      go_enter Try.func34, Try.ntmps34
      go_wp2_with fail
      refine wp_loop_rounds 3 ?_
      rw [rounds_succ]
      go_upto_region 1 with fail
      obtain ⟨b0, b1, b2, b3, b4, b5, b6⟩ := B.out.1.cells
      have hbn : bkW k = none := by
        cases hq : bkW k with
        | none => rfl
        | some b => exact absurd ((B.out.1.iff k).1 (by rw [hq]; rfl)) HN.out
      have lk := B.out.1.look hk
      rw [hbn] at lk
      simp only [vP] at lk
      have ln := B.out.1.len HAW.out
      have lkd := fun n : Nat => (PM.below B.out.1 (below_dN w n)).look hk
      rw [hbn] at lkd
      simp only [vP] at lkd
      have lnd := fun (n : Nat) => (PM.below B.out.1 (below_dN w n)).len HAW.out
      have hroom : ¬ ((A.most : Int) ≤ (A.ks.length : Int)) := by have := HLT.out; omega
      have BQ := Lib.hid (fun n : Nat => B.out.keep hg (Tn.of_below (S := fun _ => False) (below_dN w n)) (fun i hi hf => hf))
      have CQ := Lib.hid (fun n : Nat => show Ch SW SW w (World.drewN w n) from ⟨Tn.of_below (below_dN w n), Nw.refl _ _⟩)
      go_quiet (fail)
      generalize hwq : World.drewN w _ = W2
      obtain ⟨nq, hnq⟩ : ∃ n, World.drewN w n = W2 := ⟨_, hwq⟩
      have b2' := BQ.out nq
      have c2' := CH.out.trans (CQ.out nq)
      rw [hnq] at b2' c2'
      have B2 := Lib.hid b2'
      have C2 := Lib.hid c2'
      clear hwq hnq b2' c2' BQ CQ lkd lnd lk ln b0 b1 b2 b3 b4 b5 b6 hroom
      obtain ⟨b0, b1, b2, b3, b4, b5, b6⟩ := B2.out.1.cells
      have lk := B2.out.1.look hk
      rw [hbn] at lk
      simp only [vP] at lk
      clear b0 b1 b2 b3 b5 b6
      have hc4 := fun (u : World) (hu : Below W2.heap.size W2 u) => show u.cell? ⟨p, 4, none⟩ = some (.map (some F)) from (B2.out.1.box.held hu).cell 4
      go_upto_region 6 with fail
      refine wp_region_noPanic ?_
      refine wp_region_held_drew (S := fun u : World => u.cell? ⟨p, 4, none⟩ = some (.map (some F))) (by kernel_rfl) ?_ (fun hHeld => ?_)
      · exact hc4 _ (Below.refl _ _).drew
      refine wpAnyH_take (i := 0) (oi := { dst := some 45, op := Op.move (Operand.tmp 0), type := 29, pos := "pool.go:164", after := #[], guard := none }) (v := ptr p) rfl (by kernel_rfl) (by kernel_rfl) (by kernel_rfl) (fun _ _ _ h => h) (Or.inl ⟨by rfl, fun w' hSw => by ((try dsimp only at hSw); go_simp)⟩) (by assumption) ?_
      (try simp only [Act.put, List.setIfInBounds_toArray, List.set_cons_zero, List.set_cons_succ])
      refine wpAnyH_take (i := 1) (oi := { dst := some 46, op := Op.nilCheck (Operand.tmp 45), type := 0, pos := "pool.go:164", after := #[{ on := 0, ground := Ground.data }], guard := none }) (v := .pointer (some ⟨p, 0, none⟩)) rfl (by kernel_rfl) (by kernel_rfl) (by kernel_rfl) (fun _ _ _ h => h) (Or.inl ⟨by rfl, fun w' hSw => by ((try dsimp only at hSw); go_simp)⟩) (by assumption) ?_
      (try simp only [Act.put, List.setIfInBounds_toArray, List.set_cons_zero, List.set_cons_succ])
      refine wpAnyH_take (i := 2) (oi := { dst := some 47, op := Op.fieldAddr 63 (Operand.tmp 46) 4, type := 0, pos := "pool.go:164", after := #[{ on := 1, ground := Ground.data }], guard := none }) (v := .pointer (some ⟨p, 4, none⟩)) rfl (by kernel_rfl) (by kernel_rfl) (by kernel_rfl) (fun _ _ _ h => h) (Or.inl ⟨by rfl, fun w' hSw => by ((try dsimp only at hSw); go_simp)⟩) (by assumption) ?_
      (try simp only [Act.put, List.setIfInBounds_toArray, List.set_cons_zero, List.set_cons_succ])
      refine wpAnyH_take (i := 3) (oi := { dst := some 48, op := Op.load 60 (Operand.tmp 47), type := 60, pos := "pool.go:164", after := #[{ on := 2, ground := Ground.data }], guard := none }) (v := .map (some F)) rfl (by kernel_rfl) (by kernel_rfl) (by kernel_rfl) (fun _ _ _ h => h) (Or.inl ⟨by rfl, fun w' hSw => by ((try dsimp only at hSw); have hcell := hSw; go_simp)⟩) (by assumption) ?_
      (try simp only [Act.put, List.setIfInBounds_toArray, List.set_cons_zero, List.set_cons_succ])
      refine wpAnyH_take (i := 4) (oi := { dst := some 49, op := Op.move (Operand.tmp 1), type := 3, pos := "pool.go:164", after := #[], guard := none }) (v := .int .i64 k) rfl (by kernel_rfl) (by kernel_rfl) (by kernel_rfl) (fun _ _ _ h => h) (Or.inl ⟨by rfl, fun w' hSw => by ((try dsimp only at hSw); go_simp)⟩) (by assumption) ?_
      (try simp only [Act.put, List.setIfInBounds_toArray, List.set_cons_zero, List.set_cons_succ])
      refine wpAnyH_take (i := 5) (oi := { dst := some 50, op := Op.move (Operand.tmp 2), type := 9, pos := "pool.go:164", after := #[], guard := none }) (v := .string (str c)) rfl (by kernel_rfl) (by kernel_rfl) (by kernel_rfl) (fun _ _ _ h => h) (Or.inl ⟨by rfl, fun w' hSw => by ((try dsimp only at hSw); go_simp)⟩) (by assumption) ?_
      (try simp only [Act.put, List.setIfInBounds_toArray, List.set_cons_zero, List.set_cons_succ])
      refine wpAnyH_ready (rs := [6]) (by kernel_rfl) (by simp) ?_
      refine AllReadyH.cons (o := { dst := some 51, op := Op.call { callee := Callee.value (Operand.func 36), args := #[Operand.tmp 50], argTypes := #[9] }, type := 9, pos := "pool.go:164", after := #[{ on := 5, ground := Ground.data }], guard := none }) rfl (fun K hK => ?_) ?_
      · go_simp; go_at_call 36; refine (CLN.out _).mono ?_; rintro e u1 ⟨rfl, hb1⟩
        refine hK.out _ _ ?_ (fun hHeld => ?_)
        · exact hc4 _ ((Below.refl _ _).drew.trans hb1)
        clear hK K
        (try simp only [Act.put, List.setIfInBounds_toArray, List.set_cons_zero, List.set_cons_succ])
        have hH1 : Below W2.heap.size W2 u1 := (Below.refl _ _).drew.trans hb1
        refine wpAnyH_take (i := 7) (oi := { dst := some 52, op := Op.build 71 #[(0, Operand.tmp 51)], type := 71, pos := "pool.go:164", after := #[{ on := 6, ground := Ground.data }], guard := none }) (v := .agg #[.string (str c), .bool false, .int .i64 0, .int .i64 0]) rfl (by kernel_rfl) (by kernel_rfl) (by kernel_rfl) (fun _ _ _ h => h) (Or.inl ⟨by rfl, fun w' hSw => by ((try dsimp only at hSw); go_simp)⟩) (by assumption) ?_
        (try simp only [Act.put, List.setIfInBounds_toArray, List.set_cons_zero, List.set_cons_succ])
        refine wpAnyH_ready (rs := [8]) (by kernel_rfl) (by simp) ?_
        refine AllReadyH.cons (o := { dst := some 53, op := Op.box 71 (Operand.tmp 52), type := 65, pos := "pool.go:164", after := #[{ on := 7, ground := Ground.data }], guard := none }) rfl (fun K hK => ?_) ?_
        · go_simp
          refine hK.out _ _ ?_ (fun hHeld => ?_)
          · exact hc4 _ (hH1.alloc hH1.size _)
          clear hK K
          (try simp only [Act.put, List.setIfInBounds_toArray, List.set_cons_zero, List.set_cons_succ])
          have hHA := hH1.alloc hH1.size (.cells #[.string (str c), .bool false, .int .i64 0, .int .i64 0] 71)
          have X := Lib.hid (show Bx (u1.alloc (.cells #[.string (str c), .bool false, .int .i64 0, .int .i64 0] 71)) u1.heap.size (fcs ⟨c, false, 0, 0⟩) 71 from Bx.new u1 #[.string (str c), .bool false, .int .i64 0, .int .i64 0] 71)
          have PX := Lib.hid (PM.below B2.out.1 hHA)
          obtain ⟨w3, q1, q2, q3⟩ := PX.out.frm.put Try.underlying60 (by have := HAW.out.len; have := HAW.out.m2; unfold maxLen; omega) hk (val := ptr u1.heap.size) (x := u1.heap.size) rfl
          have PI := Lib.hid (PX.out.ins HAW.out HN.out (fun hs => by have := B2.out.1.lt _ hs; have := hH1.size; omega) X.out q3 q2)
          have TA := Lib.hid ((Tn.of_below (S := SPW) hHA).trans (Tn.of_grown q3 (fun i hi => by cases hi; exact B2.out.1.sF)))
          have HSZ := Lib.hid hH1.size
          obtain ⟨S3, b3', c3'⟩ := B2.out.own hg PI.out TA.out (fun i hi => by rcases hi with hi | hi; exact .inl hi; subst hi; exact .inr HSZ.out)
          have B3 := Lib.hid b3'
          have C3 := Lib.hid (C2.out.trans c3')
          clear q2 q3 X PX PI TA b3' c3' hHA hH1
          refine wpAnyH_ready (rs := [9]) (by kernel_rfl) (by simp) ?_
          refine AllReadyH.cons (o := { dst := none, op := Op.mapUpdate 60 (Operand.tmp 48) (Operand.tmp 49) (Operand.tmp 53), type := 0, pos := "pool.go:164", after := #[{ on := 3, ground := Ground.data }, { on := 4, ground := Ground.data }, { on := 8, ground := Ground.data }, { on := 6, ground := Ground.chain }, { on := 0, ground := Ground.phase }, { on := 1, ground := Ground.phase }, { on := 2, ground := Ground.phase }, { on := 3, ground := Ground.phase }, { on := 4, ground := Ground.phase }, { on := 5, ground := Ground.phase }, { on := 6, ground := Ground.phase }, { on := 7, ground := Ground.phase }, { on := 8, ground := Ground.phase }], guard := none }) rfl (fun K hK => ?_) ?_
          · go_simp
            refine hK.out _ _ ?_ (fun hHeld => ?_)
            · exact B3.out.1.box.cell 4
            clear hK K
            (try simp only [Act.put, List.setIfInBounds_toArray, List.set_cons_zero, List.set_cons_succ])
            refine wpAnyH_done (by kernel_rfl) ?_ _
            refine NoPanic.normal ?_
            have l3 := B3.out.1.look hk
            rw [updI_same] at l3
            simp only [vP] at l3
            have e4 := B3.out.1.cells.2.2.2.2.1
            clear hHeld
            go_wp2_with fail
            go_ret2
            rw [RE.out]
            exact ⟨_, rfl, S3, _, _, B3.out, C3.out, fun _ => by rw [updI_same]; rfl⟩
          exact AllReadyH.nil
        exact AllReadyH.nil
      exact AllReadyH.nil
    · have RE1 := Lib.hid (show R = if (emptyP h A o (victim A)).1 ≠ 0 then emptyP h A o (victim A) else (0, insP (emptyP h A o (victim A)).2.1 k c, (emptyP h A o (victim A)).2.2) from by rw [RE0.out, if_neg HN.out, if_neg hlt])
      have hne : A.ks ≠ [] := fun h0 => hlt (by rw [h0]; exact HAW.out.m1)
      have HVM := Lib.hid (victim_mem A hne)
      have HRV := Lib.hid (HAW.out.rg _ HVM.out)
      have HNE := Lib.hid hne
      have HL1 := Lib.hid (show ∀ A1 o1, emptyP h A o (victim A) = (0, A1, o1) → Ok A1 ∧ k ∉ A1.ks ∧ A1.ks.length < A1.most from fun A1 o1 he => by
        unfold emptyP at he
        obtain ⟨f1, f2, f3, f4⟩ := flush_ks (h := h) (A := A) (o := o) (victim A)
        have hok1 := flush_ok (h := h) (o := o) HAW.out (victim A)
        split at he
        · rename_i hq
          rw [he] at hq
          exact absurd rfl hq
        · simp only [Prod.mk.injEq] at he
          obtain ⟨_, rfl, _⟩ := he
          refine ⟨del_ok hok1 _, fun hm => HN.out ?_, ?_⟩
          · rw [← f1]; exact (mem_delK.1 hm).1
          · have := delK_length hok1.srt (k := victim A) (by rw [f1]; exact HVM.out)
            have h2 := HAW.out.len
            show (delK (victim A) _).length < (flushP h A o (victim A)).2.1.most
            rw [f1] at this ⊢
            rw [f2]
            omega)
      obtain ⟨b0, b1, b2, b3, b4, b5, b6⟩ := B.out.1.cells
      have hbn : bk k = none := by
        cases hq : bk k with
        | none => rfl
        | some b => exact absurd ((B.out.1.iff k).1 (by rw [hq]; rfl)) HN.out
      have lkd := fun n : Nat => (PM.below B.out.1 (below_dN w n)).look hk
      rw [hbn] at lkd
      simp only [vP] at lkd
      have lnd := fun (n : Nat) => (PM.below B.out.1 (below_dN w n)).len HAW.out
      have hroom : (A.most : Int) ≤ (A.ks.length : Int) := by omega
      have BQ := Lib.hid (fun n : Nat => B.out.keep hg (Tn.of_below (S := fun _ => False) (below_dN w n)) (fun i hi hf => hf))
      have CQ := Lib.hid (fun n : Nat => show Ch S S w (World.drewN w n) from ⟨Tn.of_below (below_dN w n), Nw.refl _ _⟩)
      clear hlt hne RE0
      go_enter Try.func34, Try.ntmps34
      go_wp2_with fail
      refine wp_loop_rounds 3 ?_
      rw [rounds_succ]
      go_upto_region 1 with fail
      go_quiet (fail)
      generalize hwq : World.drewN w _ = W2
      obtain ⟨nq, hnq⟩ : ∃ n, World.drewN w n = W2 := ⟨_, hwq⟩
      have b2' := BQ.out nq
      have c2' := CQ.out nq
      rw [hnq] at b2' c2'
      have B2 := Lib.hid b2'
      have C2 := Lib.hid c2'
      clear hwq hnq b2' c2' BQ CQ lkd lnd hroom hbn b0 b1 b2 b3 b4 b5 b6
      go_wp2_with fail
      refine (has_is B2.out.1 HAW.out).mono ?_; rintro e w3 ⟨v, rfl, ho, hb3⟩
      have B3 := Lib.hid (B2.out.keep hg (Tn.of_below (S := fun _ => False) hb3) (fun i hi hf => hf))
      have C3 := Lib.hid (C2.out.trans ⟨Tn.of_below hb3, Nw.refl _ _⟩)
      have HO := Lib.hid ho
      clear ho hb3 B2 C2
      go_wp2_with fail
      refine (min_is (h := h) B3.out.1 HAW.out HO.out HNE.out).mono ?_; rintro e w4 ⟨rfl, hb4⟩
      have B4 := Lib.hid (B3.out.keep hg (Tn.of_below (S := fun _ => False) hb4) (fun i hi hf => hf))
      have C4 := Lib.hid (C3.out.trans ⟨Tn.of_below hb4, Nw.refl _ _⟩)
      clear hb4 B3 C3 HO
      have EM := Lib.hid (empty_is hg HAW.out hok B4.out HRV.out)
      obtain ⟨L, hL⟩ : ∃ L, emptyP h A o (victim A) = L := ⟨_, rfl⟩
      rw [hL] at EM RE1 HL1
      clear hL
      obtain ⟨le, A1, o1⟩ := L
      go_wp2_with fail
      refine EM.out.mono ?_; rintro e w5 ⟨rfl, S5, bkW, hb5, c5⟩
      have B := Lib.hid hb5
      have CH := Lib.hid (C4.out.trans c5)
      clear hb5 c5 EM B4 C4
      obtain ⟨SW, hsw⟩ : ∃ s, s = S5 := ⟨_, rfl⟩
      rw [← hsw] at B CH
      clear hsw
      obtain ⟨SPW, hspw⟩ : ∃ s, s = SP := ⟨_, rfl⟩
      rw [← hspw] at B
      clear hspw
      by_cases hle : le = 0
      · subst hle
        obtain ⟨k1, k2, k3⟩ := HL1.out A1 o1 rfl
        have HAW := Lib.hid k1
        have HN := Lib.hid k2
        have HLT := Lib.hid k3
        have RE := Lib.hid (show R = (0, insP A1 k c, o1) from by rw [RE1.out]; rfl)
        clear k1 k2 k3 HL1 RE1
        go_wp2_with fail
        rw [rounds_succ]
        go_upto_region 1 with fail
        obtain ⟨b0, b1, b2, b3, b4, b5, b6⟩ := B.out.1.cells
        have hbn : bkW k = none := by
          cases hq : bkW k with
          | none => rfl
          | some b => exact absurd ((B.out.1.iff k).1 (by rw [hq]; rfl)) HN.out
        have lk := B.out.1.look hk
        rw [hbn] at lk
        simp only [vP] at lk
        have ln := B.out.1.len HAW.out
        have lkd := fun n : Nat => (PM.below B.out.1 (below_dN w5 n)).look hk
        rw [hbn] at lkd
        simp only [vP] at lkd
        have lnd := fun (n : Nat) => (PM.below B.out.1 (below_dN w5 n)).len HAW.out
        have hroom : ¬ ((A1.most : Int) ≤ (A1.ks.length : Int)) := by have := HLT.out; omega
        have BQ := Lib.hid (fun n : Nat => B.out.keep hg (Tn.of_below (S := fun _ => False) (below_dN w5 n)) (fun i hi hf => hf))
        have CQ := Lib.hid (fun n : Nat => show Ch SW SW w5 (World.drewN w5 n) from ⟨Tn.of_below (below_dN w5 n), Nw.refl _ _⟩)
        go_quiet (fail)
        generalize hwq : World.drewN w5 _ = W2
        obtain ⟨nq, hnq⟩ : ∃ n, World.drewN w5 n = W2 := ⟨_, hwq⟩
        have b2' := BQ.out nq
        have c2' := CH.out.trans (CQ.out nq)
        rw [hnq] at b2' c2'
        have B2 := Lib.hid b2'
        have C2 := Lib.hid c2'
        clear hwq hnq b2' c2' BQ CQ lkd lnd lk ln b0 b1 b2 b3 b4 b5 b6 hroom
        obtain ⟨b0, b1, b2, b3, b4, b5, b6⟩ := B2.out.1.cells
        have lk := B2.out.1.look hk
        rw [hbn] at lk
        simp only [vP] at lk
        clear b0 b1 b2 b3 b5 b6
        have hc4 := fun (u : World) (hu : Below W2.heap.size W2 u) => show u.cell? ⟨p, 4, none⟩ = some (.map (some F)) from (B2.out.1.box.held hu).cell 4
        go_upto_region 6 with fail
        refine wp_region_noPanic ?_
        refine wp_region_held_drew (S := fun u : World => u.cell? ⟨p, 4, none⟩ = some (.map (some F))) (by kernel_rfl) ?_ (fun hHeld => ?_)
        · exact hc4 _ (Below.refl _ _).drew
        refine wpAnyH_take (i := 0) (oi := { dst := some 45, op := Op.move (Operand.tmp 0), type := 29, pos := "pool.go:164", after := #[], guard := none }) (v := ptr p) rfl (by kernel_rfl) (by kernel_rfl) (by kernel_rfl) (fun _ _ _ h => h) (Or.inl ⟨by rfl, fun w' hSw => by ((try dsimp only at hSw); go_simp)⟩) (by assumption) ?_
        (try simp only [Act.put, List.setIfInBounds_toArray, List.set_cons_zero, List.set_cons_succ])
        refine wpAnyH_take (i := 1) (oi := { dst := some 46, op := Op.nilCheck (Operand.tmp 45), type := 0, pos := "pool.go:164", after := #[{ on := 0, ground := Ground.data }], guard := none }) (v := .pointer (some ⟨p, 0, none⟩)) rfl (by kernel_rfl) (by kernel_rfl) (by kernel_rfl) (fun _ _ _ h => h) (Or.inl ⟨by rfl, fun w' hSw => by ((try dsimp only at hSw); go_simp)⟩) (by assumption) ?_
        (try simp only [Act.put, List.setIfInBounds_toArray, List.set_cons_zero, List.set_cons_succ])
        refine wpAnyH_take (i := 2) (oi := { dst := some 47, op := Op.fieldAddr 63 (Operand.tmp 46) 4, type := 0, pos := "pool.go:164", after := #[{ on := 1, ground := Ground.data }], guard := none }) (v := .pointer (some ⟨p, 4, none⟩)) rfl (by kernel_rfl) (by kernel_rfl) (by kernel_rfl) (fun _ _ _ h => h) (Or.inl ⟨by rfl, fun w' hSw => by ((try dsimp only at hSw); go_simp)⟩) (by assumption) ?_
        (try simp only [Act.put, List.setIfInBounds_toArray, List.set_cons_zero, List.set_cons_succ])
        refine wpAnyH_take (i := 3) (oi := { dst := some 48, op := Op.load 60 (Operand.tmp 47), type := 60, pos := "pool.go:164", after := #[{ on := 2, ground := Ground.data }], guard := none }) (v := .map (some F)) rfl (by kernel_rfl) (by kernel_rfl) (by kernel_rfl) (fun _ _ _ h => h) (Or.inl ⟨by rfl, fun w' hSw => by ((try dsimp only at hSw); have hcell := hSw; go_simp)⟩) (by assumption) ?_
        (try simp only [Act.put, List.setIfInBounds_toArray, List.set_cons_zero, List.set_cons_succ])
        refine wpAnyH_take (i := 4) (oi := { dst := some 49, op := Op.move (Operand.tmp 1), type := 3, pos := "pool.go:164", after := #[], guard := none }) (v := .int .i64 k) rfl (by kernel_rfl) (by kernel_rfl) (by kernel_rfl) (fun _ _ _ h => h) (Or.inl ⟨by rfl, fun w' hSw => by ((try dsimp only at hSw); go_simp)⟩) (by assumption) ?_
        (try simp only [Act.put, List.setIfInBounds_toArray, List.set_cons_zero, List.set_cons_succ])
        refine wpAnyH_take (i := 5) (oi := { dst := some 50, op := Op.move (Operand.tmp 2), type := 9, pos := "pool.go:164", after := #[], guard := none }) (v := .string (str c)) rfl (by kernel_rfl) (by kernel_rfl) (by kernel_rfl) (fun _ _ _ h => h) (Or.inl ⟨by rfl, fun w' hSw => by ((try dsimp only at hSw); go_simp)⟩) (by assumption) ?_
        (try simp only [Act.put, List.setIfInBounds_toArray, List.set_cons_zero, List.set_cons_succ])
        refine wpAnyH_ready (rs := [6]) (by kernel_rfl) (by simp) ?_
        refine AllReadyH.cons (o := { dst := some 51, op := Op.call { callee := Callee.value (Operand.func 36), args := #[Operand.tmp 50], argTypes := #[9] }, type := 9, pos := "pool.go:164", after := #[{ on := 5, ground := Ground.data }], guard := none }) rfl (fun K hK => ?_) ?_
        · go_simp; go_at_call 36; refine (CLN.out _).mono ?_; rintro e u1 ⟨rfl, hb1⟩
          refine hK.out _ _ ?_ (fun hHeld => ?_)
          · exact hc4 _ ((Below.refl _ _).drew.trans hb1)
          clear hK K
          (try simp only [Act.put, List.setIfInBounds_toArray, List.set_cons_zero, List.set_cons_succ])
          have hH1 : Below W2.heap.size W2 u1 := (Below.refl _ _).drew.trans hb1
          refine wpAnyH_take (i := 7) (oi := { dst := some 52, op := Op.build 71 #[(0, Operand.tmp 51)], type := 71, pos := "pool.go:164", after := #[{ on := 6, ground := Ground.data }], guard := none }) (v := .agg #[.string (str c), .bool false, .int .i64 0, .int .i64 0]) rfl (by kernel_rfl) (by kernel_rfl) (by kernel_rfl) (fun _ _ _ h => h) (Or.inl ⟨by rfl, fun w' hSw => by ((try dsimp only at hSw); go_simp)⟩) (by assumption) ?_
          (try simp only [Act.put, List.setIfInBounds_toArray, List.set_cons_zero, List.set_cons_succ])
          refine wpAnyH_ready (rs := [8]) (by kernel_rfl) (by simp) ?_
          refine AllReadyH.cons (o := { dst := some 53, op := Op.box 71 (Operand.tmp 52), type := 65, pos := "pool.go:164", after := #[{ on := 7, ground := Ground.data }], guard := none }) rfl (fun K hK => ?_) ?_
          · go_simp
            refine hK.out _ _ ?_ (fun hHeld => ?_)
            · exact hc4 _ (hH1.alloc hH1.size _)
            clear hK K
            (try simp only [Act.put, List.setIfInBounds_toArray, List.set_cons_zero, List.set_cons_succ])
            have hHA := hH1.alloc hH1.size (.cells #[.string (str c), .bool false, .int .i64 0, .int .i64 0] 71)
            have X := Lib.hid (show Bx (u1.alloc (.cells #[.string (str c), .bool false, .int .i64 0, .int .i64 0] 71)) u1.heap.size (fcs ⟨c, false, 0, 0⟩) 71 from Bx.new u1 #[.string (str c), .bool false, .int .i64 0, .int .i64 0] 71)
            have PX := Lib.hid (PM.below B2.out.1 hHA)
            obtain ⟨w3, q1, q2, q3⟩ := PX.out.frm.put Try.underlying60 (by have := HAW.out.len; have := HAW.out.m2; unfold maxLen; omega) hk (val := ptr u1.heap.size) (x := u1.heap.size) rfl
            have PI := Lib.hid (PX.out.ins HAW.out HN.out (fun hs => by have := B2.out.1.lt _ hs; have := hH1.size; omega) X.out q3 q2)
            have TA := Lib.hid ((Tn.of_below (S := SPW) hHA).trans (Tn.of_grown q3 (fun i hi => by cases hi; exact B2.out.1.sF)))
            have HSZ := Lib.hid hH1.size
            obtain ⟨S3, b3', c3'⟩ := B2.out.own hg PI.out TA.out (fun i hi => by rcases hi with hi | hi; exact .inl hi; subst hi; exact .inr HSZ.out)
            have B3 := Lib.hid b3'
            have C3 := Lib.hid (C2.out.trans c3')
            clear q2 q3 X PX PI TA b3' c3' hHA hH1
            refine wpAnyH_ready (rs := [9]) (by kernel_rfl) (by simp) ?_
            refine AllReadyH.cons (o := { dst := none, op := Op.mapUpdate 60 (Operand.tmp 48) (Operand.tmp 49) (Operand.tmp 53), type := 0, pos := "pool.go:164", after := #[{ on := 3, ground := Ground.data }, { on := 4, ground := Ground.data }, { on := 8, ground := Ground.data }, { on := 6, ground := Ground.chain }, { on := 0, ground := Ground.phase }, { on := 1, ground := Ground.phase }, { on := 2, ground := Ground.phase }, { on := 3, ground := Ground.phase }, { on := 4, ground := Ground.phase }, { on := 5, ground := Ground.phase }, { on := 6, ground := Ground.phase }, { on := 7, ground := Ground.phase }, { on := 8, ground := Ground.phase }], guard := none }) rfl (fun K hK => ?_) ?_
            · go_simp
              refine hK.out _ _ ?_ (fun hHeld => ?_)
              · exact B3.out.1.box.cell 4
              clear hK K
              (try simp only [Act.put, List.setIfInBounds_toArray, List.set_cons_zero, List.set_cons_succ])
              refine wpAnyH_done (by kernel_rfl) ?_ _
              refine NoPanic.normal ?_
              have l3 := B3.out.1.look hk
              rw [updI_same] at l3
              simp only [vP] at l3
              have e4 := B3.out.1.cells.2.2.2.2.1
              clear hHeld
              go_wp2_with fail
              go_ret2
              rw [RE.out]
              exact ⟨_, rfl, S3, _, _, B3.out, C3.out, fun _ => by rw [updI_same]; rfl⟩
            exact AllReadyH.nil
          exact AllReadyH.nil
        exact AllReadyH.nil
      · have hz : ¬ ((le : Int) = 0) := by omega
        have RE := Lib.hid (show R = (le, A1, o1) from by rw [RE1.out, if_pos hle])
        go_wp2_with fail
        go_ret2
        rw [RE.out]
        exact ⟨_, rfl, SW, SPW, bkW, B.out, CH.out, fun h0 => absurd h0 hle⟩
end
end Go.Proofs.Ytcecfageijkifaa.Po
