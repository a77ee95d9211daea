/- For every list of numbers: pushed under their places they come falling, as Sorted tells them, each with a place of its own at which it stands in the list; then nothing comes. No condition. -/
import Derived.Test.YtfelhepdcnckhaaRows
import Derived.Test.YtfelhepdcnckhaaLaws
import Derived.Test.YtfelhepdcnckhaaNums
import Derived.Maps.Own
import Derived.Maps.Views
import Derived.Maps.OwnOps
import Derived.Lib.Hide
import Derived.WalkKit
import Derived.ProofKit
import Derived.OpenShut
import Derived.ChangeOld
import Derived.Below
import Derived.Carry
namespace Go.Proofs.Ytfelhepdcnckhaa.prioFalls
open Go.ChangeShapes Go.WideShapes Go.ChangeAt Go.RowKit
set_option linter.unusedVariables false

theorem own : ownKnob Try.prog.godebug = none := by kernel_rfl
theorem laidOut : laidOutB Try.prog = true := by kernel_rfl


open Go.Maps
theorem look_false {H : Type} {P : Program} {k e t : TypeId} {w : World} {b n : Nat} {D : DataW H} (h : w.ownsMap P k (plainElem P e) b n D) (K : Keyed P k) (ht : P.underlying t = some (.map k e)) (he : P.underlying e = some .bool) (hz : (zeroValue e).run P w = .ok (.bool false) w)
    {key : Value} {kl : Lit} (hkey : keyOf P k key = some kl) (hat : D.atKey kl (.lit (.bool false)) = .lit (.bool false)) : (Instr.lookup t (.map (some b)) key false).run P w = .ok (.bool false) w := by
  obtain ⟨v, ps, hrun, hv⟩ := h.lookup K ht hz (plainElem_bool he false) hkey
  rw [hat] at hv
  rw [hrun]
  congr 1
  unfold plainElem at hv
  rw [he] at hv
  cases v <;> simp at hv
  rw [hv.1]
theorem map_kept {H : Type} {P : Program} {k : TypeId} {R : Value → Option (DataW H × List MemPlace)} {w w' : World} {b n : Nat} {D : DataW H} {C p : Nat} {l : List Pr} (h : w.ownsMap P k R b n D) (ho : Own C p l w) (hk : Kept C p w w') : w'.ownsMap P k R b n D := by
  obtain ⟨es, c, h1, h2⟩ := h
  refine ⟨es, c, hk.2 b _ h1 (fun e => ?_) (by intro cs; simp), h2⟩
  obtain ⟨v, ⟨f, k, hf, _⟩, _⟩ := ho
  rw [e, hf.1] at h1
  simp at h1
theorem map_block {H : Type} {P : Program} {k : TypeId} {R : Value → Option (DataW H × List MemPlace)} {w : World} {b n : Nat} {D : DataW H} (h : w.ownsMap P k R b n D) : ∃ es c, w.heap[b]? = some (.map es c) := by
  obtain ⟨es, c, h1, _⟩ := h
  exact ⟨es, c, h1⟩
theorem own_turn {C p b : Nat} {l : List Pr} {w w' : World} (h : Own C p l w) (hg : w.grownBy w' (some b)) (hb : ∃ es c, w.heap[b]? = some (.map es c)) : Own C p l w' := by
  obtain ⟨es, c, hb⟩ := hb
  obtain ⟨v, ⟨f, n, hf, h2, h3, h4⟩, h5, h6, h7⟩ := h
  refine ⟨v, ⟨f, n, hf.kept (hg.block p hf.lt ?_) (fun g e => hg.block g (hf.row_lt e) ?_), h2, h3, h4⟩, h5, Nat.le_trans h6 hg.size, h7⟩
  · intro e
    simp only [Option.some.injEq] at e
    rw [← e, hf.1] at hb
    simp at hb
  · intro e'
    simp only [Option.some.injEq] at e'
    obtain ⟨cur, hc⟩ := hf.row e
    rw [e', hb] at hc
    simp at hc
theorem row_turn {b : Nat} {w w' : World} {A : Option Addr} {n c : Nat} {l : List Int} (h : Row w A n c l) (hg : w.grownBy w' (some b)) (hb : ∃ es c, w.heap[b]? = some (.map es c)) : Row w' A n c l := by
  obtain ⟨es, k, hb⟩ := hb
  refine ⟨h.1, h.2.1, ?_⟩
  rcases h.2.2 with h | ⟨g, cap, cur, h1, h2, h3, h4⟩
  · exact .inl h
  · refine .inr ⟨g, cap, cur, h1, h2, (hg.block g (Array.getElem?_eq_some_iff.1 h3).1 (fun e => ?_)).trans h3, h4⟩
    simp only [Option.some.injEq] at e
    rw [e, hb] at h3
    simp at h3

/-- The pairs that are pushed. -/
def pl (l : List Int) (k : Nat) : List Pr := (List.range k).map fun i => (l.getD i 0, (i : Int))
theorem pl_succ (l : List Int) (k : Nat) : pl l (k + 1) = pl l k ++ [(l.getD k 0, (k : Int))] := by simp [pl, List.range_succ]
theorem pl_length (l : List Int) (k : Nat) : (pl l k).length = k := by simp [pl]
theorem pl_fst (l : List Int) : (pl l l.length).map Prod.fst = l := by
  apply List.ext_getElem
  · simp [pl]
  · intro i h1 h2
    simp [pl, List.getD, h2]
theorem pl_snd (l : List Int) (k : Nat) : ((pl l k).map Prod.snd).Nodup := by
  unfold pl List.Nodup
  rw [List.map_map, List.pairwise_map]
  exact List.nodup_range.imp (fun h e => h (by simp at e; omega))
theorem pl_mem (l : List Int) (k : Nat) : ∀ y ∈ pl l k, ∃ i : Nat, y.2 = i ∧ i < k ∧ y.1 = l.getD i 0 := by
  intro y hy
  obtain ⟨i, hi, rfl⟩ := List.mem_map.1 hy
  exact ⟨i, rfl, List.mem_range.1 hi, rfl⟩
theorem drop_get (s : List Int) (i : Nat) (h : i < s.length) : s.drop i = s.getD i 0 :: s.drop (i + 1) := by
  rw [List.drop_eq_getElem_cons h]; simp [List.getD, h]
theorem top_is {R : List Pr} {s : List Int} {m : Pr} {i : Nat} (hs : s.Pairwise fun x y => y ≤ x) (hi : i < s.length) (hp : (R.map Prod.fst).Perm (s.drop i)) (hm : Best R m) : m.1 = s.getD i 0 := by
  rw [drop_get s i hi] at hp
  have hd : (s.getD i 0 :: s.drop (i + 1)).Pairwise fun x y => y ≤ x := by rw [← drop_get s i hi]; exact hs.drop
  have h1 : m.1 ∈ s.getD i 0 :: s.drop (i + 1) := hp.mem_iff.1 (List.mem_map.2 ⟨m, hm.1, rfl⟩)
  have h2 : m.1 ≤ s.getD i 0 := by
    rcases List.mem_cons.1 h1 with h | h
    · omega
    · exact (List.pairwise_cons.1 hd).1 _ h
  obtain ⟨y, hy, he⟩ := List.mem_map.1 (hp.mem_iff.2 (List.mem_cons_self))
  have h3 := hm.2 y hy
  unfold le at h3
  omega
abbrev kd (i : Int) : Lit := .int .i64 i
abbrev no_ : DataW Unit := .lit (.bool false)
def Left (n i : Nat) (l s : List Int) (R : List Pr) (D : DataW Unit) : Prop :=
  (R.map Prod.fst).Perm (s.drop i) ∧ (∀ y ∈ R, ∃ k : Nat, y.2 = k ∧ k < n ∧ y.1 = l.getD k 0) ∧ (R.map Prod.snd).Nodup ∧ ∀ y ∈ R, D.atKey (kd y.2) no_ = no_
theorem left_next {n i : Nat} {l s : List Int} {R R' : List Pr} {D : DataW Unit} {m : Pr} (hs : s.Pairwise fun x y => y ≤ x) (hi : i < s.length) (h : Left n i l s R D) (hm : Best R m) (hp : (m :: R').Perm R) (d : DataW Unit) : Left n (i + 1) l s R' (D.put (kd m.2) d) := by
  obtain ⟨h1, h2, h3, h4⟩ := h
  have ht := top_is hs hi h1 hm
  have hn : (m.2 :: R'.map Prod.snd).Nodup := (List.Perm.nodup_iff (hp.map Prod.snd)).2 h3
  refine ⟨?_, fun y hy => h2 y (hp.mem_iff.1 (List.mem_cons_of_mem _ hy)), (List.nodup_cons.1 hn).2, fun y hy => ?_⟩
  · have := (hp.map Prod.fst).trans h1
    rw [drop_get s i hi, List.map_cons, ht] at this
    exact this.cons_inv
  · rw [Go.Maps.atKey_put_other (fun e => ?_)]
    · exact h4 y (hp.mem_iff.1 (List.mem_cons_of_mem _ hy))
    · have e2 : y.2 = m.2 := by simpa [kd] using e
      exact (List.nodup_cons.1 hn).1 (by rw [← e2]; exact List.mem_map.2 ⟨y, hy, rfl⟩)
def Inv (C p : Nat) (w0 : World) (l : List Int) (k : Nat) (w : World) : Prop := Own C p (pl l k) w ∧ Below C w0 w
def Rest (C p bm : Nat) (w0 : World) (l s : List Int) (A : Option Addr) (n c i : Nat) (w : World) : Prop :=
  ∃ R D, Own C p R w ∧ Below C w0 w ∧ Row w A n c s ∧ w.ownsMap Try.prog 3 (plainElem Try.prog 4) bm i D ∧ Left n i l s R D
set_option maxRecDepth 100000 in
set_option maxHeartbeats 4000000 in
theorem walk (A : Option Addr) (n c : Nat) (l : List Int) (w : World) (hl : Ints w A n l) (hm : n ≤ maxLen) :
    Calls Try.prog 3 #[.slice A n c] w fun e w' => e = .returned (.bool true) ∧ Below w.heap.size w w' := by
  unfold maxLen at hm
  have HL := Lib.hid hl
  have HLen : Hid (l.length = n) := hl.1
  have hmm := @run_makeMap Try.prog
  clear hl
  by_cases h1 : n ≤ 100
  · have n1 : ¬ 100 < n := by omega
    go_enter Try.func3, Try.ntmps3
    go_wp2_with fail
    refine (alive_yes _).mono ?_; rintro e w1 ⟨rfl, hb1⟩
    have B1 := Lib.hid hb1
    have HO := Lib.hid (Own.fresh w1)
    clear hb1
    go_wp2_with fail
    go_loopw [27] (fun x wr => ∃ k : Nat, k ≤ n ∧ x = .int .i64 k ∧ Inv w1.heap.size w1.heap.size w1 l k wr) (fun x _ => n - (intOf x).toNat)
    case atStart => exact ⟨0, Nat.zero_le _, rfl, HO.out, (Below.refl _ _).alloc (Nat.le_refl _) _⟩
    case round =>
      obtain ⟨k, hk, rfl, hq⟩ := hrel
      have HQ := Lib.hid hq
      clear hq
      by_cases hlt : k < n
      · obtain ⟨b, off, rfl, hbw, hc0, _, _⟩ := HL.out.2 k hlt
        have hd0 := ((B1.out.trans (HQ.out.2.mono B1.out.size)).cell (p := ⟨b, off + k, none⟩) hbw).trans hc0
        have HT := Lib.hid (pl_succ l k)
        have HK : Hid ((pl l k).length < 1000000) := by simp [pl_length, Hid]; omega
        clear hc0
        generalize l.getD k 0 = x at *
        go_wp2_with fail
        refine (push_o _ _ _ x k _ HQ.out.1 HK.out).mono ?_; rintro e X1 ⟨rfl, hx⟩
        have H1 := Lib.hid hx
        clear hx
        go_wp2_with fail
        go_roundw
        case rel => exact ⟨k + 1, by omega, by go_num, by rw [HT.out]; exact H1.out.1, HQ.out.2.trans H1.out.2.1⟩
        case measure => simp [intOf]; omega
      · obtain rfl : k = n := by omega
        have HS := Lib.hid (sorted_walk A k c l (by rw [HLen.out]; omega) wr ((HL.out.below (B1.out.trans (HQ.out.2.mono B1.out.size))).nums))
        go_wp2_with fail
        refine HS.out.mono ?_; rintro e w2 ⟨A2, n2, c2, rfl, g1, g2, g3, g4⟩
        have hn2 : n2 = k := by rw [g1, HLen.out]
        subst hn2
        have HR := Lib.hid (Gathered.row (by rw [desc_length]) g1 g2)
        have HO2 := Lib.hid (HQ.out.1.below g4)
        have HB3 := Lib.hid (HQ.out.2.trans (g4.mono HQ.out.2.size))
        have HDL : Hid ((desc l).length = n2) := by rw [Hid, desc_length]; exact HLen.out
        have HST : Hid (Left n2 0 l (desc l) (pl l n2) (.map [])) := by
          refine ⟨?_, pl_mem l n2, pl_snd l n2, fun _ _ => rfl⟩
          have := pl_fst l
          rw [HLen.out] at this
          rw [this]
          exact (desc_perm l).symm
        have HFA := Lib.hid (desc_falls l)
        have hsz : w1.heap.size ≤ w2.heap.size := HB3.out.size
        have HSZ := Lib.hid hsz
        have HMD : Hid ((w2.alloc (.map #[] 0)).ownsMap Try.prog 3 (plainElem (H := Unit) Try.prog 4) w2.heap.size 0 (.map [])) := World.ownsMap_made w2 _ _ _
        clear g1 g2 g3 g4 hsz
        generalize desc l = s at *
        have b0 : (n2 : Int) ≤ 100 := by omega
        go_wp2_with fail
        go_loopw [42] (fun x wr => ∃ i : Nat, i ≤ n2 ∧ x = .int .i64 i ∧ Rest w1.heap.size w1.heap.size w2.heap.size w1 l s A2 n2 c2 i wr) (fun x _ => n2 - (intOf x).toNat)
        case atStart => exact ⟨0, Nat.zero_le _, rfl, _, _, HO2.out.below ((Below.refl _ _).alloc (Nat.le_refl _) _), HB3.out.alloc HSZ.out _, HR.out.below ((Below.refl _ _).alloc (Nat.le_refl _) _), HMD.out, HST.out⟩
        case round =>
          obtain ⟨i, hi, rfl, R, D, q1, q2, q3, q4, q5⟩ := hrel
          have Q1 := Lib.hid q1
          have Q2 := Lib.hid q2
          have Q3 := Lib.hid q3
          have Q4 := Lib.hid q4
          have Q5 := Lib.hid q5
          clear q1 q2 q3 q4 q5
          by_cases hit : i < n2
          · have his : i < s.length := by rw [HDL.out]; exact hit
            obtain ⟨m, R', hb, hp, hq⟩ := best_split R (by
              intro e
              have := Q5.out.1.length_eq
              rw [e] at this
              simp at this
              omega)
            have HM := Lib.hid hb
            have HP := Lib.hid hp
            have HTOP := Lib.hid (top_is HFA.out his Q5.out.1 hb)
            have HNX := Lib.hid (fun d => left_next HFA.out his Q5.out hb hp d)
            obtain ⟨k, e1, e2, e3⟩ := Q5.out.2.1 m hb.1
            have hat := Q5.out.2.2.2 m hb.1
            rw [e1] at hat
            have HAT := Lib.hid hat
            have hm2 : m = (m.1, (k : Int)) := Prod.ext rfl e1
            have HM2 := Lib.hid hm2
            obtain ⟨b, off, rfl, hbw, hc0, hx1, hx2⟩ := HL.out.2 k e2
            have hd0 := ((B1.out.trans (Q2.out.mono B1.out.size)).cell (p := ⟨b, off + k, none⟩) hbw).trans hc0
            rw [← e3] at hd0 hx1 hx2
            have HD0 := Lib.hid hd0
            clear hb hp hat hm2 e1 e3 hc0 hd0 his
            generalize hx : m.1 = x at *
            clear hx
            obtain rfl := HM2.out
            have b1 : (k : Int) < (n2 : Int) := by omega
            have b2 : (0 : Int) ≤ (k : Int) := by omega
            have b3 : (i : Int) < (n2 : Int) := by omega
            have b4 : (0 : Int) ≤ (i : Int) := by omega
            have b5 : ¬ ((n2 : Int) ≤ (k : Int)) := by omega
            have HWF : Hid ((Lit.int .i64 (k : Int)).wf = true) := by
              have t1 : IntKind.i64.min = -9223372036854775808 := rfl
              have t2 : IntKind.i64.max = 9223372036854775807 := rfl
              simp only [Hid, Lit.wf, Bool.and_eq_true, decide_eq_true_eq, t1, t2]
              omega
            go_wp2_with fail
            refine (pop_o _ _ _ R' (x, (k : Int)) _ Q1.out HM.out HP.out).mono ?_; rintro e X1 ⟨rfl, hx⟩
            have H1 := Lib.hid hx
            have HR4 := Lib.hid (Q3.out.kept Q1.out hx.2)
            have HMP := Lib.hid (map_kept Q4.out Q1.out hx.2)
            have hlook := look_false HMP.out (int_keyed Try.underlying3) Try.underlying31 Try.underlying4 (by kernel_rfl) (keyOf_int_mk Try.underlying3 HWF.out) HAT.out
            have hown := HMP.out
            have hd0 := (hx.2.1.cell (p := ⟨b, off + k, none⟩) (Nat.lt_of_lt_of_le (Nat.lt_of_lt_of_le hbw B1.out.size) (Nat.le_refl _))).trans HD0.out
            obtain ⟨g, rfl, hc4⟩ := HR4.out.at hit
            have HTT : Hid (s.getD i 0 = x) := HTOP.out.symm
            rw [HTT.out] at hc4
            clear hx
            go_wp2_with (at_mapUpdate; refine wpList_mapUpdate_own _ rfl _ _ _ 31 rfl 3 4 (int_keyed Try.underlying3) Try.underlying31 _ w2.heap.size i D rfl hown (by unfold maxLen; omega) _ _ _ rfl rfl (keyOf_int_mk Try.underlying3 HWF.out) _ [] (plainElem_bool Try.underlying4 true) ?_; intro w3 hown1 hgrow1)
            have HN := Lib.hid hown1
            have HG := Lib.hid hgrow1
            have HMB := Lib.hid (map_block hown)
            clear hown hown1 hgrow1 hlook
            go_wp2_with fail
            go_roundw
            case rel =>
              refine ⟨i + 1, by omega, by go_num, R', _, own_turn H1.out.1 HG.out HMB.out, (Q2.out.trans H1.out.2.1).grown HG.out ?_ (fun q e => ?_), row_turn HR4.out HG.out HMB.out, HN.out, HNX.out _⟩
              · exact (Q2.out.trans H1.out.2.1).size
              · simp only [Option.some.injEq] at e
                rw [← e]
                exact HSZ.out
            case measure => simp [intOf]; omega
          · obtain rfl : i = n2 := by omega
            have hR : R = [] := by
              have := Q5.out.1.length_eq
              rw [List.length_drop, HDL.out, Nat.sub_self, List.length_map] at this
              exact List.eq_nil_of_length_eq_zero this
            subst hR
            go_wp2_with fail
            refine (pop_e _ _ _ Q1.out).mono ?_; rintro e X1 ⟨rfl, rfl⟩
            go_wp2_with fail
            go_ret
            exact ⟨rfl, B1.out.trans (Q2.out.mono B1.out.size)⟩
  · have n1 : 100 < n := by omega
    go_enter Try.func3, Try.ntmps3
    go_wp2_with fail
    refine (alive_yes _).mono ?_; rintro e w1 ⟨rfl, hb1⟩
    have B1 := Lib.hid hb1
    clear hb1
    go_wp2_with fail
    go_ret
    exact ⟨rfl, B1.out⟩

/-! The row's step. -/
set_option maxRecDepth 100000 in
theorem lifted (os : Os) (started : os.Started) (H : Type) (enc : TypeId × Value → H) :
    ReturnsInHanded {} Try.checked os 3 .any (Rows.prioFallsSpec.pre6 enc Try.prog Try.f3 Rows.prioFallsRow.domain false) (Rows.prioFallsSpec.post enc Try.prog Try.f3 false true false false) := by
  refine returnsInHanded_of_change (C := Try.checked) own started (by kernel_rfl) Try.func3
    (ChangeSpec.witness6 (enc := enc) (C := Try.checked) false ⟨#[], #[.slice none 0 0], []⟩ 8 (by kernel_rfl) (by kernel_rfl) (by kernel_rfl) (by kernel_rfl)) ?_
  intro W base args ds gs before hval0 hW hcnd _
  have hval : ∀ (j : Nat) t v, Try.f3.params[j]? = some t → args[j]? = some v → Value.okWide Try.prog W .any base t v := hval0
  have hW' := hW
  obtain ⟨p, q, hA0, hV, rfl, hfz, hnd⟩ := hW
  have hA : DataW.TrodAll enc Try.prog W 0 (fun _ => true) true Try.f3.params.toList args.toList ds p := hA0
  rw [Try.params3] at hA hval
  obtain ⟨v0, vs0, d0, ds0, p0, q0, hargs, rfl, rfl, h0, r0⟩ := trodAll_cons hA
  obtain ⟨rfl, rfl, rfl⟩ := trodAll_nil r0
  obtain rfl : args = #[v0] := by cases args; simp_all
  obtain ⟨rfl, rfl⟩ := trodVars_none hV
  obtain ⟨A0, n0, c0, rfl⟩ := okWide_slice Try.underlying22 (hval 0 22 v0 rfl rfl)
  have k0 := h0
  have lt0 : ∀ x ∈ p0, x.block < W.heap.size := by obtain ⟨m, hm⟩ := k0; exact DataW.trod_lt m _ _ _ hm
  obtain ⟨l0, w0, e0, f0⟩ := (by obtain ⟨fuel, hf⟩ := h0; exact ints_read hf (fun _ => rfl) : ∃ l, Ints W A0 n0 l ∧ n0 ≤ c0 ∧ c0 ≤ maxLen)
  clear hA0 hval0
  refine (walk A0 n0 c0 l0 W w0 (Nat.le_trans e0 f0)).mono fun e W' ⟨he, bel⟩ => ?_
  subst he
  exact ⟨_, rfl, _, _, _, [], _, [], hW', trodAll_mk1 (shut_bool Try.underlying4 _), (trodAll_cons_mk (Below.trod laidOut (by kernel_rfl) (of_decide_eq_true (by kernel_rfl)) k0 bel lt0) trodAll_mk0), rfl, bel.frame _, fun h => by cases h⟩

theorem over : Rows.prioFallsRow.holds Try.pinned (OpenSpec.ofChange Rows.prioFallsSpec) :=
  OpenClaim.holds_of_wide 3 Try.f3 rfl rfl rfl rfl rfl rfl rfl ⟨rfl, rfl, rfl, rfl, rfl⟩ rfl rfl rfl rfl rfl (by kernel_rfl) Try.func3 (by kernel_rfl)
    (of_decide_eq_true (by kernel_rfl)) (by unfold Func.isWrapper; first | (rw [if_pos (by decide +kernel)]; kernel_rfl) | (rw [if_neg (by decide +kernel)]; exact ⟨rfl, rfl⟩))
    (fun os started H enc _ => lifted os started H enc)

/-- The statement. -/
theorem proved : Rows.PrioFallsSaid := over
end Go.Proofs.Ytfelhepdcnckhaa.prioFalls
