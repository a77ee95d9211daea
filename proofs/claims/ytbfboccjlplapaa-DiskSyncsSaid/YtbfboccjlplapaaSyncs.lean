/- For every two lists of at most twenty texts, kept or not: what was written ahead of a Sync is there behind a crash; what was written behind it is there just if it is kept. No condition. -/
import Derived.Test.YtbfboccjlplapaaRows
import Derived.Test.YtbfboccjlplapaaStrz
import Derived.Lib.Hide
import Derived.WalkKit
import Derived.SizedLaws
import Derived.ProofKit
import Derived.OpenShut
import Derived.ChangeOld
import Derived.Below
import Derived.Carry
namespace Go.Proofs.Ytbfboccjlplapaa.diskSyncs
open Go.ChangeShapes Go.WideShapes Go.ChangeAt Go.RowKit
set_option linter.unusedVariables false

theorem own : ownKnob Try.prog.godebug = none := by kernel_rfl
theorem laidOut : laidOutB Try.prog = true := by kernel_rfl


theorem fill_e (w : World) : Calls Try.prog 18 #[.string ⟨#[]⟩] w fun e w' => e = .returned (.string (str zeroS)) ∧ Below w.heap.size w w' := by
  have := fill_ok ⟨#[]⟩ (by decide) w
  rw [show fill (ByteArray.mk #[]).data.toList = zeroS from fill_nil] at this
  exact this
theorem info_bool : (Try.prog.info? 4).map (fun i => (i.zero, i.size, i.bytes)) = some (some (.bool false), 1, 1) := by kernel_rfl
def base0 : List BA := List.replicate 40 zeroS
theorem base0_length : base0.length = 40 := by simp [base0]
def fa0 (l : List ByteArray) (i : Nat) : BA := fill (l.getD i ByteArray.empty).data.toList
def fb0 (l : List ByteArray) (i : Nat) : BA := fill (⟨#[98]⟩ ++ l.getD i ByteArray.empty).data.toList
def aw (l : List ByteArray) (k : Nat) : List PW := (List.range k).map fun i => (i, fa0 l i)
def bw (l : List ByteArray) (k : Nat) : List PW := (List.range k).map fun i => (i, fb0 l i)
theorem aw_succ (l : List ByteArray) (k : Nat) : aw l (k + 1) = aw l k ++ [(k, fill (l.getD k ByteArray.empty).data.toList)] := by simp [aw, List.range_succ, fa0]
theorem bw_succ (l : List ByteArray) (k : Nat) : bw l (k + 1) = bw l k ++ [(k, fill (⟨#[98]⟩ ++ l.getD k ByteArray.empty).data.toList)] := by simp [bw, List.range_succ, fb0]
theorem aw_length (l : List ByteArray) (k : Nat) : (aw l k).length = k := by simp [aw]
theorem bw_length (l : List ByteArray) (k : Nat) : (bw l k).length = k := by simp [bw]
def LA (l0 : List ByteArray) (n0 : Nat) : List BA := appl base0 (aw l0 n0)
theorem LA_length (l0 : List ByteArray) (n0 : Nat) : (LA l0 n0).length = 40 := by rw [LA, appl_length, base0_length]
def LB (l0 l1 : List ByteArray) (n0 n1 : Nat) (keep : Bool) : List BA := appl (LA l0 n0) (kept (bw l1 n1) (List.replicate n1 keep))
theorem LB_length (l0 l1 : List ByteArray) (n0 n1 : Nat) (keep : Bool) : (LB l0 l1 n0 n1 keep).length = 40 := by rw [LB, appl_length, LA_length]
theorem getD_set (L : List BA) (i j : Nat) (b : BA) (hi : i < L.length) : (L.set i b).getD j [] = if i = j then b else L.getD j [] := by
  rw [List.getD_eq_getElem?_getD, List.getElem?_set]
  by_cases e : i = j
  · subst e; rw [if_pos rfl, if_pos hi, if_pos rfl]; rfl
  · rw [if_neg e, if_neg e, List.getD_eq_getElem?_getD]
theorem appl_map (L : List BA) (f : Nat → BA) (j : Nat) : ∀ m, m ≤ L.length → (appl L ((List.range m).map fun i => (i, f i))).getD j [] = if j < m then f j else L.getD j []
  | 0, _ => by simp [appl]
  | m + 1, h => by
    rw [List.range_succ, List.map_append, List.map_singleton, appl_snoc, getD_set _ _ _ _ (by rw [appl_length]; omega), appl_map L f j m (by omega)]
    by_cases e : m = j
    · subst e; rw [if_pos rfl, if_pos (by omega)]
    · rw [if_neg e]
      by_cases e2 : j < m
      · rw [if_pos e2, if_pos (by omega)]
      · rw [if_neg e2, if_neg (by omega)]
theorem kept_all (l : List ByteArray) (m : Nat) : ∀ k, k ≤ m → kept (bw l k) (List.replicate m true) = bw l k
  | 0, _ => rfl
  | k + 1, h => by
    rw [bw_succ, kept_snoc, kept_all l m k (by omega), bw_length, List.getD_eq_getElem?_getD, List.getElem?_replicate, if_pos (show k < m by omega)]; rfl
theorem kept_none' (l : List ByteArray) (m : Nat) : ∀ k, kept (bw l k) (List.replicate m false) = []
  | 0 => rfl
  | k + 1 => by
    rw [bw_succ, kept_snoc, kept_none' l m k, bw_length, List.getD_eq_getElem?_getD, List.getElem?_replicate]
    split <;> rfl
/-- What sector i holds in the end. -/
def final (l0 l1 : List ByteArray) (n0 n1 : Nat) (keep : Bool) (i : Nat) : BA :=
  if keep = true ∧ i < n1 then fill (⟨#[98]⟩ ++ l1.getD i ByteArray.empty).data.toList else if i < n0 then fill (l0.getD i ByteArray.empty).data.toList else zeroS
theorem final_get (l0 l1 : List ByteArray) (n0 n1 i : Nat) (keep : Bool) (h0 : n0 ≤ 20) (h1 : n1 ≤ 20) (hi : i < 40) : (LB l0 l1 n0 n1 keep).getD i [] = final l0 l1 n0 n1 keep i := by
  have ha : (LA l0 n0).getD i [] = if i < n0 then fa0 l0 i else zeroS := by
    rw [LA, aw, appl_map _ _ _ _ (by rw [base0_length]; omega)]
    have : base0.getD i [] = zeroS := by rw [base0, List.getD_eq_getElem?_getD, List.getElem?_replicate, if_pos hi]; rfl
    rw [this]
  unfold LB final
  cases keep with
  | false =>
    rw [kept_none', appl_nil, if_neg (by simp), ha]; rfl
  | true =>
    rw [kept_all _ _ _ (Nat.le_refl _), bw, appl_map _ _ _ _ (by rw [LA_length]; omega), ha]
    by_cases e : i < n1
    · rw [if_pos e, if_pos ⟨rfl, e⟩]; rfl
    · rw [if_neg e, if_neg (fun h : true = true ∧ i < n1 => e h.2)]; rfl
theorem getD_mem {l : List ByteArray} {i : Nat} {d : ByteArray} (h : i < l.length) : l.getD i d ∈ l := by
  rw [List.getD_eq_getElem?_getD, List.getElem?_eq_getElem h]; exact List.getElem_mem h
/-- The list of what is kept while it grows. -/
def Row2 (C : Nat) (keep : Bool) (i : Nat) (v : Value) (w : World) : Prop := w.ownsRow C 4 1 v i (List.replicate i (.bool keep))
theorem Row2.same {C i : Nat} {keep : Bool} {v : Value} {w w' : World} (h : Row2 C keep i v w) (hb : ∀ (g : Nat) (cs : Array Value) (fr : Nat × Nat), w.heap[g]? = some (Obj.cells cs 4 fr) → w'.heap[g]? = w.heap[g]?) : Row2 C keep i v w' := by
  refine ⟨h.1, ?_⟩
  rcases h.2 with h1 | ⟨g, cap, cur, h1, h2, h3, h4⟩
  · exact .inl h1
  · exact .inr ⟨g, cap, cur, h1, h2, (hb g _ _ h3).trans h3, h4⟩
theorem Row2.below {C i : Nat} {keep : Bool} {v : Value} {w w' : World} (h : Row2 C keep i v w) (hb : Below w.heap.size w w') : Row2 C keep i v w' := h.same fun g cs fr hg => hb.block g (Array.getElem?_eq_some_iff.1 hg).1
theorem Row2.left {C D i : Nat} {keep : Bool} {v : Value} {w w' : World} (h : Row2 C keep i v w) (hb : Leaves D w w') : Row2 C keep i v w' := h.same fun g cs fr hg => hb.other g cs _ fr hg (by decide) (by decide) (by decide)
theorem Row2.block {C n : Nat} {v : Value} {w : World} {xs : List Value} (h : w.ownsRow C 4 1 v n xs) : ∀ k, v.ownBlock = some k → ∃ cs fr, w.heap[k]? = some (Obj.cells cs 4 fr) := fun k hk => by
  rcases h.2 with ⟨h1, _⟩ | ⟨g, cap, cur, h1, h2, h3, h4⟩
  · rw [h1] at hk; simp [Value.ownBlock] at hk
  · rw [h1] at hk; simp [Value.ownBlock] at hk; subst hk; exact ⟨_, _, h3⟩
theorem Row2.keeps {C i : Nat} {keep : Bool} {a : Option Addr} {n c : Nat} {w : World} (h : Row2 C keep i (.slice a n c) w) : Keeps C a (List.replicate i keep) w := fun j hj => by
  rw [List.length_replicate] at hj
  rcases h.2 with ⟨_, h2⟩ | ⟨g, cap, cur, h1, h2, h3, h4, h5, h6, h7⟩
  · omega
  · simp only [Value.slice.injEq] at h1
    refine ⟨g, 0, h1.1, ?_, .inr ⟨_, _, h3⟩⟩
    have hx : (List.replicate i (Value.bool keep))[j]? = some (.bool keep) := by rw [List.getElem?_replicate, if_pos hj]
    rw [← h7, List.getElem?_take, if_pos (by omega)] at hx
    rw [cell_of_row _ _ _ _ _ _ h3, Nat.zero_add, List.getD_eq_getElem?_getD, List.getElem?_replicate, if_pos hj]
    simpa using hx
theorem Disk.grown {C p : Nat} {A : St} {w w' : World} {row : Option Nat} (h : Disk C p A w) (hg : w.grownBy w' row) (hr : ∀ k, row = some k → ∃ cs fr, w.heap[k]? = some (Obj.cells cs 4 fr)) : Disk C p A w' := by
  obtain ⟨s, c, pv, h⟩ := h
  refine ⟨s, c, pv, h.same fun k hk => ?_⟩
  have hne : row ≠ some k := fun e => by
    obtain ⟨cs, fr, hc⟩ := hr k e
    rcases hk with rfl | rfl | hk
    · rw [h.head] at hc; simp at hc
    · obtain ⟨cur, h1, _⟩ := h.secs; rw [h1] at hc; simp at hc
    · rcases h.row.2 with ⟨e1, _⟩ | ⟨g, cap, cur, e1, _, e2, _⟩
      · rw [e1] at hk; simp [Value.ownBlock] at hk
      · rw [e1] at hk
        simp only [Value.ownBlock, Option.some.injEq] at hk
        subst hk
        rw [e2] at hc; simp at hc
  have hlt : k < w.heap.size := by
    rcases hk with rfl | rfl | hk
    · exact h.lt
    · exact h.lts
    · exact (h.ltv k hk).2
  exact hg.block k hlt (fun e => hne e.symm)
/-- The third loop only reads. -/
def St3 (C : Nat) (A : St) (w1 wr : World) : Prop := Disk C (C + 1) A wr ∧ Below C w1 wr
theorem St3.more {C D : Nat} {A : St} {w1 wr w' : World} (h : St3 C A w1 wr) (hb : Below D wr w') (hD : wr.heap.size ≤ D) : St3 C A w1 w' := ⟨h.1.below hb hD, h.2.trans (hb.mono (by have := h.1.base; omega))⟩
set_option maxRecDepth 100000 in
set_option maxHeartbeats 16000000 in
theorem walk (A0 : Option Addr) (n0 c0 : Nat) (l0 : List ByteArray) (A1 : Option Addr) (n1 c1 : Nat) (l1 : List ByteArray) (keep : Bool) (w : World) (hl0 : Strs w A0 n0 l0) (hm0 : n0 ≤ maxLen) (hl1 : Strs w A1 n1 l1) (hm1 : n1 ≤ maxLen) (hs1 : ∀ s ∈ l1, s.size ≤ 140737488351232) :
    Calls Try.prog 8 #[.slice A0 n0 c0, .slice A1 n1 c1, .bool keep] w fun e w' => e = .returned (.bool true) ∧ Below w.heap.size w w' := by
  unfold maxLen at hm0 hm1
  have HL0 := Lib.hid hl0
  have HL1 := Lib.hid hl1
  have HS := Lib.hid hs1
  clear hl0 hl1 hs1
  by_cases c0 : 20 < n0
  · have d0 : True := trivial
    go_enter Try.func8, Try.ntmps8
    go_wp2_with fail
    refine (alive_yes _).mono ?_; rintro e w1 ⟨rfl, hb1⟩
    have B1 := Lib.hid hb1
    clear hb1
    go_wp2_with fail
    go_ret
    exact ⟨rfl, B1.out⟩
  · have d0 : n0 ≤ 20 := by omega
    by_cases c1 : 20 < n1
    · have d1 : True := trivial
      go_enter Try.func8, Try.ntmps8
      go_wp2_with fail
      refine (alive_yes _).mono ?_; rintro e w1 ⟨rfl, hb1⟩
      have B1 := Lib.hid hb1
      clear hb1
      go_wp2_with fail
      go_ret
      exact ⟨rfl, B1.out⟩
    · have d1 : n1 ≤ 20 := by omega
      go_enter Try.func8, Try.ntmps8
      go_wp2_with fail
      refine (alive_yes _).mono ?_; rintro e w1 ⟨rfl, hb1⟩
      have B1 := Lib.hid hb1
      clear hb1
      go_wp2_with fail
      refine (new_d 40 (by omega) (by omega) _).mono ?_; rintro e w2 ⟨rfl, h⟩
      obtain ⟨C, hC⟩ : ∃ C, C = w1.heap.size := ⟨_, rfl⟩
      rw [← hC] at h ⊢
      have H := Lib.hid h
      have HC := Lib.hid (show w.heap.size ≤ C by rw [hC]; exact B1.out.size)
      clear h hC
      go_wp2_with fail
      go_loopw [35] (fun kv wr => ∃ k : Nat, k ≤ n0 ∧ kv = .int .i64 k ∧ After C (C + 1) ⟨base0, aw l0 k, true, -1⟩ w1 wr) (fun kv _ => n0 - (intOf kv).toNat)
      case atStart => exact ⟨0, Nat.zero_le _, rfl, H.out⟩
      case round =>
        clear H
        obtain ⟨k, hk, rfl, hq⟩ := hrel
        have HQ := Lib.hid hq
        clear hq
        by_cases hlt : k < n0
        · have hkk : (k : Int) < n0 := by omega
          obtain ⟨ab, ao, haA, habw, hac⟩ := HL0.out.1.2 k hlt
          subst haA
          have hac2 : wr.cell? ⟨ab, ao + k, none⟩ = some (.string (l0.getD k ByteArray.empty)) := by
            rw [HQ.out.2.below.cell (p := ⟨ab, ao + k, none⟩) (show ab < C by have := HC.out; omega), B1.out.cell (p := ⟨ab, ao + k, none⟩) habw]; exact hac
          have FA := Lib.hid (fill_ok (l0.getD k ByteArray.empty) (HL0.out.2 _ (getD_mem (by rw [HL0.out.1.1]; exact hlt))))
          have HSU := Lib.hid (aw_succ l0 k)
          clear hac
          generalize l0.getD k ByteArray.empty = sa at *
          go_wp2_with fail
          refine (FA.out _).mono ?_; rintro e x1 ⟨rfl, h⟩
          have G1 := Lib.hid (HQ.out.more h (Nat.le_refl _))
          clear h
          go_wp2_with fail
          refine (write_d G1.out.1 k _ rfl (by show k < base0.length; rw [base0_length]; omega) (fill_length _) (by simp) (by show (aw l0 k).length ≤ _; rw [aw_length]; omega)).mono ?_; rintro e x2 ⟨rfl, h⟩
          have G2 := Lib.hid (show After C (C + 1) ⟨base0, aw l0 (k + 1), true, -1⟩ w1 x2 from by have := G1.out.then h; rw [HSU.out]; simpa [wrote] using this)
          clear h
          go_wp2_with fail
          go_roundw
          case rel => exact ⟨k + 1, by omega, by go_num, G2.out⟩
          case measure => simp [intOf]; omega
        · obtain rfl : n0 = k := by omega
          go_wp2_with fail
          refine (sync_d HQ.out.1 rfl).mono ?_; rintro e x1 ⟨rfl, h⟩
          have G1 := Lib.hid (show After C (C + 1) ⟨LA l0 n0, [], true, -1⟩ w1 x1 from HQ.out.then h)
          clear h
          go_wp2_with fail
          have hd : Calls Try.prog 22 #[ptr (C + 1)] x1 fun e w' => e = .returned (.int .i64 0) ∧ x1 = w' := pending_d G1.out.1
          refine hd.mono ?_; rintro e X3 ⟨rfl, rfl⟩
          clear hd
          go_wp2_with fail
          go_loopw [10, 57] (fun vv kv wr => ∃ i : Nat, i ≤ n1 ∧ kv = .int .i64 i ∧ Row2 C keep i vv wr ∧ Disk C (C + 1) ⟨LA l0 n0, bw l1 i, true, -1⟩ wr ∧ Below C w1 wr) (fun _ kv _ => n1 - (intOf kv).toNat)
          case atStart => exact ⟨0, Nat.zero_le _, rfl, World.ownsRow_nil _ _ _ _, G1.out.1, G1.out.2.below⟩
          case round =>
            clear G1 HQ
            obtain ⟨i, hi, rfl, hrow, hD, hB⟩ := hrel
            have HROW := Lib.hid hrow
            have HD := Lib.hid hD
            have HB := Lib.hid hB
            clear hrow hD hB
            by_cases hit : i < n1
            · have hii : (i : Int) < n1 := by omega
              obtain ⟨bb, bo, hbA, hbbw, hbc⟩ := HL1.out.1.2 i hit
              subst hbA
              have hbc2 : wr.cell? ⟨bb, bo + i, none⟩ = some (.string (l1.getD i ByteArray.empty)) := by
                rw [HB.out.cell (p := ⟨bb, bo + i, none⟩) (show bb < C by have := HC.out; omega), B1.out.cell (p := ⟨bb, bo + i, none⟩) hbbw]; exact hbc
              have hbs := HS.out _ (getD_mem (l := l1) (i := i) (d := ByteArray.empty) (by rw [HL1.out.1.1]; exact hit))
              have FB := Lib.hid (fill_ok (⟨#[98]⟩ ++ l1.getD i ByteArray.empty) (by rw [ByteArray.size_append]; have : (ByteArray.mk #[98]).size = 1 := rfl; simp only [maxLen]; omega))
              have HSU := Lib.hid (bw_succ l1 i)
              clear hbc
              generalize l1.getD i ByteArray.empty = sb at *
              obtain ⟨a0, cv, hvv⟩ := own_slice HROW.out
              subst hvv
              go_wp2_with fail
              refine (FB.out _).mono ?_; rintro e x1 ⟨rfl, h⟩
              have G1 := Lib.hid (HD.out.below h (Nat.le_refl _))
              have K1 := Lib.hid (Row2.below HROW.out h)
              have J1 := Lib.hid (HB.out.trans (h.mono HD.out.base))
              clear h
              go_wp2_with fail
              refine (write_d G1.out i _ rfl (by show i < (LA l0 n0).length; rw [LA_length]; omega) (fill_length _) (by simp) (by show (bw l1 i).length ≤ _; rw [bw_length]; omega)).mono ?_; rintro e x2 ⟨rfl, h⟩
              have G2 := Lib.hid (show Disk C (C + 1) ⟨LA l0 n0, bw l1 (i + 1), true, -1⟩ x2 from by have := h.1; rw [HSU.out]; simpa [wrote] using this)
              have K2 := Lib.hid (Row2.left K1.out h.2)
              have J2 := Lib.hid (J1.out.trans h.2.below)
              clear h G1 K1 J1
              obtain ⟨i0, hi0, hz0, hz1, hz2⟩ := info_parts info_bool
              have hown := Lib.hid (World.ownsRow.alloc K2.out (.cells #[.bool keep] 4))
              have HSZ := Lib.hid (show C ≤ x2.heap.size from G2.out.base)
              go_wp2_with (at_builtin; refine wpList_append_own _ rfl (.tmp 69) (.tmp 71) 38 rfl C 4 i0 (.bool false) 1 1 Try.underlying38 hi0 hz0 hz1 hz2 rfl (by decide) _ _ _ rfl hown.out ⟨x2.heap.size, 0, none⟩ 1 1 [.bool keep] rfl rfl ?c1 ?c2 ?c3 ?c4 ?c5 ?_)
              case c1 => intro j u hu; rcases j with _ | j <;> simp at hu; subst hu; exact cell_of_row _ _ 0 _ _ _ (heap_alloc_new x2 _)
              case c2 => intro u hu; simp at hu; subst hu; rfl
              case c3 => simp only [maxLen]; omega
              case c4 => omega
              case c5 => have := HSZ.out; simp; omega
              intro v' w4 hrow4 hgr4 _
              have G4 := Lib.hid (Disk.grown (G2.out.alloc (.cells #[.bool keep] 4)) hgr4 (Row2.block (hown.out)))
              have J4 := Lib.hid ((J2.out.alloc HSZ.out (.cells #[.bool keep] 4)).grown hgr4 (by have := HSZ.out; simp; omega) (fun q e => (hown.out.lt q e).1))
              have K4 := Lib.hid (show Row2 C keep (i + 1) v' w4 from by unfold Row2; rw [List.replicate_succ']; exact hrow4)
              obtain ⟨a5, c5, hv5⟩ := own_slice hrow4
              subst hv5
              clear hrow4 hgr4
              go_wp2_with fail
              go_roundw
              case rel => exact ⟨i + 1, by omega, by go_num, K4.out, G4.out, J4.out⟩
              case measure => simp [intOf]; omega
            · obtain rfl : n1 = i := by omega
              obtain ⟨a0, cv, hvv⟩ := own_slice HROW.out
              subst hvv
              have hcr : Calls Try.prog 21 #[ptr (C + 1), .slice a0 n1 cv] wr fun e w' => (∃ v, e = .returned v) ∧ After C (C + 1) ⟨LB l0 l1 n0 n1 keep, [], true, -1⟩ wr w' := by
                have := crash_d HD.out (List.replicate n1 keep) a0 cv (by show (bw l1 n1).length ≤ _; rw [bw_length]; omega) (by simp [maxLen]; omega) (Row2.keeps HROW.out)
                rw [List.length_replicate] at this
                exact this.mono fun e w' ⟨he, h⟩ => ⟨⟨_, he⟩, h⟩
              have HCR := Lib.hid hcr
              clear hcr
              go_wp2_with fail
              refine HCR.out.mono ?_; rintro e x1 ⟨⟨v, rfl⟩, h⟩
              have G1 := Lib.hid (show Disk C (C + 1) ⟨LB l0 l1 n0 n1 keep, [], true, -1⟩ x1 ∧ Below C w1 x1 from ⟨h.1, HB.out.trans h.2.below⟩)
              clear h
              go_wp2_with fail
              go_loopw [13] (fun kv wr => ∃ i : Nat, i ≤ 40 ∧ kv = .int .i64 i ∧ St3 C ⟨LB l0 l1 n0 n1 keep, [], true, -1⟩ w1 wr) (fun kv _ => 40 - (intOf kv).toNat)
              case atStart => exact ⟨0, Nat.zero_le _, rfl, G1.out⟩
              case round =>
                clear G1 HD HB HROW HCR
                obtain ⟨i, hi, rfl, hq⟩ := hrel
                have HQ := Lib.hid hq
                clear hq
                by_cases hi40 : i < 40
                · have hi41 : (i : Int) < 40 := by omega
                  have HG := Lib.hid (final_get l0 l1 n0 n1 i keep (by omega) (by omega) hi40)
                  have FE := Lib.hid fill_e
                  by_cases ha1 : i < n0
                  · cases keep with
                    | false =>
                      have hfin : final l0 l1 n0 n1 false i = fill (l0.getD i ByteArray.empty).data.toList := by unfold final; rw [if_neg (by simp), if_pos ha1]
                      obtain ⟨ab, ao, haA, habw, hac⟩ := HL0.out.1.2 i ha1
                      subst haA
                      have hac2 : ∀ X : World, Below C w1 X → X.cell? ⟨ab, ao + i, none⟩ = some (.string (l0.getD i ByteArray.empty)) := fun X hX => by
                        rw [hX.cell (p := ⟨ab, ao + i, none⟩) (show ab < C by have := HC.out; omega), B1.out.cell (p := ⟨ab, ao + i, none⟩) habw]; exact hac
                      have HAC := Lib.hid hac2
                      have FA := Lib.hid (fill_ok (l0.getD i ByteArray.empty) (HL0.out.2 _ (getD_mem (by rw [HL0.out.1.1]; exact ha1))))
                      clear hac hac2
                      have hai : (i : Int) < n0 := by omega
                      have HVAL := Lib.hid (HG.out.trans hfin)
                      clear hfin HG
                      go_wp2_with fail
                      refine (FE.out _).mono ?_; rintro e x1 ⟨rfl, h⟩
                      have G1 := Lib.hid (HQ.out.more h (Nat.le_refl _))
                      clear h
                      have hx := HAC.out _ G1.out.2
                      generalize l0.getD i ByteArray.empty = sa at *
                      go_wp2_with fail
                      refine (FA.out _).mono ?_; rintro e x2 ⟨rfl, h⟩
                      have G2 := Lib.hid (G1.out.more h (Nat.le_refl _))
                      clear h
                      have hrd : Calls Try.prog 15 #[ptr (C + 1), .int .i64 i] x2 fun e w' => e = .returned (.tuple #[.string (str (fill sa.data.toList)), .int .i64 0]) ∧ x2 = w' := by
                        have := read_d G2.out.1 i rfl (by show i < (LB l0 l1 n0 n1 false).length; rw [LB_length]; omega)
                        rw [show (⟨LB l0 l1 n0 n1 false, [], true, -1⟩ : St).last = LB l0 l1 n0 n1 false from rfl, show (⟨LB l0 l1 n0 n1 false, [], true, -1⟩ : St).pend = [] from rfl, appl_nil, HVAL.out] at this
                        exact this
                      generalize str (fill sa.data.toList) = Y at *
                      have HRD := Lib.hid hrd
                      clear hrd
                      go_wp2_with fail
                      refine HRD.out.mono ?_; rintro e x4 ⟨rfl, rfl⟩
                      go_wp2_with fail
                      go_roundw
                      case rel => exact ⟨i + 1, by omega, by go_num, G2.out⟩
                      case measure => simp [intOf]; omega
                    | true =>
                      by_cases hb1 : i < n1
                      · have hb2 : True := trivial
                        have hfin : final l0 l1 n0 n1 true i = fill (⟨#[98]⟩ ++ l1.getD i ByteArray.empty).data.toList := by unfold final; rw [if_pos ⟨rfl, hb1⟩]
                        obtain ⟨ab, ao, haA, habw, hac⟩ := HL0.out.1.2 i ha1
                        subst haA
                        have hac2 : ∀ X : World, Below C w1 X → X.cell? ⟨ab, ao + i, none⟩ = some (.string (l0.getD i ByteArray.empty)) := fun X hX => by
                          rw [hX.cell (p := ⟨ab, ao + i, none⟩) (show ab < C by have := HC.out; omega), B1.out.cell (p := ⟨ab, ao + i, none⟩) habw]; exact hac
                        have HAC := Lib.hid hac2
                        have FA := Lib.hid (fill_ok (l0.getD i ByteArray.empty) (HL0.out.2 _ (getD_mem (by rw [HL0.out.1.1]; exact ha1))))
                        clear hac hac2
                        have hai : (i : Int) < n0 := by omega
                        obtain ⟨bb, bo, hbA, hbbw, hbc⟩ := HL1.out.1.2 i hb1
                        subst hbA
                        have hbc2 : ∀ X : World, Below C w1 X → X.cell? ⟨bb, bo + i, none⟩ = some (.string (l1.getD i ByteArray.empty)) := fun X hX => by
                          rw [hX.cell (p := ⟨bb, bo + i, none⟩) (show bb < C by have := HC.out; omega), B1.out.cell (p := ⟨bb, bo + i, none⟩) hbbw]; exact hbc
                        have HBC := Lib.hid hbc2
                        have hbs := HS.out _ (getD_mem (l := l1) (i := i) (d := ByteArray.empty) (by rw [HL1.out.1.1]; exact hb1))
                        have FB := Lib.hid (fill_ok (⟨#[98]⟩ ++ l1.getD i ByteArray.empty) (by rw [ByteArray.size_append]; have : (ByteArray.mk #[98]).size = 1 := rfl; simp only [maxLen]; omega))
                        clear hbc hbc2
                        have hbi : (i : Int) < n1 := by omega
                        have HVAL := Lib.hid (HG.out.trans hfin)
                        clear hfin HG
                        go_wp2_with fail
                        refine (FE.out _).mono ?_; rintro e x1 ⟨rfl, h⟩
                        have G1 := Lib.hid (HQ.out.more h (Nat.le_refl _))
                        clear h
                        have hx := HAC.out _ G1.out.2
                        generalize l0.getD i ByteArray.empty = sa at *
                        go_wp2_with fail
                        refine (FA.out _).mono ?_; rintro e x2 ⟨rfl, h⟩
                        have G2 := Lib.hid (G1.out.more h (Nat.le_refl _))
                        clear h
                        have hy := HBC.out _ G2.out.2
                        generalize l1.getD i ByteArray.empty = sb at *
                        go_wp2_with fail
                        refine (FB.out _).mono ?_; rintro e x3 ⟨rfl, h⟩
                        have G3 := Lib.hid (G2.out.more h (Nat.le_refl _))
                        clear h
                        have hrd : Calls Try.prog 15 #[ptr (C + 1), .int .i64 i] x3 fun e w' => e = .returned (.tuple #[.string (str (fill (⟨#[98]⟩ ++ sb).data.toList)), .int .i64 0]) ∧ x3 = w' := by
                          have := read_d G3.out.1 i rfl (by show i < (LB l0 l1 n0 n1 true).length; rw [LB_length]; omega)
                          rw [show (⟨LB l0 l1 n0 n1 true, [], true, -1⟩ : St).last = LB l0 l1 n0 n1 true from rfl, show (⟨LB l0 l1 n0 n1 true, [], true, -1⟩ : St).pend = [] from rfl, appl_nil, HVAL.out] at this
                          exact this
                        generalize str (fill (⟨#[98]⟩ ++ sb).data.toList) = Y at *
                        have HRD := Lib.hid hrd
                        clear hrd
                        go_wp2_with fail
                        refine HRD.out.mono ?_; rintro e x4 ⟨rfl, rfl⟩
                        go_wp2_with fail
                        go_roundw
                        case rel => exact ⟨i + 1, by omega, by go_num, G3.out⟩
                        case measure => simp [intOf]; omega
                      · have hb2 : True := trivial
                        have hfin : final l0 l1 n0 n1 true i = fill (l0.getD i ByteArray.empty).data.toList := by unfold final; rw [if_neg (fun h => hb1 h.2), if_pos ha1]
                        obtain ⟨ab, ao, haA, habw, hac⟩ := HL0.out.1.2 i ha1
                        subst haA
                        have hac2 : ∀ X : World, Below C w1 X → X.cell? ⟨ab, ao + i, none⟩ = some (.string (l0.getD i ByteArray.empty)) := fun X hX => by
                          rw [hX.cell (p := ⟨ab, ao + i, none⟩) (show ab < C by have := HC.out; omega), B1.out.cell (p := ⟨ab, ao + i, none⟩) habw]; exact hac
                        have HAC := Lib.hid hac2
                        have FA := Lib.hid (fill_ok (l0.getD i ByteArray.empty) (HL0.out.2 _ (getD_mem (by rw [HL0.out.1.1]; exact ha1))))
                        clear hac hac2
                        have hai : (i : Int) < n0 := by omega
                        have hbi : decide ((i : Int) < n1) = false := by simp; omega
                        have hbi2 : (n1 : Int) ≤ i := by omega
                        have HVAL := Lib.hid (HG.out.trans hfin)
                        clear hfin HG
                        go_wp2_with fail
                        refine (FE.out _).mono ?_; rintro e x1 ⟨rfl, h⟩
                        have G1 := Lib.hid (HQ.out.more h (Nat.le_refl _))
                        clear h
                        have hx := HAC.out _ G1.out.2
                        generalize l0.getD i ByteArray.empty = sa at *
                        go_wp2_with fail
                        refine (FA.out _).mono ?_; rintro e x2 ⟨rfl, h⟩
                        have G2 := Lib.hid (G1.out.more h (Nat.le_refl _))
                        clear h
                        have hrd : Calls Try.prog 15 #[ptr (C + 1), .int .i64 i] x2 fun e w' => e = .returned (.tuple #[.string (str (fill sa.data.toList)), .int .i64 0]) ∧ x2 = w' := by
                          have := read_d G2.out.1 i rfl (by show i < (LB l0 l1 n0 n1 true).length; rw [LB_length]; omega)
                          rw [show (⟨LB l0 l1 n0 n1 true, [], true, -1⟩ : St).last = LB l0 l1 n0 n1 true from rfl, show (⟨LB l0 l1 n0 n1 true, [], true, -1⟩ : St).pend = [] from rfl, appl_nil, HVAL.out] at this
                          exact this
                        generalize str (fill sa.data.toList) = Y at *
                        have HRD := Lib.hid hrd
                        clear hrd
                        go_wp2_with fail
                        refine HRD.out.mono ?_; rintro e x4 ⟨rfl, rfl⟩
                        go_wp2_with fail
                        go_roundw
                        case rel => exact ⟨i + 1, by omega, by go_num, G2.out⟩
                        case measure => simp [intOf]; omega
                  · cases keep with
                    | false =>
                      have hfin : final l0 l1 n0 n1 false i = zeroS := by unfold final; rw [if_neg (by simp), if_neg ha1]
                      have hai : ¬ (i : Int) < n0 := by omega
                      have hai2 : (n0 : Int) ≤ i := by omega
                      have HVAL := Lib.hid (HG.out.trans hfin)
                      clear hfin HG
                      go_wp2_with fail
                      refine (FE.out _).mono ?_; rintro e x1 ⟨rfl, h⟩
                      have G1 := Lib.hid (HQ.out.more h (Nat.le_refl _))
                      clear h
                      have hrd : Calls Try.prog 15 #[ptr (C + 1), .int .i64 i] x1 fun e w' => e = .returned (.tuple #[.string (str (zeroS)), .int .i64 0]) ∧ x1 = w' := by
                        have := read_d G1.out.1 i rfl (by show i < (LB l0 l1 n0 n1 false).length; rw [LB_length]; omega)
                        rw [show (⟨LB l0 l1 n0 n1 false, [], true, -1⟩ : St).last = LB l0 l1 n0 n1 false from rfl, show (⟨LB l0 l1 n0 n1 false, [], true, -1⟩ : St).pend = [] from rfl, appl_nil, HVAL.out] at this
                        exact this
                      generalize str (zeroS) = Y at *
                      have HRD := Lib.hid hrd
                      clear hrd
                      go_wp2_with fail
                      refine HRD.out.mono ?_; rintro e x4 ⟨rfl, rfl⟩
                      go_wp2_with fail
                      go_roundw
                      case rel => exact ⟨i + 1, by omega, by go_num, G1.out⟩
                      case measure => simp [intOf]; omega
                    | true =>
                      by_cases hb1 : i < n1
                      · have hb2 : True := trivial
                        have hfin : final l0 l1 n0 n1 true i = fill (⟨#[98]⟩ ++ l1.getD i ByteArray.empty).data.toList := by unfold final; rw [if_pos ⟨rfl, hb1⟩]
                        have hai : ¬ (i : Int) < n0 := by omega
                        have hai2 : (n0 : Int) ≤ i := by omega
                        obtain ⟨bb, bo, hbA, hbbw, hbc⟩ := HL1.out.1.2 i hb1
                        subst hbA
                        have hbc2 : ∀ X : World, Below C w1 X → X.cell? ⟨bb, bo + i, none⟩ = some (.string (l1.getD i ByteArray.empty)) := fun X hX => by
                          rw [hX.cell (p := ⟨bb, bo + i, none⟩) (show bb < C by have := HC.out; omega), B1.out.cell (p := ⟨bb, bo + i, none⟩) hbbw]; exact hbc
                        have HBC := Lib.hid hbc2
                        have hbs := HS.out _ (getD_mem (l := l1) (i := i) (d := ByteArray.empty) (by rw [HL1.out.1.1]; exact hb1))
                        have FB := Lib.hid (fill_ok (⟨#[98]⟩ ++ l1.getD i ByteArray.empty) (by rw [ByteArray.size_append]; have : (ByteArray.mk #[98]).size = 1 := rfl; simp only [maxLen]; omega))
                        clear hbc hbc2
                        have hbi : (i : Int) < n1 := by omega
                        have HVAL := Lib.hid (HG.out.trans hfin)
                        clear hfin HG
                        go_wp2_with fail
                        refine (FE.out _).mono ?_; rintro e x1 ⟨rfl, h⟩
                        have G1 := Lib.hid (HQ.out.more h (Nat.le_refl _))
                        clear h
                        have hy := HBC.out _ G1.out.2
                        generalize l1.getD i ByteArray.empty = sb at *
                        go_wp2_with fail
                        refine (FB.out _).mono ?_; rintro e x3 ⟨rfl, h⟩
                        have G3 := Lib.hid (G1.out.more h (Nat.le_refl _))
                        clear h
                        have hrd : Calls Try.prog 15 #[ptr (C + 1), .int .i64 i] x3 fun e w' => e = .returned (.tuple #[.string (str (fill (⟨#[98]⟩ ++ sb).data.toList)), .int .i64 0]) ∧ x3 = w' := by
                          have := read_d G3.out.1 i rfl (by show i < (LB l0 l1 n0 n1 true).length; rw [LB_length]; omega)
                          rw [show (⟨LB l0 l1 n0 n1 true, [], true, -1⟩ : St).last = LB l0 l1 n0 n1 true from rfl, show (⟨LB l0 l1 n0 n1 true, [], true, -1⟩ : St).pend = [] from rfl, appl_nil, HVAL.out] at this
                          exact this
                        generalize str (fill (⟨#[98]⟩ ++ sb).data.toList) = Y at *
                        have HRD := Lib.hid hrd
                        clear hrd
                        go_wp2_with fail
                        refine HRD.out.mono ?_; rintro e x4 ⟨rfl, rfl⟩
                        go_wp2_with fail
                        go_roundw
                        case rel => exact ⟨i + 1, by omega, by go_num, G3.out⟩
                        case measure => simp [intOf]; omega
                      · have hb2 : True := trivial
                        have hfin : final l0 l1 n0 n1 true i = zeroS := by unfold final; rw [if_neg (fun h => hb1 h.2), if_neg ha1]
                        have hai : ¬ (i : Int) < n0 := by omega
                        have hai2 : (n0 : Int) ≤ i := by omega
                        have hbi : decide ((i : Int) < n1) = false := by simp; omega
                        have hbi2 : (n1 : Int) ≤ i := by omega
                        have HVAL := Lib.hid (HG.out.trans hfin)
                        clear hfin HG
                        go_wp2_with fail
                        refine (FE.out _).mono ?_; rintro e x1 ⟨rfl, h⟩
                        have G1 := Lib.hid (HQ.out.more h (Nat.le_refl _))
                        clear h
                        have hrd : Calls Try.prog 15 #[ptr (C + 1), .int .i64 i] x1 fun e w' => e = .returned (.tuple #[.string (str (zeroS)), .int .i64 0]) ∧ x1 = w' := by
                          have := read_d G1.out.1 i rfl (by show i < (LB l0 l1 n0 n1 true).length; rw [LB_length]; omega)
                          rw [show (⟨LB l0 l1 n0 n1 true, [], true, -1⟩ : St).last = LB l0 l1 n0 n1 true from rfl, show (⟨LB l0 l1 n0 n1 true, [], true, -1⟩ : St).pend = [] from rfl, appl_nil, HVAL.out] at this
                          exact this
                        generalize str (zeroS) = Y at *
                        have HRD := Lib.hid hrd
                        clear hrd
                        go_wp2_with fail
                        refine HRD.out.mono ?_; rintro e x4 ⟨rfl, rfl⟩
                        go_wp2_with fail
                        go_roundw
                        case rel => exact ⟨i + 1, by omega, by go_num, G1.out⟩
                        case measure => simp [intOf]; omega
                · obtain rfl : i = 40 := by omega
                  go_wp2_with fail
                  go_ret
                  exact ⟨rfl, B1.out.trans (HQ.out.2.mono HC.out)⟩

/-! The row's step. -/
set_option maxRecDepth 100000 in
theorem lifted (os : Os) (started : os.Started) (H : Type) (enc : TypeId × Value → H) :
    ReturnsInHanded {} Try.checked os 8 .any (Rows.diskSyncsSpec.pre6 enc Try.prog Try.f8 Rows.diskSyncsRow.domain false) (Rows.diskSyncsSpec.post enc Try.prog Try.f8 false true false false) := by
  refine returnsInHanded_of_change_sized (C := Try.checked) own started (by kernel_rfl) Try.func8
    (ChangeSpec.witness6 (enc := enc) (C := Try.checked) false ⟨#[], #[.slice none 0 0, .slice none 0 0, .bool false], []⟩ 8 (by kernel_rfl) (by kernel_rfl) (by kernel_rfl) (by kernel_rfl)) ?_
  intro W base args ds gs before hval0 hW hcnd hsz0 _
  have hsz : (DataW.weightsEach Try.prog (Try.f8.params.toList ++ Rows.diskSyncsSpec.plain.varTypes Try.prog) (ds ++ gs)).all (· ≤ reachBytes) = true := hsz0
  have hval : ∀ (j : Nat) t v, Try.f8.params[j]? = some t → args[j]? = some v → Value.okWide Try.prog W .any base t v := hval0
  have hW' := hW
  obtain ⟨p, q, hA0, hV, rfl, hfz, hnd⟩ := hW
  have hA : DataW.TrodAll enc Try.prog W 0 (fun _ => true) true Try.f8.params.toList args.toList ds p := hA0
  rw [Try.params8] at hA hval hsz
  obtain ⟨v0, vs0, d0, ds0, p0, q0, hargs, rfl, rfl, h0, r0⟩ := trodAll_cons hA
  obtain ⟨v1, vs1, d1, ds1, p1, q1, rfl, rfl, rfl, h1, r1⟩ := trodAll_cons r0
  obtain ⟨v2, vs2, d2, ds2, p2, q2, rfl, rfl, rfl, h2, r2⟩ := trodAll_cons r1
  obtain ⟨rfl, rfl, rfl⟩ := trodAll_nil r2
  obtain rfl : args = #[v0, v1, v2] := by cases args; simp_all
  obtain ⟨rfl, rfl⟩ := trodVars_none hV
  obtain ⟨A0, n0, c0, rfl⟩ := okWide_slice Try.underlying42 (hval 0 42 v0 rfl rfl)
  have k0 := h0
  have lt0 : ∀ x ∈ p0, x.block < W.heap.size := by obtain ⟨m, hm⟩ := k0; exact DataW.trod_lt m _ _ _ hm
  obtain ⟨l0, w0, e0, f0⟩ := (by obtain ⟨fuel, hf⟩ := h0; exact strs_read hf (fun _ => rfl) : ∃ l, Strs W A0 n0 l ∧ n0 ≤ c0 ∧ c0 ≤ maxLen)
  obtain ⟨A1, n1, c1, rfl⟩ := okWide_slice Try.underlying42 (hval 1 42 v1 rfl rfl)
  have k1 := h1
  have lt1 : ∀ x ∈ p1, x.block < W.heap.size := by obtain ⟨m, hm⟩ := k1; exact DataW.trod_lt m _ _ _ hm
  obtain ⟨l1, w1, e1, f1, z1⟩ := (by obtain ⟨fuel, hf⟩ := h1; exact strz_read hf (fun _ => rfl) : ∃ l, Strs W A1 n1 l ∧ n1 ≤ c1 ∧ c1 ≤ maxLen ∧ ∀ (ts : List TypeId) (ds : List (DataW _)) (i : Nat), (DataW.weightsEach Try.prog ts ds).all (· ≤ reachBytes) = true → ts[i]? = some 42 → ds[i]? = some d1 → ∀ s ∈ l, s.size ≤ reachBytes)
  have s1 : ∀ s ∈ l1, s.size ≤ 140737488351232 := by have := z1 _ _ 1 hsz rfl rfl; simpa [reachBytes] using this
  obtain ⟨a2, rfl, rfl, rfl⟩ := open_bool Try.underlying4 (hval 2 4 v2 rfl rfl) h2
  clear hA0 hval0
  refine (walk A0 n0 c0 l0 A1 n1 c1 l1 a2 W w0 (Nat.le_trans e0 f0) w1 (Nat.le_trans e1 f1) s1).mono fun e W' ⟨he, bel⟩ => ?_
  subst he
  exact ⟨_, rfl, _, _, _, [], _, [], hW', trodAll_mk1 (shut_bool Try.underlying4 _), (trodAll_cons_mk (Below.trod laidOut (by kernel_rfl) (of_decide_eq_true (by kernel_rfl)) k0 bel lt0) (trodAll_cons_mk (Below.trod laidOut (by kernel_rfl) (of_decide_eq_true (by kernel_rfl)) k1 bel lt1) (trodAll_cons_mk (shut_bool Try.underlying4 _) trodAll_mk0))), rfl, bel.frame _, fun h => by cases h⟩

theorem over : Rows.diskSyncsRow.holds Try.pinned (OpenSpec.ofChange Rows.diskSyncsSpec) :=
  OpenClaim.holds_of_wide 8 Try.f8 rfl rfl rfl rfl rfl rfl rfl ⟨rfl, rfl, rfl, rfl, rfl⟩ rfl rfl rfl rfl rfl (by kernel_rfl) Try.func8 (by kernel_rfl)
    (of_decide_eq_true (by kernel_rfl)) (by unfold Func.isWrapper; first | (rw [if_pos (by decide +kernel)]; kernel_rfl) | (rw [if_neg (by decide +kernel)]; exact ⟨rfl, rfl⟩))
    (fun os started H enc _ => lifted os started H enc)

/-- The statement. -/
theorem proved : Rows.DiskSyncsSaid := over
end Go.Proofs.Ytbfboccjlplapaa.diskSyncs
