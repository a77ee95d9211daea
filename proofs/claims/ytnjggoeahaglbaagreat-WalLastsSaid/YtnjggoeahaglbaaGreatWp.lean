/- The plain mathematics of chapter 14: what a log's sectors hold behind a flush, and behind a crash. -/
import Derived.Test.YtnjggoeahaglbaaGreatFp
namespace Go.Proofs.YtnjggoeahaglbaaGreat.Fr
open Go.RowKit
set_option linter.unusedVariables false
/-- Either reading stops within the first part, or all of it is read, and the rest behind it. -/
theorem scan_parts : ∀ (l m : List BA) (i : Nat) (s : Sc), scanX i s (l ++ m) = scanX i s l ∨ (scanX i s (l ++ m) = scanX (i + l.length) (scanX i s l) m)
  | [], m, i, s => .inr (by simp [scanX])
  | b :: l, m, i, s => by
    by_cases ha : accX i s.last b = true
    · have e : ∀ t, scanX i s (b :: t) = scanX (i + 1) (feedX i s (gotX b)) t := fun t => by
        show (if accX i s.last b then _ else _) = _
        rw [if_pos ha]
      rw [List.cons_append, e, e, List.length_cons]
      rcases scan_parts l m (i + 1) (feedX i s (gotX b)) with h | h
      · exact .inl h
      · exact .inr (by rw [h, show i + 1 + l.length = i + (l.length + 1) by omega])
    · left
      have hf : accX i s.last b = false := by simpa using ha
      rw [List.cons_append, acc_stop hf, acc_stop hf]
/-- The epoch that was read last is one of the sectors', or the one before them. -/
theorem scan_last {q : Int} : ∀ (l : List BA) (i : Nat) (s : Sc), (∀ b ∈ l, Low q b) → s.last ≤ q → (scanX i s l).last ≤ q
  | [], i, s, _, h => h
  | b :: l, i, s, hl, h => by
    by_cases ha : accX i s.last b = true
    · have e : scanX i s (b :: l) = scanX (i + 1) (feedX i s (gotX b)) l := by
        show (if accX i s.last b then _ else _) = _
        rw [if_pos ha]
      rw [e]
      refine scan_last l (i + 1) _ (fun x hx => hl x (List.mem_cons_of_mem _ hx)) ?_
      have hg : getOkX b = true := by unfold accX at ha; rw [Bool.and_eq_true] at ha; exact ha.1
      rcases hl b List.mem_cons_self with h1 | h1
      · rw [hg] at h1; cases h1
      · exact h1
    · have hf : accX i s.last b = false := by simpa using ha
      rw [acc_stop hf]
      exact h
/-- Where reading stands behind the last record: a state whose last epoch is that record's; what follows adds none. -/
theorem scan_at (D : List BA) : ∃ st, (scan D).next ≤ D.length ∧ AccTo 0 sc0 (D.take (scan D).next) (D.take (scan D).next).length ∧ scanX 0 sc0 (D.take (scan D).next) = st ∧ st.out = (scan D).out ∧ st.last = (scan D).ep ∧ scanX (scan D).next st (D.drop (scan D).next) = scan D := by
  have hle := scan_next_le D
  rcases scan_stand D 0 sc0 with ⟨h1, h2, h3⟩ | ⟨k, h1, h2, h3, h4, h5⟩
  · have h1' : (scan D).out = [] := h1
    have h2' : (scan D).next = 0 := h2
    have h3' : (scan D).ep = 0 := h3
    rw [h1', h2', h3']
    exact ⟨sc0, Nat.zero_le _, fun j hj => by simp at hj, rfl, rfl, rfl, rfl⟩
  · have h2' : (scan D).next = k + 1 := by have : (scan D).next = 0 + k + 1 := h2; omega
    have hlk : (D.take (k + 1)).length = k + 1 := by rw [List.length_take]; omega
    have hacc : AccTo 0 sc0 (D.take (k + 1)) (D.take (k + 1)).length := by
      intro j hj
      rw [hlk] at hj
      have := h3 j hj
      rw [List.take_take, Nat.min_eq_left (by omega), List.getD_eq_getElem?_getD, List.getElem?_take, if_pos hj, ← List.getD_eq_getElem?_getD]
      exact this
    rw [h2']
    refine ⟨_, by omega, hacc, rfl, h4, h5, ?_⟩
    have e := scan_to (m := D.drop (k + 1)) hacc
    rw [List.take_append_drop, hlk, Nat.zero_add] at e
    exact e.symm
/-- Written on: a batch behind what was read last, of an epoch not below. -/
theorem scan_flush {D D' l : List BA} {e : Int} (hD : D' = D.take (scan D).next ++ (batB e (scan D).next l ++ D.drop ((scan D).next + (batB e (scan D).next l).length))) (he : (scan D).ep ≤ e) (hb : batOk e (scan D).next l = true) (hN : ∀ b ∈ D.drop (scan D).next, Low (e - 1) b) :
    (scan D').out = (scan D).out ++ l ∧ (scan D').next = (scan D).next + (batB e (scan D).next l).length ∧ (scan D').ep = e :=
  scan_anew hD he hb (halts_low (q := e - 1) (fun b hb' => hN b (by rw [← List.drop_drop] at hb'; exact List.mem_of_mem_drop hb')) (by omega))
theorem flush_low {D D' l : List BA} {n : Nat} {e : Int} (hn : n + (batB e (n : Int) l).length ≤ D.length) (hD : D' = D.take n ++ (batB e (n : Int) l ++ D.drop (n + (batB e (n : Int) l).length))) (hL : ∀ b ∈ D, Low e b) (hN : ∀ b ∈ D.drop n, Low (e - 1) b) :
    D'.length = D.length ∧ (∀ b ∈ D', Low e b) ∧ ∀ b ∈ D'.drop (n + (batB e (n : Int) l).length), Low (e - 1) b := by
  subst hD
  refine ⟨?_, ?_, ?_⟩
  · rw [List.length_append, List.length_append, List.length_take, List.length_drop]; omega
  · intro b hb
    rcases List.mem_append.1 hb with hb | hb
    · exact hL b (List.mem_of_mem_take hb)
    · rcases List.mem_append.1 hb with hb | hb
      · exact low_bat b hb
      · exact hL b (List.mem_of_mem_drop hb)
  · intro b hb
    have e1 : (D.take n).length = n := by rw [List.length_take]; omega
    rw [← List.append_assoc, List.drop_left' (by rw [List.length_append, e1])] at hb
    rw [← List.drop_drop] at hb
    exact hN b (List.mem_of_mem_drop hb)
/-- What a crash leaves of a batch: the sectors that are kept. -/
def keptX (D b : List BA) (n : Nat) (keep : Nat → Bool) : List BA := (List.range D.length).map fun j => if n ≤ j ∧ j < n + b.length ∧ keep (j - n) = true then b.getD (j - n) [] else D.getD j []
theorem keptX_length (D b : List BA) (n : Nat) (keep : Nat → Bool) : (keptX D b n keep).length = D.length := by simp [keptX]
theorem keptX_at (D b : List BA) (n : Nat) (keep : Nat → Bool) {j : Nat} (h : j < D.length) : (keptX D b n keep)[j]? = some (if n ≤ j ∧ j < n + b.length ∧ keep (j - n) = true then b.getD (j - n) [] else D.getD j []) := by
  simp [keptX, h]
theorem keptX_take (D b : List BA) (n : Nat) (keep : Nat → Bool) : (keptX D b n keep).take n = D.take n := by
  apply List.ext_getElem?
  intro j
  rw [List.getElem?_take, List.getElem?_take]
  by_cases hj : j < n
  · rw [if_pos hj, if_pos hj]
    by_cases hd : j < D.length
    · rw [keptX_at _ _ _ _ hd, if_neg (by omega), List.getD_eq_getElem?_getD, List.getElem?_eq_getElem hd]; rfl
    · rw [List.getElem?_eq_none (by rw [keptX_length]; omega), List.getElem?_eq_none (by omega)]
  · rw [if_neg hj, if_neg hj]
/-- The sectors from n on, the first j of which are the batch's, or none of them. -/
theorem keptX_part (D b : List BA) (n j : Nat) (keep : Nat → Bool) (hn : n + b.length ≤ D.length) (hj : j ≤ b.length) (hk : ∀ t, t < j → keep t = true) : ((keptX D b n keep).drop n).take j = b.take j := by
  apply List.ext_getElem?
  intro t
  rw [List.getElem?_take, List.getElem?_take]
  by_cases ht : t < j
  · rw [if_pos ht, if_pos ht, List.getElem?_drop, keptX_at _ _ _ _ (by omega), if_pos ⟨by omega, by omega, by rw [Nat.add_sub_cancel_left]; exact hk t ht⟩, Nat.add_sub_cancel_left, List.getD_eq_getElem?_getD, List.getElem?_eq_getElem (by omega)]; rfl
  · rw [if_neg ht, if_neg ht]
theorem keptX_none (D b : List BA) (n j : Nat) (keep : Nat → Bool) (hn : n + b.length ≤ D.length) (hj : n + j ≤ D.length) (hk : ∀ t, t < j → keep t = false) : ((keptX D b n keep).drop n).take j = (D.drop n).take j := by
  apply List.ext_getElem?
  intro t
  rw [List.getElem?_take, List.getElem?_take]
  by_cases ht : t < j
  · rw [if_pos ht, if_pos ht, List.getElem?_drop, List.getElem?_drop, keptX_at _ _ _ _ (by omega), if_neg (by rintro ⟨_, _, h⟩; rw [Nat.add_sub_cancel_left, hk t ht] at h; cases h), List.getD_eq_getElem?_getD, List.getElem?_eq_getElem (show n + t < D.length by omega)]; rfl
  · rw [if_neg ht, if_neg ht]
theorem keptX_low {D b : List BA} {n : Nat} {keep : Nat → Bool} {e : Int} (hL : ∀ x ∈ D, Low e x) (hB : ∀ x ∈ b, Low e x) : ∀ x ∈ keptX D b n keep, Low e x := by
  intro x hx
  obtain ⟨j, hj, rfl⟩ := List.mem_map.1 hx
  have hjl := List.mem_range.1 hj
  split
  · rename_i h
    rw [List.getD_eq_getElem?_getD, List.getElem?_eq_getElem (show j - n < b.length by omega)]
    exact hB _ (List.getElem_mem _)
  · rw [List.getD_eq_getElem?_getD, List.getElem?_eq_getElem hjl]
    exact hL _ (List.getElem_mem _)
theorem keptX_rest (D b : List BA) (n : Nat) (keep : Nat → Bool) : (keptX D b n keep).drop (n + b.length) = D.drop (n + b.length) := by
  apply List.ext_getElem?
  intro t
  rw [List.getElem?_drop, List.getElem?_drop]
  by_cases hd : n + b.length + t < D.length
  · rw [keptX_at _ _ _ _ hd, if_neg (by omega), List.getD_eq_getElem?_getD, List.getElem?_eq_getElem hd]; rfl
  · rw [List.getElem?_eq_none (by rw [keptX_length]; omega), List.getElem?_eq_none (by omega)]
/-- The first of a row that is not so. -/
theorem first_not (p : Nat → Bool) : ∀ N : Nat, ∃ k, k ≤ N ∧ (∀ t, t < k → p t = true) ∧ (k < N → p k = false)
  | 0 => ⟨0, Nat.le_refl _, fun t ht => absurd ht (Nat.not_lt_zero _), fun h => absurd h (Nat.lt_irrefl _)⟩
  | N + 1 => by
    obtain ⟨k, h1, h2, h3⟩ := first_not p N
    by_cases e : k < N
    · exact ⟨k, by omega, h2, fun _ => h3 e⟩
    · obtain rfl : k = N := by omega
      cases hp : p k with
      | false => exact ⟨k, by omega, h2, fun _ => hp⟩
      | true => exact ⟨k + 1, Nat.le_refl _, fun t ht => by
          by_cases e2 : t < k
          · exact h2 t e2
          · obtain rfl : t = k := by omega
            exact hp, fun h => absurd h (Nat.lt_irrefl _)⟩
theorem scan_crash {D l : List BA} {e : Int} {keep : Nat → Bool} (he : (scan D).ep ≤ e) (hb : batOk e (scan D).next l = true) (hfit : (scan D).next + (batB e (scan D).next l).length ≤ D.length) (hN : ∀ b ∈ D.drop (scan D).next, Low (e - 1) b) :
    ∃ m c, l = m ++ c ∧ (scan (keptX D (batB e (scan D).next l) (scan D).next keep)).out = (scan D).out ++ m := by
  obtain ⟨st, hle, hacc, hst, ho, hlast, hrest⟩ := scan_at D
  obtain ⟨n, hn⟩ : ∃ n, n = (scan D).next := ⟨_, rfl⟩
  rw [← hn] at hb hfit hN hle hacc hst hrest ⊢
  have hlen := batB_length hb
  have hpos : 0 < (batB e n l).length := by
    have := strm_pos (batOk_iff.1 hb).1
    rw [hlen]; unfold npX; omega
  obtain ⟨B, hB⟩ : ∃ B, B = batB e n l := ⟨_, rfl⟩
  obtain ⟨D', hD'⟩ : ∃ D', D' = keptX D B n keep := ⟨_, rfl⟩
  rw [← hB] at hfit hpos ⊢
  rw [← hD']
  have hle' : (scan D).ep ≤ e := he
  have hst' : st.last ≤ e := by rw [hlast]; exact he
  have hdl : D'.length = D.length := by rw [hD']; exact keptX_length _ _ _ _
  have hnl : (D.take n).length = n := by rw [List.length_take]; omega
  have htk : D'.take n = D.take n := by rw [hD']; exact keptX_take _ _ _ _
  have hsc : scan D' = scanX n st (D'.drop n) := by
    have e1 := scan_to (m := D'.drop n) hacc
    rw [hnl, Nat.zero_add, hst, ← htk, List.take_append_drop] at e1
    exact e1
  rw [hsc]
  have hlow : ∀ t, t < D.length - n → Low (e - 1) (D.getD (n + t) []) := fun t ht => by
    refine hN _ ?_
    rw [List.getD_eq_getElem?_getD, List.getElem?_eq_getElem (show n + t < D.length by omega)]
    have : D[n + t] = (D.drop n)[t]'(by rw [List.length_drop]; omega) := by rw [List.getElem_drop]
    show D[n + t] ∈ _
    rw [this]
    exact List.getElem_mem _
  have hat : ∀ t, t < B.length → keep t = false → (D'.drop n) = (D'.drop n).take t ++ (D.getD (n + t) [] :: D'.drop (n + t + 1)) := fun t ht hk => by
    have h1 : n + t < D'.length := by omega
    have e1 : D'.drop (n + t) = D.getD (n + t) [] :: D'.drop (n + t + 1) := by
      rw [List.drop_eq_getElem_cons h1]
      congr 1
      have h2 := keptX_at D B n keep (j := n + t) (by omega)
      rw [if_neg (by rintro ⟨_, _, h⟩; rw [Nat.add_sub_cancel_left, hk] at h; cases h), ← hD', List.getElem?_eq_getElem h1] at h2
      exact Option.some.inj h2
    rw [← e1, ← List.drop_drop, List.take_append_drop]
  obtain ⟨f, hf1, hf2, hf3⟩ := first_not keep B.length
  by_cases h0 : f = 0
  · subst h0
    have hk0 := hf3 hpos
    by_cases hee : st.last = e
    · refine ⟨[], l, rfl, ?_⟩
      have := hat 0 hpos hk0
      rw [List.take_zero, List.nil_append] at this
      rw [this, acc_stop (by rw [hee]; exact (hlow 0 (by omega)).stop (by omega) n), ho, List.append_nil]
    · refine ⟨[], l, rfl, ?_⟩
      rw [List.append_nil, ← ho]
      obtain ⟨j, hj1, hj2, hj3⟩ := first_not (fun t => !keep t) B.length
      have hj2' : ∀ t, t < j → keep t = false := fun t ht => by simpa using hj2 t ht
      have hpart := keptX_none D B n j keep hfit (by omega) hj2'
      rw [← hD'] at hpart
      have hl1 : ∀ x ∈ (D.drop n).take j, Low (e - 1) x := fun x hx => hN x (List.mem_of_mem_take hx)
      have hl2 := scan_last _ n st hl1 (by omega)
      have hout : (scanX n st ((D.drop n).take j)).out = st.out := by
        obtain ⟨m1, hm1⟩ := scan_adds ((D.drop n).take j) n st
        have e2 : scanX n st ((D.drop n).take j ++ (D.drop n).drop j) = scan D := by rw [List.take_append_drop]; exact hrest
        rcases scan_parts ((D.drop n).take j) ((D.drop n).drop j) n st with h | h
        · rw [← h, e2, ho]
        · obtain ⟨m2, hm2⟩ := scan_adds ((D.drop n).drop j) (n + ((D.drop n).take j).length) (scanX n st ((D.drop n).take j))
          rw [← h, e2, hm1, ← ho] at hm2
          have hl9 := congrArg List.length hm2
          rw [List.length_append, List.length_append] at hl9
          have : m1 = [] := List.eq_nil_of_length_eq_zero (by omega)
          rw [hm1, this, List.append_nil]
      have e3 : D'.drop n = (D.drop n).take j ++ D'.drop (n + j) := by rw [← hpart, ← List.drop_drop, List.take_append_drop]
      have hljl : ((D.drop n).take j).length = j := by rw [List.length_take, List.length_drop]; omega
      by_cases hjl : j < B.length
      case neg =>
        have hj9 : j = B.length := by omega
        have e5 := keptX_rest D B n keep
        rw [← hD'] at e5
        rw [hj9, e5, ← List.drop_drop, List.take_append_drop] at e3
        rw [e3, hrest, ho]
      rw [e3]
      rcases scan_parts ((D.drop n).take j) (D'.drop (n + j)) n st with h | h
      · rw [h, hout]
      · rw [h, hljl]
        have hh : Halts (n + j) (scanX n st ((D.drop n).take j)).last (D'.drop (n + j)) := by
          · have hkj : keep j = true := by simpa using hj3 hjl
            have hj0 : j ≠ 0 := fun e9 => by rw [e9, hk0] at hkj; cases hkj
            have h1 : n + j < D'.length := by omega
            refine .inr ⟨_, _, List.drop_eq_getElem_cons h1, ?_⟩
            have h2 := keptX_at D B n keep (j := n + j) (by omega)
            rw [if_pos ⟨by omega, by omega, by rw [Nat.add_sub_cancel_left]; exact hkj⟩, ← hD', List.getElem?_eq_getElem h1, Nat.add_sub_cancel_left] at h2
            rw [Option.some.inj h2]
            have hbj := batB_at hb (k := j) (by rw [← hlen, ← hB]; exact hjl)
            rw [← hB] at hbj
            rw [List.getD_eq_getElem?_getD, hbj]
            show accX (n + j) _ (encX (secX e n (strmB l) j)) = false
            have hx := (batOk_iff.1 hb).2 j (by rw [← hlen, ← hB]; exact hjl)
            unfold accX
            rw [gotX_enc hx]
            have hne : decide ((secX e n (strmB l) j).ep = (scanX n st ((D.drop n).take j)).last) = false := decide_eq_false (fun h9 => by
              have : (secX e n (strmB l) j).ep = e := rfl
              omega)
            have hfr : (secX e n (strmB l) j).fr = false := decide_eq_false hj0
            rw [hne, hfr]
            simp
        rw [hh.scan, hout]
  · by_cases hfl : f < B.length
    · have hkf := hf3 hfl
      have hpt := keptX_part D B n f keep hfit hf1 hf2
      rw [← hD'] at hpt
      have hA := hat f hfl hkf
      rw [hpt] at hA
      obtain ⟨p1, p2⟩ := bat_part (s := st) hb hst' f (by rw [← hlen, ← hB]; exact hf1)
      obtain ⟨p3, p4⟩ := p2 (by omega)
      rw [← hB] at p1 p3 p4
      have hal : (B.take f).length = f := by rw [List.length_take]; omega
      have e1 := scan_to (take_acc p1 hf1) (m := D.getD (n + f) [] :: D'.drop (n + f + 1))
      rw [hA, e1, hal, acc_stop (by rw [p4]; exact (hlow f (by omega)).stop (by omega) (n + f))]
      obtain ⟨_, a, c, q1, q2, _, _⟩ := p3
      exact ⟨a, c, q1, by rw [q2, ho]⟩
    · have hfB : f = B.length := by omega
      subst hfB
      refine ⟨l, [], by simp, ?_⟩
      have hpt := keptX_part D B n B.length keep hfit (Nat.le_refl _) hf2
      rw [← hD', List.take_of_length_le (Nat.le_refl B.length)] at hpt
      have e5 := keptX_rest D B n keep
      rw [← hD'] at e5
      have e1 : D'.drop n = B ++ D.drop (n + B.length) := by
        have h9 := List.take_append_drop B.length (D'.drop n)
        rw [hpt, List.drop_drop, e5] at h9
        exact h9.symm
      obtain ⟨r1, r2, r3, r4, r5⟩ := bat_read (s := st) hb hst'
      rw [e1, hB, scan_bat hb hst']
      rw [(halts_low (q := e - 1) (e := (scanX n st (batB e n l)).last) (i := n + (batB e n l).length) (m := D.drop (n + (batB e n l).length)) (fun b hb' => hN b (by rw [← List.drop_drop] at hb'; exact List.mem_of_mem_drop hb')) (by rw [r5]; omega)).scan, r2, ho]
end Go.Proofs.YtnjggoeahaglbaaGreat.Fr
