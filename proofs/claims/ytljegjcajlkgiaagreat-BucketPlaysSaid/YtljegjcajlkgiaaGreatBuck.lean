/- Plain mathematics for buckets: cells found, set, cut by their keys; rising lists; parted by a bit. No program. -/
import Derived.Test.YtljegjcajlkgiaaGreatPlain
namespace Go.Proofs.YtljegjcajlkgiaaGreat
set_option linter.unusedVariables false
open Lib (compareBytes)
def isB (k : ByteArray) (c : Ce) : Bool := decide (k.data.toList = c.key.data.toList)
def otherB (k : ByteArray) (c : Ce) : Bool := !isB k c
def beforeB (k : ByteArray) (c : Ce) : Bool := decide (compareBytes k.data.toList c.key.data.toList < 0)
def afterB (k : ByteArray) (c : Ce) : Bool := decide (compareBytes c.key.data.toList k.data.toList < 0)
theorem isB_iff {k : ByteArray} {c : Ce} : isB k c = true ↔ k = c.key := by
  unfold isB
  rw [decide_eq_true_iff]
  exact ⟨data_inj, fun h => by rw [h]⟩
theorem isB_no {k : ByteArray} {c : Ce} : isB k c = false ↔ k ≠ c.key := by
  rw [← Bool.not_eq_true, Ne, isB_iff]
theorem after_lt {x c : Ce} : afterB c.key x = ltK x c := rfl
theorem before_lt {x c : Ce} : beforeB c.key x = ltK c x := rfl
theorem tri (k : ByteArray) (x : Ce) : (isB k x = true ∧ afterB k x = false ∧ beforeB k x = false) ∨ (isB k x = false ∧ afterB k x = true ∧ beforeB k x = false) ∨ (isB k x = false ∧ afterB k x = false ∧ beforeB k x = true) := by
  unfold isB afterB beforeB
  have hn := cb_neg k.data.toList x.key.data.toList
  by_cases e : k.data.toList = x.key.data.toList
  · refine .inl ⟨decide_eq_true e, ?_, ?_⟩
    · rw [e, cb_self]; rfl
    · rw [e, cb_self]; rfl
  · have h0 : compareBytes k.data.toList x.key.data.toList ≠ 0 := fun h => e (cb_eq _ _ h)
    by_cases h : compareBytes k.data.toList x.key.data.toList < 0
    · exact .inr (.inr ⟨decide_eq_false e, decide_eq_false (by omega), decide_eq_true h⟩)
    · exact .inr (.inl ⟨decide_eq_false e, decide_eq_true (by omega), decide_eq_false h⟩)
def cutS (l : List Ce) (k : ByteArray) : List Ce := l.filter (otherB k)
def setS (l : List Ce) (c : Ce) : List Ce := l.filter (afterB c.key) ++ [c] ++ l.filter (beforeB c.key)
def findS (l : List Ce) (k : ByteArray) : Option Ce := l.find? (isB k)
def Rise (l : List Ce) : Prop := l.Pairwise fun a b => ltK a b = true
theorem rise_iff {l : List Ce} : risesB l = true ↔ Rise l := ⟨rises_pair, pair_rises⟩
theorem Rise.nil : Rise [] := List.Pairwise.nil
theorem Rise.filter {l : List Ce} (h : Rise l) (p : Ce → Bool) : Rise (l.filter p) := List.Pairwise.filter p h
theorem rise_set {l : List Ce} (h : Rise l) (c : Ce) : Rise (setS l c) := by
  unfold setS Rise
  rw [List.append_assoc]
  refine List.pairwise_append.2 ⟨h.filter _, List.pairwise_cons.2 ⟨fun y hy => ?_, h.filter _⟩, fun x hx y hy => ?_⟩
  · rw [← before_lt]; exact (List.mem_filter.1 hy).2
  · have h1 : ltK x c = true := by rw [← after_lt]; exact (List.mem_filter.1 hx).2
    rcases List.mem_cons.1 hy with rfl | hy
    · exact h1
    · exact ltK_trans h1 (by rw [← before_lt]; exact (List.mem_filter.1 hy).2)
theorem cut_nil (k : ByteArray) : cutS [] k = [] := rfl
theorem filter_all {l : List Ce} {p : Ce → Bool} (h : ∀ x ∈ l, p x = true) : l.filter p = l := List.filter_eq_self.2 h
theorem filter_none {l : List Ce} {p : Ce → Bool} (h : ∀ x ∈ l, p x = false) : l.filter p = [] := List.filter_eq_nil_iff.2 fun x hx => by rw [h x hx]; simp
/-- What is left of rising cells: those below the key, then those above it. -/
theorem cut_rise (k : ByteArray) : ∀ {l : List Ce}, Rise l → cutS l k = l.filter (afterB k) ++ l.filter (beforeB k)
  | [], _ => rfl
  | x :: l, h => by
    obtain ⟨hx, hl⟩ := List.pairwise_cons.1 h
    have ih := cut_rise k hl
    unfold cutS at ih ⊢
    have hr : afterB k x = false → ∀ y ∈ l, isB k y = false ∧ afterB k y = false ∧ beforeB k y = true := fun h0 y hy => by
      have h1 := hx y hy
      have h2 : beforeB k y = true := by
        unfold afterB beforeB at *
        unfold ltK cmpK at h1
        have h1 := of_decide_eq_true h1
        have h0 := of_decide_eq_false h0
        refine decide_eq_true ?_
        rw [cb_neg] at h0
        by_cases e : compareBytes k.data.toList x.key.data.toList = 0
        · rw [cb_eq _ _ e]; exact h1
        · exact cb_trans _ _ _ (by omega) h1
      rcases tri k y with h | h | h
      · rw [h.2.2] at h2; cases h2
      · rw [h.2.2] at h2; cases h2
      · exact h
    rcases tri k x with ⟨h1, h2, h3⟩ | ⟨h1, h2, h3⟩ | ⟨h1, h2, h3⟩
    · have e1 : l.filter (afterB k) = [] := filter_none fun y hy => (hr h2 y hy).2.1
      have e2 : l.filter (beforeB k) = l := filter_all fun y hy => (hr h2 y hy).2.2
      have e3 : l.filter (otherB k) = l := filter_all fun y hy => by unfold otherB; rw [(hr h2 y hy).1]; rfl
      simp [otherB, h1, h2, h3, e1, e2]
      exact fun y hy => (hr h2 y hy).1
    · rw [List.filter_cons, if_pos (show otherB k x = true by unfold otherB; rw [h1]; rfl), List.filter_cons, if_pos h2, List.filter_cons, if_neg (by rw [h3]; simp), ih]
      rfl
    · have e1 : l.filter (afterB k) = [] := filter_none fun y hy => (hr h2 y hy).2.1
      rw [List.filter_cons, if_pos (show otherB k x = true by unfold otherB; rw [h1]; rfl), List.filter_cons, if_neg (by rw [h2]; simp), List.filter_cons, if_pos h3, ih, e1]
      rfl
theorem set_perm {l : List Ce} (h : Rise l) (c : Ce) : (setS l c).Perm (c :: cutS l c.key) := by
  rw [cut_rise c.key h]
  unfold setS
  rw [List.append_assoc]
  exact List.perm_middle
theorem mem_set {l : List Ce} (h : Rise l) {c x : Ce} : x ∈ setS l c ↔ x = c ∨ x ∈ cutS l c.key := by
  rw [(set_perm h c).mem_iff, List.mem_cons]
theorem mem_cut {l : List Ce} {k : ByteArray} {x : Ce} : x ∈ cutS l k ↔ x ∈ l ∧ x.key ≠ k := by
  unfold cutS
  rw [List.mem_filter]
  unfold otherB
  rw [Bool.not_eq_true', isB_no]
  exact ⟨fun h => ⟨h.1, fun e => h.2 e.symm⟩, fun h => ⟨h.1, fun e => h.2 e.symm⟩⟩
theorem sums_perm {l m : List Ce} (h : l.Perm m) : sums l = sums m := (h.map sizeC).sum_nat
theorem sums_set {l : List Ce} (h : Rise l) (c : Ce) : sums (setS l c) = sizeC c + sums (cutS l c.key) := by
  rw [sums_perm (set_perm h c), sums_cons]
theorem sums_filter (p : Ce → Bool) : ∀ l : List Ce, sums (l.filter p) ≤ sums l
  | [] => Nat.le_refl _
  | x :: l => by
    have := sums_filter p l
    rw [List.filter_cons, sums_cons]
    split
    · rw [sums_cons]; omega
    · omega
theorem rise_key {l : List Ce} (h : Rise l) {x y : Ce} (hx : x ∈ l) (hy : y ∈ l) (he : x.key = y.key) : x = y := by
  have hn : (keysOf l).Nodup := rises_nodup (rise_iff.2 h)
  unfold keysOf List.Nodup at hn
  rw [List.pairwise_map] at hn
  obtain ⟨i, hi, rfl⟩ := List.getElem_of_mem hx
  obtain ⟨j, hj, rfl⟩ := List.getElem_of_mem hy
  have h1 := List.pairwise_iff_getElem.1 hn
  rcases Nat.lt_trichotomy i j with h2 | h2 | h2
  · exact absurd (by rw [he]) (h1 i j hi hj h2)
  · subst h2; rfl
  · exact absurd (by rw [he]) (h1 j i hj hi h2)
theorem cut_length {l : List Ce} {k : ByteArray} : ((cutS l k).length = l.length) ↔ ∀ x ∈ l, x.key ≠ k := by
  constructor
  · intro h x hx
    have := List.filter_eq_self.1 (List.filter_sublist.eq_of_length h) x hx
    exact (mem_cut.1 (List.mem_filter.2 ⟨hx, this⟩)).2
  · intro h
    unfold cutS
    rw [filter_all]
    intro x hx
    unfold otherB
    rw [isB_no.2 (fun e => h x hx e.symm)]
    rfl
theorem cut_none {l : List Ce} {k : ByteArray} (h : ∀ x ∈ l, x.key ≠ k) : cutS l k = l := by
  unfold cutS
  refine filter_all fun x hx => ?_
  unfold otherB
  rw [isB_no.2 (fun e => h x hx e.symm)]
  rfl
theorem find_some {l : List Ce} {k : ByteArray} {x : Ce} (h : findS l k = some x) : x ∈ l ∧ x.key = k := ⟨List.mem_of_find?_eq_some h, (isB_iff.1 (List.find?_some h)).symm⟩
theorem find_none {l : List Ce} {k : ByteArray} (h : findS l k = none) : ∀ x ∈ l, x.key ≠ k := fun x hx e => by
  have := List.find?_eq_none.1 h x hx
  exact this (isB_iff.2 e.symm)
theorem find_is {l : List Ce} (h : Rise l) {x : Ce} (hx : x ∈ l) : findS l x.key = some x := by
  cases g : findS l x.key with
  | none => exact absurd rfl (find_none g x hx)
  | some y =>
    obtain ⟨h1, h2⟩ := find_some g
    rw [rise_key h h1 hx h2]
theorem find_no {l : List Ce} {k : ByteArray} (h : ∀ x ∈ l, x.key ≠ k) : findS l k = none := by
  cases g : findS l k with
  | none => rfl
  | some y => obtain ⟨h1, h2⟩ := find_some g; exact absurd h2 (h y h1)
theorem find_set_same {l : List Ce} (h : Rise l) (c : Ce) : findS (setS l c) c.key = some c := find_is (rise_set h c) ((mem_set h).2 (.inl rfl))
theorem find_set_other {l : List Ce} (h : Rise l) {c : Ce} {k : ByteArray} (hk : k ≠ c.key) : findS (setS l c) k = findS l k := by
  cases g : findS l k with
  | none =>
    refine find_no fun x hx => ?_
    rcases (mem_set h).1 hx with rfl | hx
    · exact fun e => hk e.symm
    · exact find_none g x (mem_cut.1 hx).1
  | some y =>
    obtain ⟨h1, h2⟩ := find_some g
    subst h2
    exact find_is (rise_set h c) ((mem_set h).2 (.inr (mem_cut.2 ⟨h1, hk⟩)))
theorem find_cut_other {l : List Ce} (h : Rise l) {q k : ByteArray} (hk : k ≠ q) : findS (cutS l q) k = findS l k := by
  cases g : findS l k with
  | none => exact find_no fun x hx => find_none g x (mem_cut.1 hx).1
  | some y =>
    obtain ⟨h1, h2⟩ := find_some g
    subst h2
    exact find_is (h.filter _) (mem_cut.2 ⟨h1, hk⟩)
theorem find_cut_same (l : List Ce) (k : ByteArray) : findS (cutS l k) k = none := find_no fun x hx => (mem_cut.1 hx).2
theorem cut_set {l : List Ce} (h : Rise l) (c : Ce) : cutS (setS l c) c.key = cutS l c.key := by
  have e : ∀ m : List Ce, (∀ x ∈ m, isB c.key x = false) → m.filter (otherB c.key) = m := fun m hm => filter_all fun x hx => by unfold otherB; rw [hm x hx]; rfl
  rw [cut_rise c.key h]
  unfold cutS setS
  rw [List.filter_append, List.filter_append, e (l.filter (afterB c.key)), e (l.filter (beforeB c.key))]
  · have : [c].filter (otherB c.key) = [] := filter_none fun x hx => by
      rw [List.mem_singleton] at hx
      subst hx
      unfold otherB
      rw [isB_iff.2 rfl]; rfl
    rw [this, List.append_nil]
  · intro x hx
    have := (List.mem_filter.1 hx).2
    rcases tri c.key x with h | h | h
    · rw [h.2.2] at this; cases this
    · exact h.1
    · exact h.1
  · intro x hx
    have := (List.mem_filter.1 hx).2
    rcases tri c.key x with h | h | h
    · rw [h.2.1] at this; cases this
    · exact h.1
    · exact h.1
theorem perm_rise : ∀ {l m : List Ce}, l.Perm m → Rise l → Rise m → l = m
  | [], m, p, _, _ => (List.nil_perm.1 p).symm
  | x :: l, [], p, _, _ => absurd p.length_eq (by simp)
  | x :: l, y :: m, p, hl, hm => by
    obtain ⟨h1, h2⟩ := List.pairwise_cons.1 hl
    obtain ⟨k1, k2⟩ := List.pairwise_cons.1 hm
    have hx : x ∈ y :: m := p.mem_iff.1 (List.mem_cons_self ..)
    have hy : y ∈ x :: l := p.mem_iff.2 (List.mem_cons_self ..)
    have e : x = y := by
      rcases List.mem_cons.1 hx with e | hx
      · exact e
      · rcases List.mem_cons.1 hy with e | hy
        · exact e.symm
        · have a := h1 y hy
          rw [ltK_asym (k1 x hx)] at a
          cases a
    subst e
    rw [perm_rise (List.Perm.cons_inv p) h2 k2]
/-! What may be a page's cells. -/
theorem putOk_rise {l : List Ce} (h : putOk l = true) : Rise l := rise_iff.1 (putOk_iff.1 h).2.2
theorem putOk_nil : putOk [] = true := by decide +kernel
theorem putOk_cut {l : List Ce} (h : putOk l = true) (k : ByteArray) : putOk (cutS l k) = true := by
  obtain ⟨h1, h2, h3⟩ := putOk_iff.1 h
  refine putOk_iff.2 ⟨fun c hc => h1 c (mem_cut.1 hc).1, ?_, rise_iff.2 ((rise_iff.1 h3).filter _)⟩
  have := sums_filter (otherB k) l
  unfold cutS
  omega
theorem putOk_set {l : List Ce} (h : putOk l = true) {c : Ce} (hc : c.Ok) : putOk (setS l c) = decide (1 + sums (setS l c) ≤ 240) := by
  obtain ⟨h1, h2, h3⟩ := putOk_iff.1 h
  have hr := rise_iff.1 h3
  cases g : putOk (setS l c) with
  | true => exact (decide_eq_true (putOk_iff.1 g).2.1).symm
  | false =>
    refine (decide_eq_false fun hs => ?_).symm
    have : putOk (setS l c) = true := putOk_iff.2 ⟨fun x hx => by
      rcases (mem_set hr).1 hx with rfl | hx
      · exact hc
      · exact h1 x (mem_cut.1 hx).1, hs, rise_iff.2 (rise_set hr c)⟩
    rw [this] at g
    cases g
theorem putOk_set_no {l : List Ce} (h : Rise l) {c : Ce} (hc : ¬ c.Ok) : putOk (setS l c) = false := by
  cases g : putOk (setS l c) with
  | false => rfl
  | true => exact absurd ((putOk_iff.1 g).1 c ((mem_set h).2 (.inl rfl))) hc
theorem fits_rise {l : List Ce} (h : Rise l) : fitsB l = putOk l := by
  unfold putOk
  rw [rise_iff.2 h, Bool.and_true]
theorem bodyOf_nil : bodyOf [] = zs 240 := by decide +kernel
end Go.Proofs.YtljegjcajlkgiaaGreat
