/- The reader as a machine that takes byte by byte: it reads what the plain reading reads. -/
import Derived.Test.YtbdpmfgphhgigaaGreatPlain
namespace Go.Proofs.YtbdpmfgphhgigaaGreat
set_option linter.unusedVariables false
structure Rd where
  next : Int
  ep : Int
  out : List BA
  mode : Nat
  size : Int
  rc : BA
def rd0 : Rd := ⟨0, 0, [], 4, 0, []⟩
def hiR (r : Rd) (b : UInt8) : Rd := { r with mode := 1, size := (b.toNat : Int) * 256 }
def loR (r : Rd) (b : UInt8) : Rd := { r with mode := if r.size + b.toNat = 0 then 3 else 2, size := r.size + b.toNat, rc := [] }
def boR (x : Sx) (r : Rd) (b : UInt8) : Rd := if (r.rc.length : Int) + 1 < r.size then { r with rc := r.rc ++ [b] } else ⟨x.ix + 1, x.ep, r.out ++ [r.rc ++ [b]], 0, r.size, r.rc ++ [b]⟩
def stepR (x : Sx) (r : Rd) (b : UInt8) : Rd := if r.mode = 0 then hiR r b else if r.mode = 1 then loR r b else if r.mode = 2 then boR x r b else r
def foldR (x : Sx) (r : Rd) (p : BA) : Rd := p.foldl (stepR x) r
theorem num_two (h l : UInt8) : num [h, l] = h.toNat * 256 + l.toNat := by simp [num]
/-- What the machine is, by what is left unread. -/
def Rel (out : List BA) (op : BA) (dead : Bool) (r : Rd) : Prop := r.out = out ∧
  ((r.mode = 0 ∧ op = [] ∧ dead = false) ∨ (r.mode = 1 ∧ dead = false ∧ ∃ h : UInt8, op = [h] ∧ r.size = (h.toNat : Int) * 256) ∨
   (r.mode = 2 ∧ dead = false ∧ ∃ h l : UInt8, op = h :: l :: r.rc ∧ r.size = ((h.toNat * 256 + l.toNat : Nat) : Int) ∧ r.rc.length < h.toNat * 256 + l.toNat) ∨ (r.mode = 3 ∧ dead = true))
theorem not_can1 (b : UInt8) : ¬ canX [b] := by unfold canX; simp
theorem not_can0 : ¬ canX [] := by unfold canX; simp
theorem Rel.stop {out : List BA} {op : BA} {dead : Bool} {r : Rd} (h : Rel out op dead r) : drX out op dead = (out, op, dead) := by
  refine drX_stop ?_
  rintro ⟨h1, h2⟩
  rcases h.2 with ⟨_, rfl, _⟩ | ⟨_, _, b, rfl, _⟩ | ⟨_, _, b, l, rfl, _, h3⟩ | ⟨_, hd⟩
  · exact not_can0 h2
  · exact not_can1 b h2
  · have := h2.2
    rw [show (b :: l :: r.rc).take 2 = [b, l] from rfl, num_two] at this
    simp only [List.length_cons] at this
    omega
  · rw [hd] at h1; cases h1
/-- One byte. -/
theorem Rel.step {out : List BA} {op : BA} {dead : Bool} {r : Rd} (x : Sx) (b : UInt8) (h : Rel out op dead r) :
    Rel (drX out (op ++ [b]) dead).1 (drX out (op ++ [b]) dead).2.1 (drX out (op ++ [b]) dead).2.2 (stepR x r b) ∧
    (((drX out (op ++ [b]) dead).1 = out ∧ (stepR x r b).next = r.next ∧ (stepR x r b).ep = r.ep) ∨
     ((∃ y, (drX out (op ++ [b]) dead).1 = out ++ [y]) ∧ (stepR x r b).next = x.ix + 1 ∧ (stepR x r b).ep = x.ep)) := by
  obtain ⟨ho, h⟩ := h
  rcases h with ⟨hm, rfl, rfl⟩ | ⟨hm, rfl, a, rfl, hs⟩ | ⟨hm, rfl, a, l, rfl, hs, hl⟩ | ⟨hm, rfl⟩
  · have e : stepR x r b = hiR r b := by unfold stepR; rw [if_pos hm]
    rw [e, List.nil_append, drX_stop (fun h => not_can1 b h.2)]
    exact ⟨⟨ho, .inr (.inl ⟨rfl, rfl, b, rfl, rfl⟩)⟩, .inl ⟨rfl, rfl, rfl⟩⟩
  · have e : stepR x r b = loR r b := by unfold stepR; rw [if_neg (by omega), if_pos hm]
    rw [e]
    show Rel (drX out [a, b] false).1 _ _ _ ∧ _
    by_cases h0 : a.toNat * 256 + b.toNat = 0
    · have hc : canX [a, b] := by unfold canX; rw [show ([a, b] : BA).take 2 = [a, b] from rfl, num_two]; simp; omega
      have hd : drX out [a, b] false = (out, [a, b], true) := drX_dead hc (by rw [show ([a, b] : BA).take 2 = [a, b] from rfl, num_two]; exact h0)
      have hz : r.size + (b.toNat : Int) = 0 := by rw [hs]; omega
      rw [show ([a] : BA) ++ [b] = [a, b] from rfl, hd]
      refine ⟨⟨ho, .inr (.inr (.inr ⟨?_, rfl⟩))⟩, .inl ⟨rfl, rfl, rfl⟩⟩
      show (if r.size + (b.toNat : Int) = 0 then 3 else 2) = 3
      rw [if_pos hz]
    · have hc : ¬ canX [a, b] := by
        intro h
        have := h.2
        rw [show ([a, b] : BA).take 2 = [a, b] from rfl, num_two] at this
        simp at this
        omega
      have hz : ¬ r.size + (b.toNat : Int) = 0 := by rw [hs]; omega
      rw [show ([a] : BA) ++ [b] = [a, b] from rfl, drX_stop (fun h => hc h.2)]
      refine ⟨⟨ho, .inr (.inr (.inl ⟨?_, rfl, a, b, rfl, ?_, ?_⟩))⟩, .inl ⟨rfl, rfl, rfl⟩⟩
      · show (if r.size + (b.toNat : Int) = 0 then 3 else 2) = 2
        rw [if_neg hz]
      · show r.size + (b.toNat : Int) = _
        rw [hs]; omega
      · show 0 < _
        omega
  · have e : stepR x r b = boR x r b := by unfold stepR; rw [if_neg (by omega), if_neg (by omega), if_pos hm]
    rw [e]
    unfold boR
    rw [show (a :: l :: r.rc) ++ [b] = a :: l :: (r.rc ++ [b]) from rfl]
    by_cases hlt : (r.rc.length : Int) + 1 < r.size
    · rw [if_pos hlt]
      have hc : ¬ canX (a :: l :: (r.rc ++ [b])) := by
        intro h
        have := h.2
        rw [show (a :: l :: (r.rc ++ [b])).take 2 = [a, l] from rfl, num_two] at this
        simp only [List.length_cons, List.length_append, List.length_nil] at this
        omega
      rw [drX_stop (fun h => hc h.2)]
      refine ⟨⟨ho, .inr (.inr (.inl ⟨hm, rfl, a, l, rfl, hs, ?_⟩))⟩, .inl ⟨rfl, rfl, rfl⟩⟩
      show (r.rc ++ [b]).length < _
      rw [List.length_append, List.length_cons, List.length_nil]
      omega
    · rw [if_neg hlt]
      have hn : num ((a :: l :: (r.rc ++ [b])).take 2) = r.rc.length + 1 := by
        rw [show (a :: l :: (r.rc ++ [b])).take 2 = [a, l] from rfl, num_two]; omega
      have hc : canX (a :: l :: (r.rc ++ [b])) := by
        refine ⟨by simp, ?_⟩
        rw [hn]; simp only [List.length_cons, List.length_append, List.length_nil]; omega
      rw [drX_step hc (by rw [hn]; omega), hn]
      have e1 : ((a :: l :: (r.rc ++ [b])).drop 2).take (r.rc.length + 1) = r.rc ++ [b] := List.take_of_length_le (by simp)
      have e2 : (a :: l :: (r.rc ++ [b])).drop (2 + (r.rc.length + 1)) = [] := List.drop_eq_nil_of_le (by simp; omega)
      rw [e1, e2, drX_stop (fun h => not_can0 h.2)]
      exact ⟨⟨by show r.out ++ _ = _; rw [ho], .inl ⟨rfl, rfl, rfl⟩⟩, .inr ⟨⟨_, rfl⟩, rfl, rfl⟩⟩
  · have e : stepR x r b = r := by unfold stepR; rw [if_neg (by omega), if_neg (by omega), if_neg (by omega)]
    rw [e, drX_stop (fun h => by cases h.1)]
    exact ⟨⟨ho, .inr (.inr (.inr ⟨hm, rfl⟩))⟩, .inl ⟨rfl, rfl, rfl⟩⟩
/-- What comes in two parts. -/
theorem dr_app : ∀ (f : Nat) (out : List BA) (u v : BA) (d : Bool), u.length < f → drX out (u ++ v) d = drX (drX out u d).1 ((drX out u d).2.1 ++ v) (drX out u d).2.2
  | 0, _, _, _, _, h => absurd h (Nat.not_lt_zero _)
  | f + 1, out, u, v, true, h => by
    rw [drX_stop (op := u) (fun h => by cases h.1)]
  | f + 1, out, u, v, false, h => by
    by_cases hc : canX u
    · have ht : (u ++ v).take 2 = u.take 2 := List.take_append_of_le_length hc.1
      have hcv : canX (u ++ v) := by
        refine ⟨by have := hc.1; rw [List.length_append]; omega, ?_⟩
        rw [ht, List.length_append]
        have := hc.2
        omega
      by_cases h0 : num (u.take 2) = 0
      · rw [drX_dead hc h0, drX_dead hcv (by rw [ht]; exact h0)]
        rw [drX_stop (fun h => by cases h.1)]
      · rw [drX_step hc h0, drX_step hcv (by rw [ht]; exact h0), ht]
        have h1 := hc.1
        have h2 := hc.2
        have e1 : ((u ++ v).drop 2).take (num (u.take 2)) = (u.drop 2).take (num (u.take 2)) := by
          rw [List.drop_append_of_le_length h1, List.take_append_of_le_length (by rw [List.length_drop]; omega)]
        have e2 : (u ++ v).drop (2 + num (u.take 2)) = u.drop (2 + num (u.take 2)) ++ v := List.drop_append_of_le_length h2
        rw [e1, e2]
        exact dr_app f _ _ v false (by rw [List.length_drop]; omega)
    · rw [drX_stop (op := u) (fun h => hc h.2)]
theorem dr_adds (out : List BA) (op : BA) (d : Bool) : ∃ m, (drX out op d).1 = out ++ m := drain_adds _ _ _ _
/-- All bytes of a sector. -/
theorem Rel.fold (x : Sx) : ∀ (p : BA) {out : List BA} {op : BA} {dead : Bool} {r : Rd}, Rel out op dead r →
    Rel (drX out (op ++ p) dead).1 (drX out (op ++ p) dead).2.1 (drX out (op ++ p) dead).2.2 (foldR x r p) ∧
    (foldR x r p).next = (if (drX out (op ++ p) dead).1 = out then r.next else x.ix + 1) ∧ (foldR x r p).ep = (if (drX out (op ++ p) dead).1 = out then r.ep else x.ep)
  | [], out, op, dead, r, h => by
    rw [List.append_nil, h.stop]
    show Rel out op dead r ∧ r.next = _ ∧ r.ep = _
    rw [if_pos rfl, if_pos rfl]
    exact ⟨h, rfl, rfl⟩
  | b :: p, out, op, dead, r, h => by
    obtain ⟨h1, h2⟩ := h.step x b
    have e : drX out (op ++ b :: p) dead = drX (drX out (op ++ [b]) dead).1 ((drX out (op ++ [b]) dead).2.1 ++ p) (drX out (op ++ [b]) dead).2.2 := by
      rw [show op ++ b :: p = (op ++ [b]) ++ p by simp]
      exact dr_app ((op ++ [b]).length + 1) _ _ _ _ (Nat.lt_succ_self _)
    rw [e]
    show Rel _ _ _ (foldR x (stepR x r b) p) ∧ (foldR x (stepR x r b) p).next = _ ∧ (foldR x (stepR x r b) p).ep = _
    obtain ⟨i1, i2, i3⟩ := Rel.fold x p h1
    generalize drX out (op ++ [b]) dead = d1 at *
    obtain ⟨m, hm⟩ := dr_adds d1.1 (d1.2.1 ++ p) d1.2.2
    generalize drX d1.1 (d1.2.1 ++ p) d1.2.2 = d2 at *
    refine ⟨i1, ?_⟩
    rcases h2 with ⟨q1, q2, q3⟩ | ⟨⟨y, q1⟩, q2, q3⟩
    · rw [q1] at i2 i3
      rw [i2, i3, q2, q3]
      exact ⟨rfl, rfl⟩
    · have hne : d2.1 ≠ out := by
        intro e
        rw [hm, q1] at e
        have := congrArg List.length e
        simp at this
      rw [if_neg hne, if_neg hne, i2, i3, q2, q3]
      exact ⟨by split <;> rfl, by split <;> rfl⟩
def startR (x : Sx) (r : Rd) : Rd := if x.fr then { r with mode := 0 } else r
/-- The machine and the plain reading between two sectors. -/
def RelS (s : Sc) (r : Rd) : Prop := r.next = (s.next : Int) ∧ r.ep = s.ep ∧ ((s = sc0 ∧ r = rd0) ∨ Rel s.out s.op s.dead r)
theorem RelS.zero : RelS sc0 rd0 := ⟨rfl, rfl, .inl ⟨rfl, rfl⟩⟩
theorem RelS.feed {s : Sc} {r : Rd} {i : Nat} {x : Sx} (h : RelS s r) (hx : x.ix = i) (hf : x.fr = true ∨ s ≠ sc0) : RelS (feedX i s x) (foldR x (startR x r) x.pl) := by
  obtain ⟨h1, h2, h3⟩ := h
  have hrel : Rel s.out (if x.fr then [] else s.op) (if x.fr then false else s.dead) (startR x r) := by
    cases hfr : x.fr with
    | true =>
      simp only [if_true, startR, hfr]
      refine ⟨?_, .inl ⟨rfl, rfl, rfl⟩⟩
      rcases h3 with ⟨rfl, rfl⟩ | h3
      · rfl
      · exact h3.1
    | false =>
      simp only [Bool.false_eq_true, if_false, startR, hfr]
      rcases h3 with ⟨rfl, _⟩ | h3
      · rcases hf with hf | hf
        · rw [hfr] at hf; cases hf
        · exact absurd rfl hf
      · exact h3
  have hn : (startR x r).next = s.next := by unfold startR; split <;> exact h1
  have he : (startR x r).ep = s.ep := by unfold startR; split <;> exact h2
  obtain ⟨q1, q2, q3⟩ := hrel.fold x x.pl
  refine ⟨?_, ?_, .inr q1⟩
  · rw [q2, hn, hx]
    show _ = ((if (drX s.out ((if x.fr then [] else s.op) ++ x.pl) (if x.fr then false else s.dead)).1 = s.out then s.next else i + 1 : Nat) : Int)
    generalize (drX s.out ((if x.fr then [] else s.op) ++ x.pl) (if x.fr then false else s.dead)).1 = D
    by_cases h : D = s.out
    · rw [if_pos h, if_pos h]
    · rw [if_neg h, if_neg h]; rfl
  · rw [q3, he]
    rfl
/-- How many records there may be. -/
theorem out_step (x : Sx) (r : Rd) (b : UInt8) : (stepR x r b).out.length ≤ r.out.length + 1 := by
  unfold stepR hiR loR boR
  split
  · simp
  · split
    · simp
    · split
      · split
        · simp
        · simp
      · exact Nat.le_succ _
end Go.Proofs.YtbdpmfgphhgigaaGreat
