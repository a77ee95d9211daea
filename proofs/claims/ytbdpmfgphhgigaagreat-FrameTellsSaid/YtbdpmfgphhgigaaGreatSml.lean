/- How much is read at most. -/
import Derived.Test.YtbdpmfgphhgigaaGreatScan
namespace Go.Proofs.YtbdpmfgphhgigaaGreat
set_option linter.unusedVariables false
set_option maxRecDepth 100000
theorem drain_small (K : Nat) : ∀ (f : Nat) (out : List BA) (op : BA) (d : Bool), (∀ x ∈ out, x.length ≤ K) → op.length ≤ K → (drainX f out op d).1.length + (drainX f out op d).2.1.length ≤ out.length + op.length ∧ ∀ x ∈ (drainX f out op d).1, x.length ≤ K
  | 0, out, op, d, h1, _ => ⟨Nat.le_refl _, h1⟩
  | f + 1, out, op, d, h1, h2 => by
    unfold drainX
    split
    · rename_i hc
      split
      · exact ⟨Nat.le_refl _, h1⟩
      · have c1 := hc.2.1
        have hd : (op.drop (2 + num (op.take 2))).length ≤ op.length - 2 := by rw [List.length_drop]; omega
        obtain ⟨a1, a2⟩ := drain_small K f (out ++ [(op.drop 2).take (num (op.take 2))]) (op.drop (2 + num (op.take 2))) false (fun x hx => by
          rcases List.mem_append.1 hx with hx | hx
          · exact h1 x hx
          · obtain rfl := List.mem_singleton.1 hx
            rw [List.length_take, List.length_drop]; omega) (by omega)
        refine ⟨?_, a2⟩
        rw [List.length_append, List.length_singleton] at a1
        omega
    · exact ⟨Nat.le_refl _, h1⟩
theorem feed_small (K i M : Nat) (s : Sc) (x : Sx) (h1 : ∀ y ∈ s.out, y.length ≤ K) (h2 : s.out.length + s.op.length ≤ M) (hx : x.pl.length ≤ 56) (hK : M + 56 ≤ K) :
    (∀ y ∈ (feedX i s x).out, y.length ≤ K) ∧ (feedX i s x).out.length + (feedX i s x).op.length ≤ M + 56 := by
  have hl : ((if x.fr then [] else s.op) ++ x.pl : BA).length ≤ s.op.length + 56 := by
    rw [List.length_append]
    split
    · simp; omega
    · omega
  obtain ⟨a1, a2⟩ := drain_small K (((if x.fr then [] else s.op) ++ x.pl : BA).length + 1) s.out ((if x.fr then [] else s.op) ++ x.pl) (if x.fr then false else s.dead) h1 (by omega)
  exact ⟨a2, by
    show (drainX _ _ _ _).1.length + (drainX _ _ _ _).2.1.length ≤ _
    omega⟩
theorem scanX_small (K : Nat) : ∀ (l : List BA) (i M : Nat) (s : Sc), (∀ y ∈ s.out, y.length ≤ K) → s.out.length + s.op.length ≤ M → M + 56 * l.length ≤ K → (scanX i s l).out.length ≤ K ∧ ∀ y ∈ (scanX i s l).out, y.length ≤ K
  | [], i, M, s, h1, h2, hK => ⟨by show s.out.length ≤ K; omega, h1⟩
  | b :: l, i, M, s, h1, h2, hK => by
    rw [List.length_cons] at hK
    unfold scanX
    split
    · rename_i ha
      have hg : getOkX b = true := by unfold accX at ha; rw [Bool.and_eq_true] at ha; exact ha.1
      have hp := (okX_iff.1 (ok_got hg)).2.2.2.2.2
      obtain ⟨a1, a2⟩ := feed_small K i M s (gotX b) h1 h2 hp (by omega)
      exact scanX_small K l (i + 1) (M + 56) _ a1 a2 (by omega)
    · exact ⟨by omega, h1⟩
theorem scan_small {l : List BA} (h : l.length ≤ 200) : (scan l).out.length ≤ 11200 ∧ ∀ x ∈ (scan l).out, x.length ≤ 11200 :=
  scanX_small 11200 l 0 0 sc0 (by simp [sc0]) (by simp [sc0]) (by omega)
end Go.Proofs.YtbdpmfgphhgigaaGreat
