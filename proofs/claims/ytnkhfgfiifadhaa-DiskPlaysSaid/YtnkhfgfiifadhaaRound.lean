/- A region within a round of a range over a function: what it does outside a round it does there. No program. -/
import Derived.Deep.RegionHeld3
import Derived.RangeFuncNested
import Derived.RangeFuncLeaves
import Derived.TacticsIn
namespace Go.Proofs.Ytnkhfgfiifadhaa
open Go.RowKit
set_option linter.unusedVariables false
section
variable {P : Program} {ops : Array Oper} {Q : Exit → Act → World → Prop}
/-- Operations that yield a value, or none; no calls, no defers. -/
def calmOp (o : Oper) : Bool :=
  match o.op with
  | .move _ | .assign _ | .nilCheck _ | .fieldAddr .. | .indexAddr .. | .load .. | .store .. | .alloc _ | .binOp .. => true
  | _ => false
theorem run_v (s : Sem Value) (w : World) (x : Next) (w' : World) (h : (do pure (Next.value (← s)) : Sem Next).run P w = .ok x w') : ∃ v, x = .value v := by
  rw [Sem.run_bind] at h
  cases hs : s.run P w with
  | ok v w1 => rw [hs] at h; simp only [Result.andThen_ok, Sem.run_pure, Result.ok.injEq] at h; exact ⟨v, h.1.symm⟩
  | halt e w1 => rw [hs] at h; simp [Result.andThen] at h
theorem run_u (s : Sem Unit) (w : World) (x : Next) (w' : World) (h : (do s; pure .skip : Sem Next).run P w = .ok x w') : x = .skip := by
  rw [Sem.run_bind] at h
  cases hs : s.run P w with
  | ok v w1 => rw [hs] at h; simp only [Result.andThen_ok, Sem.run_pure, Result.ok.injEq] at h; exact h.1.symm
  | halt e w1 => rw [hs] at h; simp [Result.andThen] at h
theorem vals_bind {α : Type} {m : Sem α} {f : α → Sem Next} (hf : ∀ a w x w', (f a).run P w = .ok x w' → ∃ v, x = .value v) : ∀ w x w', (m >>= f).run P w = .ok x w' → ∃ v, x = .value v := fun w x w' h => by
  rw [Sem.run_bind] at h
  cases hs : m.run P w with
  | ok v w1 => rw [hs] at h; exact hf _ _ _ _ h
  | halt e w1 => rw [hs] at h; simp [Result.andThen] at h
theorem vals_pure (v : Value) : ∀ w x w', (pure (Next.value v) : Sem Next).run P w = .ok x w' → ∃ u, x = .value u := fun w x w' h => by
  simp only [Sem.run_pure, Result.ok.injEq] at h; exact ⟨_, h.1.symm⟩
theorem calm_res {o : Oper} (hc : calmOp o = true) (ρ : Operand → Value) (w : World) (x : Next) (w' : World) (h : (execOp ρ o).run P w = .ok x w') : (∃ v, x = .value v) ∨ x = .skip := by
  unfold calmOp at hc
  unfold execOp at h
  cases ho : o.op <;> simp only [ho] at hc h <;> first
    | (cases hc; done)
    | exact .inl (run_v _ _ _ _ h)
    | exact .inr (run_u _ _ _ _ h)
    | (simp only [Sem.run_pure, Result.ok.injEq] at h; exact .inl ⟨_, h.1.symm⟩)
    | (repeat' split at h
       all_goals first
         | (simp only [Sem.run_pure, Result.ok.injEq] at h; exact .inl ⟨_, h.1.symm⟩)
         | (simp [runtimePanic] at h; done)
         | (refine .inl (vals_bind (fun _ => vals_bind (fun _ => ?_)) _ _ _ h)
            intro w1 x1 w2 h1
            split at h1
            · exact vals_bind (fun _ => vals_pure _) _ _ _ h1
            · exact vals_pure _ _ _ _ h1))
theorem calm_defer {o : Oper} (hc : calmOp o = true) : ∀ c, o.op ≠ .defer c := fun c e => by simp [calmOp, e] at hc
theorem upon_in {F : Fence} {n : Nat} {o : Oper} {a : Act} {K K' : Act → World → Prop} {r : Result Next} (hr : ∀ x w', r = .ok x w' → (∃ v, x = .value v) ∨ x = .skip) (hK : ∀ a w, K a w → K' a w)
    (h : o.upon P a K Q r) : o.uponIn F n P a K' Q r := by
  cases r with
  | ok x w' =>
    rcases hr x w' rfl with ⟨v, rfl⟩ | rfl
    · exact hK _ _ h
    · exact hK _ _ h
  | halt e w' => cases e <;> first | exact h | exact h.elim
theorem wpOps_in {n l0 : Nat} (hq : ¬ LetsOut Q) (hc : ops.all calmOp = true) : ∀ (l : List Nat) (a : Act) (w : World), wpOps P ops Q l a w → wpOpsIn (Fence.wide.inRound l0) n P ops Q l a w
  | [], _, _, h => h
  | i :: rest, a, w, h => by
    unfold wpOps at h
    unfold wpOpsIn
    cases ho : ops[i]? with
    | none => rw [ho] at h; exact wpOps_in hq hc rest a w h
    | some o =>
      rw [ho] at h
      have hco : calmOp o = true := (Array.all_eq_true_iff_forall_mem.1 hc) o (Array.mem_of_getElem? ho)
      simp only at h ⊢
      split at h
      · rename_i hw
        rw [if_pos hw]
        rcases h with h | h
        · refine ⟨fun _ _ => trivial, ?_⟩
          rw [Oper.semAt_eq _ _ _ (calm_defer hco)]
          exact upon_in (calm_res hco _ _) (fun a w h => wpOps_in hq hc rest a w h) h
        · exact absurd h.2 hq
      · rename_i hw
        rw [if_neg hw]
        exact ⟨fun _ _ => trivial, wpOps_in hq hc rest _ w h⟩
/-- A region that draws its order, in a round. -/
theorem round_held {l n id : Nat} {S : World → Prop} {a : Act} {w : World} (hq : ¬ LetsOut Q) (hc : ops.all calmOp = true) (hm : P.follows .mixedOrders = true) (hS : S w.drew)
    (h : S w.drew → wpAnyH P .any ops Q S ops.size (Array.replicate ops.size false) a w.drew) : (Code.region id ops true).wpIn (Fence.wide.inRound l) n P Q a w :=
  wpIn_region_draw fun t => by
    refine wpOps_in hq hc _ _ _ ?_
    simp only [Region.schedule, hm, Bool.true_or, if_true]
    exact wpAny_sound ops.size t _ a _ (wpAny_of_held _ _ _ _ (h hS))
/-- A region in the order of the text, in a round. -/
theorem round_list {l n id : Nat} {a : Act} {w : World} (hq : ¬ LetsOut Q) (hc : ops.all calmOp = true) (h : wpList P ops Q ops.toList a w) : (Code.region id ops false).wpIn (Fence.wide.inRound l) n P Q a w :=
  wpIn_region (wpOps_in hq hc _ _ _ (by rw [List.range_eq_range', ← Array.length_toList, wpOps_eq_wpList ops.toList 0 (by simp)]; exact h))
theorem round_lit {l n id : Nat} {L : List Oper} {a : Act} {w : World} (hq : ¬ LetsOut Q) (hc : L.toArray.all calmOp = true) (h : wpList P L.toArray Q L a w) : (Code.region id L.toArray false).wpIn (Fence.wide.inRound l) n P Q a w :=
  round_list hq hc (by simpa using h)
end
end Go.Proofs.Ytnkhfgfiifadhaa
