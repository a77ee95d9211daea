/- The contract of container/heap's Init. -/
import Derived.Test.YtfelhepdcnckhaaHeapCalls
namespace Go.Proofs.Ytfelhepdcnckhaa
open Go.ChangeShapes Go.WideShapes Go.ChangeAt Go.RowKit
set_option linter.unusedVariables false
set_option maxRecDepth 100000

set_option maxHeartbeats 1000000 in
theorem init_any {α : Type} {p : Addr} {le : α → α → Prop} {enc : α → Value} {St : World → (Nat → α) → Nat → Prop} {Fr : World → World → Prop} (M : Meth p le St Fr) (N : Meth2 p enc St Fr)
    (total : ∀ a b, le a b ∨ le b a) (trans : ∀ a b c, le a b → le b c → le a c) (f : Nat → α) (n : Nat) (w : World) (hS : St w f n) (hn : n ≤ 1000000) :
    Calls Try.prog 25 #[.iface 46 (.pointer (some p))] w fun e w' => e = .returned (.tuple #[]) ∧ Heaped le St Fr f n n w w' := by
  have HM := Lib.hid M
  have HN := Lib.hid N
  have HT := Lib.hid total
  have HR := Lib.hid trans
  obtain ⟨v1, hm1, hl1⟩ := N.len w f n hS
  have HL1 := Lib.hid hl1
  clear M N total trans hS hl1
  have hN : (n : Int) ≤ 1000000 := by omega
  have hN0 : (0 : Int) ≤ (n : Int) := by omega
  go_enter Try.func25, Try.ntmps25
  go_wp2_with fail
  refine HL1.out.mono ?_; rintro e X1 ⟨rfl, hs1, hf1⟩
  have S1 := Lib.hid hs1
  have F1 := Lib.hid hf1
  clear hs1 hf1
  go_wp2_with fail
  go_loopw [3] (fun x wr => ∃ k : Nat, k ≤ n ∧ x = .int .i64 ((k : Int) - 1) ∧ ∃ g, Hid (St wr g n ∧ Hp le g k n ∧ (vals g n).Perm (vals f n) ∧ (∀ i, n ≤ i → g i = f i) ∧ Fr w wr)) (fun x _ => (intOf x + 1).toNat)
  case atStart => exact ⟨n / 2, by omega, congrArg (Value.int IntKind.i64) (by omega), f, S1.out, init_start, List.Perm.refl _, fun _ _ => rfl, F1.out⟩
  case round =>
    obtain ⟨k, hk, rfl, g, hq⟩ := hrel
    by_cases k0 : k = 0
    · subst k0
      go_wp2_with fail
      go_end0
      obtain ⟨g1, g2, g3, g4, g5⟩ := hq.out
      exact ⟨rfl, g, g1, g2, g3, g4, g5⟩
    · have hk1 : (0 : Int) ≤ (k : Int) - 1 := by omega
      have hk2 : (k : Int) - 1 ≤ 1000000 := by omega
      have e1 := Lib.hid (show (k : Int) - 1 = ((k - 1 : Nat) : Int) by omega)
      have HD := Lib.hid (down_any HM.out HT.out HR.out g (k - 1) n n (k - 1) wr hq.out.1 (init_step (by have := hq.out.2.1; rwa [show k - 1 + 1 = k by omega])) (Nat.le_refl _) (Nat.le_refl _) hn (by omega))
      rw [← e1.out] at HD
      go_wp2_with fail
      refine HD.out.mono ?_; rintro e X2 hs
      obtain ⟨b, rfl, g', g1, g2, g3, g4, g5⟩ := hs
      have G1 := Lib.hid g1
      have G2 := Lib.hid g2
      have G3 := Lib.hid g3
      have G4 := Lib.hid g4
      have G5 := Lib.hid g5
      clear g1 g2 g3 g4 g5
      go_wp2_with fail
      go_roundw
      case rel => exact ⟨k - 1, by omega, congrArg (Value.int IntKind.i64) (by omega), g', G1.out, G2.out, G3.out.trans hq.out.2.2.1, fun i hi => (G4.out i hi).trans (hq.out.2.2.2.1 i hi), HM.out.trans _ _ _ hq.out.2.2.2.2 G5.out⟩
      case measure => simp [intOf]; omega

end Go.Proofs.Ytfelhepdcnckhaa
