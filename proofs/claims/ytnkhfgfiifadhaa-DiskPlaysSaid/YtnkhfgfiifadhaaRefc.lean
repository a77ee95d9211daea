/- The reference's disk: Crash. -/
import Derived.Test.YtnkhfgfiifadhaaRefb
namespace Go.Proofs.Ytnkhfgfiifadhaa
open Go.ChangeShapes Go.WideShapes Go.ChangeAt Go.RowKit
set_option linter.unusedVariables false
section
variable {C q : Nat} {lv pv : Value} {A : St} {w w' wr : World} {P : List PW}
/-- The list of what is kept lies below block C. -/
def Lies (C : Nat) (ka : Option Addr) (keep : List Bool) (w : World) : Prop := ∀ j, j < keep.length → ∃ b off, ka = some ⟨b, off, none⟩ ∧ b < C ∧ w.cell? ⟨b, off + j, none⟩ = some (.bool (keep.getD j false))
set_option maxHeartbeats 8000000 in
theorem rcrash_ok (h : Ref C q lv pv A w) (keep : List Bool) (ka : Option Addr) (kc : Nat) (hkeep : Lies C ka keep w) (hkl : keep.length ≤ maxLen) : Calls Try.prog 29 #[ptr q, .slice ka keep.length kc] w fun e w' => e = .returned (.int .i64 (kept A.pend keep).length) ∧ RAfter C q (crashed A keep) w w' := by
  have hx := h.pendLe
  have hm := h.n2
  obtain ⟨la, lc, hlv⟩ := h.shapeL
  obtain ⟨pa, pc, hpv⟩ := h.shapeP
  have H0 := Lib.hid (show RMid C q lv pv A (kept (A.pend.take 0) keep) w w from ⟨h, RLeaves.refl _ _⟩)
  have HK := Lib.hid hkeep
  clear h hkeep
  unfold maxLen at hx hkl
  obtain ⟨m, hM⟩ : ∃ m, m = A.pend.length := ⟨_, rfl⟩
  obtain ⟨n, hN⟩ : ∃ n, n = A.last.length := ⟨_, rfl⟩
  obtain ⟨kn, hKN⟩ : ∃ kn, kn = keep.length := ⟨_, rfl⟩
  have HM := Lib.hid hM
  have HN := Lib.hid hN
  have HKN := Lib.hid hKN
  rw [← hM] at hx
  rw [← hN] at hm
  rw [← hKN] at hkl
  rw [hlv, hpv, ← hM, ← hN] at H0
  rw [← hKN]
  clear hM hN hKN hlv hpv
  go_enter Try.func29, Try.ntmps29
  go_wp2_with fail
  go_loopw [5, 6] (fun nv kv wr => ∃ k : Nat, k ≤ m ∧ kv = .int .i64 k ∧ nv = .int .i64 ((kept (A.pend.take k) keep).length : Int) ∧ RMid C q (.slice la n lc) (.slice pa m pc) A (kept (A.pend.take k) keep) w wr) (fun _ kv _ => m - (intOf kv).toNat)
  case atStart => exact ⟨0, Nat.zero_le _, rfl, by simp [kept_nil], H0.out⟩
  case round =>
    clear H0
    obtain ⟨k, hk, rfl, rfl, hq⟩ := hrel
    have HQ := Lib.hid hq
    clear hq
    have hf1 := HQ.out.1.free 1
    have hf2 := HQ.out.1.free 2
    have hf3 := HQ.out.1.free 3
    obtain ⟨h0, h1, h2, h3⟩ := HQ.out.1.cell
    have hkle : (kept (A.pend.take k) keep).length ≤ k := by have := kept_le (A.pend.take k) keep; have := List.length_take_le k A.pend; omega
    by_cases hlt : k < m
    · have hlk : (k : Int) < m := by omega
      have hkp : k < A.pend.length := by rw [← HM.out]; exact hlt
      have HKP := Lib.hid hkp
      by_cases hkb : keep.getD k false = true
      · have hkk : k < kn := by
          rw [HKN.out]
          refine Nat.lt_of_not_le fun hle => ?_
          rw [List.getD_eq_getElem?_getD, List.getElem?_eq_none hle] at hkb
          simp at hkb
        have hki : (k : Int) < kn := by omega
        obtain ⟨kb, ko, hka, hkc, hcell⟩ := HK.out k (by rw [← HKN.out]; exact hkk)
        rw [hkb] at hcell
        have hcell2 : wr.cell? ⟨kb, ko + k, none⟩ = some (.bool true) := (HQ.out.2.below.cell (p := ⟨kb, ko + k, none⟩) hkc).trans hcell
        subst hka
        clear hcell
        have hke : ((kept (A.pend.take (k + 1)) keep).length : Int) = (kept (A.pend.take k) keep).length + 1 := by rw [kept_take A keep hkp, if_pos hkb]; simp
        have HKE := Lib.hid hke
        have hws : IntKind.i64.wrap ((kept (A.pend.take k) keep).length + 1 : Int) = (kept (A.pend.take k) keep).length + 1 := IntWalk.i64_in _ (by omega)
        obtain ⟨g, c, gp, cp, e1, e2, e3, e4, e5, ⟨v, e6⟩, e7⟩ := HQ.out.at (i := k) hkp
        have HST := Lib.hid (HQ.out.step (A.pend.getD k (0, [])) e3 e1)
        have hkt : kept (A.pend.take k) keep ++ [A.pend.getD k (0, [])] = kept (A.pend.take (k + 1)) keep := by rw [kept_take A keep hkp, if_pos hkb]; rfl
        rw [hkt] at HST
        rw [← HN.out] at e3
        simp only [Value.slice.injEq] at e1 e2
        obtain ⟨rfl, -, -⟩ := e1
        obtain ⟨rfl, -, -⟩ := e2
        clear hke hkt hkb hkp
        generalize A.pend.getD k (0, []) = x at *
        obtain ⟨x1, x2⟩ := x
        dsimp only at *
        have z1 : (0 : Int) ≤ (x1 : Int) := by omega
        have z2 : (x1 : Int) < n := by omega
        generalize str x2 = Y at *
        generalize (kept (A.pend.take k) keep).length = nk at *
        go_wp2_with fail
        go_region
        all_goals go_wp2_with fail
        all_goals go_roundw
        case rel => exact ⟨k + 1, by omega, by go_num, by rw [HKE.out], HST.out.below (Below.refl _ _).drew⟩
        case measure => simp [intOf]; omega
      · have hkb' : keep.getD k false = false := by simpa using hkb
        have hkt : kept (A.pend.take (k + 1)) keep = kept (A.pend.take k) keep := by rw [kept_take A keep hkp, if_neg hkb, List.append_nil]
        have HKT := Lib.hid hkt
        clear hkt hkp
        by_cases hkk : k < kn
        · have hki : (k : Int) < kn := by omega
          obtain ⟨kb, ko, hka, hkc, hcell⟩ := HK.out k (by rw [← HKN.out]; exact hkk)
          rw [hkb'] at hcell
          have hcell2 : wr.cell? ⟨kb, ko + k, none⟩ = some (.bool false) := (HQ.out.2.below.cell (p := ⟨kb, ko + k, none⟩) hkc).trans hcell
          subst hka
          clear hcell hkb hkb'
          go_wp2_with fail
          go_roundw
          case rel => exact ⟨k + 1, by omega, by go_num, by rw [HKT.out], by rw [HKT.out]; exact HQ.out⟩
          case measure => simp [intOf]; omega
        · have hki : ¬ (k : Int) < kn := by omega
          clear hkb hkb'
          go_wp2_with fail
          go_roundw
          case rel => exact ⟨k + 1, by omega, by go_num, by rw [HKT.out], by rw [HKT.out]; exact HQ.out⟩
          case measure => simp [intOf]; omega
    · obtain rfl : m = k := by omega
      go_wp2_with fail
      go_ret
      have h := HQ.out.1
      have e : A.pend.take m = A.pend := by rw [HM.out, List.take_length]
      rw [e] at h
      have b1 := heap_setCell_same wr q 1 _ _ (.slice none 0 0) h.head
      have b2 := heap_setCell_same _ q 2 _ _ (.bool false) b1
      have b3 := heap_setCell_same _ q 3 _ _ (.int .i64 (-1)) b2
      refine ⟨by rw [e]; rfl, ⟨_, _, h.setHead (pv' := .slice none 0 0) (A' := crashed A keep) rfl (b3.trans rfl) (fun k hk => by rw [heap_setCell_other _ _ _ _ hk, heap_setCell_other _ _ _ _ hk, heap_setCell_other _ _ _ _ hk]) (.inr ⟨rfl, rfl⟩) (by simp [crashed]) (by simp [crashed])⟩, HQ.out.2.trans ?_⟩
      exact ((RLeaves.setCell _ _ _ _ h.hq h.head (.inl rfl)).trans (RLeaves.setCell _ _ _ _ h.hq b1 (.inl rfl))).trans (RLeaves.setCell _ _ _ _ h.hq b2 (.inl rfl))
end
end Go.Proofs.Ytnkhfgfiifadhaa
