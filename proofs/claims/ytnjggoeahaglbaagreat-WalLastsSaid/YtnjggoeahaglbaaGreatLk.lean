/- What the smaller laws of the log share. -/
import Derived.Test.YtnjggoeahaglbaaGreatLal
namespace Go.Proofs.YtnjggoeahaglbaaGreat.Wa
open Go.ChangeShapes Go.WideShapes Go.ChangeAt Go.RowKit
open Fr
set_option linter.unusedVariables false
set_option linter.unusedSimpArgs false
set_option maxRecDepth 100000
/-- To, where no stop is ahead. -/
theorem ls_to_ok {C q p : Nat} {A : Lg} {D : Dk.St} (n : Int) (w : World) (h : LS C q p A D w) (hi : Inv A D) (hr : D.runs = true) (hl : D.left < 0) (hn : (A.dur : Int) < n) :
    ∃ D', Inv { A with dur := A.recs.length, fin := A.fin + cntB (A.recs.drop A.dur) } D' ∧ D'.runs = true ∧ D'.left = D.left ∧ D'.last.length = D.last.length ∧
      Calls Tryz.prog 18 #[.pointer (some ⟨q, 0, none⟩), .int .i64 n] w fun e w' => e = .returned (.int .i64 0) ∧ LS C q p { A with dur := A.recs.length, fin := A.fin + cntB (A.recs.drop A.dur) } D' w' ∧ Lv C w w' := by
  have hF := ls_to n w h hi
  rw [if_neg (by omega)] at hF
  rcases flush_ways hi with ⟨h1, h2⟩ | ⟨h1, h2, h3, h4, h5, h6, h7, h8⟩ | ⟨_, h2, _⟩
  · rw [h2] at hF
    have e : A.recs.drop A.dur = [] := List.drop_eq_nil_of_le (by omega)
    rw [e, cnt_nil, Nat.add_zero, ← h1]
    exact ⟨D, hi, hr, rfl, rfl, hF⟩
  · rw [(hi.bat h1).2] at h4
    rw [h3] at hF
    rw [h4] at hF h5
    exact ⟨_, h5, h6, h8 hl, h7, hF⟩
  · exact absurd hl (h2 hr)
/-- To, where there is nothing to do. -/
theorem ls_to_not {C q p : Nat} {A : Lg} {D : Dk.St} (n : Int) (w : World) (h : LS C q p A D w) (hi : Inv A D) (hn : n ≤ (A.dur : Int)) :
    Calls Tryz.prog 18 #[.pointer (some ⟨q, 0, none⟩), .int .i64 n] w fun e w' => e = .returned (.int .i64 0) ∧ LS C q p A D w' ∧ Lv C w w' := by
  have hF := ls_to n w h hi
  rw [if_pos hn] at hF
  exact hF
theorem disk_pend {C p : Nat} {D : Dk.St} {w : World} (h : Dk.Disk C p D w) (hp : D.pend = []) : Calls Tryz.prog 35 #[.pointer (some ⟨p, 0, none⟩)] w fun e w' => e = .returned (.int .i64 0) ∧ w = w' := by
  have := Dk.pending_d h
  rw [hp] at this
  exact this
theorem disk_crash {C p : Nat} {D : Dk.St} {w : World} (h : Dk.Disk C p D w) (hp : D.pend = []) : Calls Tryz.prog 23 #[.pointer (some ⟨p, 0, none⟩), .slice none 0 0] w fun e w' => e = .returned (.int .i64 0) ∧ Dk.Disk C p ⟨D.last, [], true, -1⟩ w' ∧ Lv C w w' := by
  refine (Dk.crash_none h none 0 (by rw [hp]; exact Nat.zero_le _)).mono ?_
  rintro e w' ⟨a, b, c⟩
  exact ⟨a, b, .of_d c⟩
theorem cnt_ok {l : List BA} (h : ∀ x ∈ l, Rc.getOk x = true) : cntB l = ((strmB l).length + 55) / 56 := by
  by_cases h0 : l = []
  · subst h0; rfl
  · unfold cntB
    rw [if_pos (strm_ok h h0)]
/-- The records of WalTo. -/
def abL (k : Nat) : List BA := (List.range k).map fun (j : Nat) => Rc.putS (recK 6 ((j : Int) + 1) ⟨#[]⟩)
def abG (k : Nat) : Lg := ⟨0, 250, 3, 0, abL k, 0⟩
theorem abL_length (k : Nat) : (abL k).length = k := by simp [abL]
theorem ab_right {k : Nat} (h : k < 20) : Rc.rightR (recK 6 ((k : Int) + 1) ⟨#[]⟩) = true := recK_right (by decide) (by omega) (by decide)
theorem abL_len {k : Nat} (h : k ≤ 20) : ∀ x ∈ abL k, x.length = 32 := fun x hx => by
  obtain ⟨j, hj, rfl⟩ := List.mem_map.1 hx
  have := List.mem_range.1 hj
  have h9 : j < 20 := by omega
  exact (recK_length (ab_right h9) : (Rc.putS (recK 6 ((j : Int) + 1) ⟨#[]⟩)).length = 32 + 0)
theorem abG_succ (k : Nat) : appA (abG k) (recK 6 ((k : Int) + 1) ⟨#[]⟩) = abG (k + 1) := by
  unfold appA abG
  congr 1
  show abL k ++ _ = abL (k + 1)
  unfold abL
  rw [List.range_succ, List.map_append]
  rfl
theorem ab_room {k : Nat} (h : k < 20) : roomA (abG k) (recK 6 ((k : Int) + 1) ⟨#[]⟩) = true := by
  unfold roomA
  refine decide_eq_true ?_
  have e := abG_succ k
  have e2 : abL k ++ [Rc.putS (recK 6 ((k : Int) + 1) ⟨#[]⟩)] = abL (k + 1) := congrArg Lg.recs e
  show ((cntB (abL k ++ [Rc.putS (recK 6 ((k : Int) + 1) ⟨#[]⟩)]) : Nat) : Int) ≤ 250 - 0
  rw [e2, cnt_const (abL_len (k := k + 1) (by omega)) (by omega) (by omega), abL_length]
  omega
end Go.Proofs.YtnjggoeahaglbaaGreat.Wa
namespace Go.Proofs.YtnjggoeahaglbaaGreat.Fr
open Go.ChangeShapes Go.WideShapes Go.ChangeAt Go.RowKit
theorem ints_read {H : Type} {enc : TypeId × Value → H} {W : World} {A : Option Addr} {len cap base fuel : Nat} {sp : Nat → Bool} {hd : Bool} {x : DataW H × List MemPlace}
    (h : DataW.trod enc Tryz.prog W base sp hd fuel 38 [.slice A len cap] = some x) (hsp : ∀ b, sp b = true) : ∃ l, Ints W A len l ∧ len ≤ cap ∧ cap ≤ maxLen := by
  rcases open_ints Tryz.underlying38 Tryz.underlying3 (by kernel_rfl) h with ⟨hcs, _⟩ | ⟨a, len', cap', zs, hcs, _, hl, hm, hz, _, hcell, hwz⟩
  · simp at hcs
    obtain ⟨rfl, rfl, rfl⟩ := hcs
    exact ⟨[], ⟨rfl, fun k hk => by omega⟩, by omega, by unfold maxLen; omega⟩
  · simp at hcs
    obtain ⟨rfl, rfl, rfl⟩ := hcs
    rw [hsp] at hz
    simp only [if_true] at hz
    refine ⟨zs.take len, ⟨by rw [List.length_take]; omega, fun k hk => ?_⟩, hl, hm⟩
    have hc := hcell k (by omega)
    have h0 := hcell 0 (by omega)
    obtain ⟨b, off, spot⟩ := a
    have hspot : spot = none := by simpa [Addr.add] using World.cell?_spot h0
    subst hspot
    rw [add_plain] at hc
    have e : (zs.take len).getD k 0 = zs.getD k 0 := by
      rw [List.getD_eq_getElem?_getD, List.getD_eq_getElem?_getD, List.getElem?_take, if_pos hk]
    have hkz : k < zs.length := by omega
    have hw := int_range (hwz (zs.getD k 0) (by rw [List.getD_eq_getElem?_getD, List.getElem?_eq_getElem hkz]; exact List.getElem_mem hkz))
    refine ⟨b, off, rfl, World.block_lt_of_cell? W _ hc, ?_⟩
    rw [e]
    exact ⟨hc, hw⟩
end Go.Proofs.YtnjggoeahaglbaaGreat.Fr
