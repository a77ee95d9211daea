/- The program's pool: the page that goes first; the dirty pages. -/
import Derived.Test.YtcecfageijkifaaPe
namespace Go.Proofs.Ytcecfageijkifaa.Po
open Go.ChangeShapes Go.WideShapes Go.ChangeAt Go.RowKit
set_option linter.unusedVariables false
set_option linter.unusedSimpArgs false
set_option maxRecDepth 100000
theorem add_plain (b off i : Nat) : (⟨b, off, none⟩ : Addr).add i = ⟨b, off + i, none⟩ := by unfold Addr.add; split <;> simp_all
theorem OwnI.shape {B : Nat} {w : World} {v : Value} {l : List Int} (h : OwnI B w v l) : (v = .slice none 0 0 ∧ l = []) ∨ ∃ g c, v = .slice (some ⟨g, 0, none⟩) l.length c ∧ B ≤ g ∧ g < w.heap.size ∧ l.length ≤ c ∧ ∀ i, i < l.length → w.cell? ⟨g, i, none⟩ = some (.int .i64 (l.getD i 0)) := by
  have hlt := h.lt
  have h9 := h.2
  have hc := fun (g : Nat) (hg : v.ownBlock = some g) => h.cells (g := g) hg
  rcases h.2 with ⟨rfl, hn⟩ | ⟨g, cap, cur, rfl, h1, h2, h3, _⟩
  · exact .inl ⟨rfl, List.eq_nil_of_length_eq_zero hn⟩
  · refine .inr ⟨g, cap, rfl, h1, (hlt g rfl).2, h3, fun i hi => ?_⟩
    have := hc g rfl i (.int .i64 (l.getD i 0)) (by simp [ics, List.getD, hi])
    rwa [add_plain, Nat.zero_add] at this
/-- The least of the first i pages. -/
def pk (A : Pl) (i : Nat) : Int := ((A.ks.take i).drop 1).foldl (fun m x => if before A x m then x else m) (A.ks.getD 0 0)
theorem pk_all (A : Pl) : pk A A.ks.length = victim A := by unfold pk victim; rw [List.take_length]
theorem pk_one (A : Pl) : pk A 1 = A.ks.getD 0 0 := by
  unfold pk
  rw [List.drop_eq_nil_of_le (by simp; omega)]
  rfl
theorem pk_step (A : Pl) {i : Nat} (h1 : 1 ≤ i) (h2 : i < A.ks.length) : pk A (i + 1) = if before A (A.ks.getD i 0) (pk A i) then A.ks.getD i 0 else pk A i := by
  unfold pk
  have e : (A.ks.take (i + 1)).drop 1 = (A.ks.take i).drop 1 ++ [A.ks.getD i 0] := by
    rw [List.take_succ_eq_append_getElem h2, List.drop_append_of_le_length (by simp; omega)]
    simp [List.getD, h2]
  rw [e, List.foldl_append]
  rfl
theorem foldl_mem (f : Int → Int → Bool) : ∀ (l : List Int) (m : Int), l.foldl (fun m x => if f x m then x else m) m = m ∨ l.foldl (fun m x => if f x m then x else m) m ∈ l
  | [], m => .inl rfl
  | x :: r, m => by
    rw [List.foldl_cons]
    rcases foldl_mem f r (if f x m then x else m) with h | h
    · rw [h]
      split
      · exact .inr List.mem_cons_self
      · exact .inl rfl
    · exact .inr (List.mem_cons_of_mem _ h)
theorem pk_mem (A : Pl) (i : Nat) (h : A.ks ≠ []) : pk A i ∈ A.ks := by
  have h0 : A.ks.getD 0 0 ∈ A.ks := by
    cases hk : A.ks with
    | nil => exact absurd hk h
    | cons a r => simp
  unfold pk
  rcases foldl_mem (before A) ((A.ks.take i).drop 1) (A.ks.getD 0 0) with h1 | h1
  · rw [h1]; exact h0
  · exact List.mem_of_mem_take (List.mem_of_mem_drop h1)
theorem victim_mem (A : Pl) (h : A.ks ≠ []) : victim A ∈ A.ks := by rw [← pk_all]; exact pk_mem A _ h
section
variable {Ω : Type} {h : Host Ω} {S : Nat → Prop} {p F T : Nat} {bk : Int → Option Nat} {tf : Int → Option (Nat × Nat)} {A : Pl} {w : World}
theorem PM.below {rv wv lv : Value} {w' : World} (hp : PM S rv wv lv p F T bk tf A w) (hb : Below w.heap.size w w') : PM S rv wv lv p F T bk tf A w' := hp.keep (Tn.of_below (S := fun _ => False) hb) (fun _ _ hf => hf)
theorem min_is (hp : PM S h.rv h.wv h.lv p F T bk tf A w) (hA : Ok A) {B : Nat} {v : Value} (ho : OwnI B w v A.ks) (hne : A.ks ≠ []) :
    Calls Try.prog 41 #[v, .func (.func 42) #[ptr p] #[]] w fun e w' => e = .returned (.int .i64 (victim A)) ∧ Below w.heap.size w w' := by
  rcases ho.shape with ⟨_, h0⟩ | ⟨g, c, rfl, _, hgl, hcap, hcell⟩
  · exact absurd h0 hne
  obtain ⟨n, hn⟩ : ∃ n, A.ks.length = n := ⟨_, rfl⟩
  have hn1 : 1 ≤ n := by
    rw [← hn]
    exact List.length_pos_iff.2 hne
  have hn16 : n ≤ 16 := by rw [← hn]; exact Nat.le_trans hA.len hA.m2
  have HN := Lib.hid hn
  rw [hn] at hcell hcap ⊢
  have hcz : w.cell? ⟨g, 0, none⟩ = some (.int .i64 (A.ks.getD 0 0)) := hcell 0 (by omega)
  have hnz : ¬ ((n : Int) < 1) := by omega
  have CM := Lib.hid (fun (u : World) (hu : Below w.heap.size w u) (a b : Int) (ha : rng a) (hb : rng b) => compare_is (h := h) (hp.below hu) ha hb)
  have HC := Lib.hid (fun (u : World) (hu : Below w.heap.size w u) (i : Nat) (hi : i < n) => show u.cell? ⟨g, i, none⟩ = some (.int .i64 (A.ks.getD i 0)) from (hu.cell (p := ⟨g, i, none⟩) hgl).trans (hcell i hi))
  have HV := Lib.hid (pk_all A)
  obtain ⟨k0, hk0⟩ : ∃ k, A.ks.getD 0 0 = k := ⟨_, rfl⟩
  have HK0 := Lib.hid hk0
  rw [hk0] at hcz
  clear hk0
  have HA := Lib.hid hA
  have HE := Lib.hid hne
  have HQ := Lib.hid ho
  clear hp hcell hn ho hne
  go_enter Try.func41, Try.ntmps41
  go_wp2_with fail
  go_loopw [5, 6] (fun m x wr => ∃ i : Nat, 1 ≤ i ∧ i ≤ n ∧ x = .int .i64 i ∧ m = .int .i64 (pk A i) ∧ Hid (Below w.heap.size w wr)) (fun _ x _ => n - (intOf x).toNat)
  case atStart => exact ⟨1, Nat.le_refl _, hn1, rfl, by rw [pk_one, HK0.out], Lib.hid (Below.refl _ _)⟩
  case round =>
    obtain ⟨i, hi1, hi, rfl, rfl, hb⟩ := hrel
    have HB := Lib.hid hb.out
    clear hb hcz
    have b0 : (0 : Int) ≤ (i : Int) := by omega
    by_cases hlt : i < n
    · have b1 : (i : Int) < (n : Int) := by omega
      have hci := HC.out _ HB.out i hlt
      have HK := Lib.hid (show rng (A.ks.getD i 0) from HA.out.rg _ (by simp [List.getD, HN.out, hlt]))
      have HP := Lib.hid (show rng (pk A i) from HA.out.rg _ (pk_mem A i HE.out))
      have HS := Lib.hid (pk_step A hi1 (by rw [HN.out]; exact hlt))
      obtain ⟨x, hx⟩ : ∃ x, A.ks.getD i 0 = x := ⟨_, rfl⟩
      rw [hx] at hci HK HS
      have HX := Lib.hid hx
      clear hx
      obtain ⟨m, hm⟩ : ∃ m, pk A i = m := ⟨_, rfl⟩
      rw [hm] at HP HS ⊢
      clear hm
      go_wp2_with fail
      refine (CM.out _ HB.out x m HK.out HP.out).mono ?_; rintro e w2 ⟨cc, rfl, hcb, hb2⟩
      have HCB := Lib.hid hcb
      have HB2 := Lib.hid (HB.out.trans (hb2.mono HB.out.size))
      clear hb2 HB hcb
      by_cases hc : cc < 0
      · have e2 : pk A (i + 1) = x := by rw [HS.out, if_pos (HCB.out.1 hc)]
        have hcj := HC.out _ HB2.out i hlt
        rw [HX.out] at hcj
        go_wp2_with fail
        go_roundw
        case rel => exact ⟨i + 1, by omega, by omega, by go_num, by rw [e2], HB2⟩
        case measure => simp [intOf]; omega
      · have e2 : pk A (i + 1) = m := by rw [HS.out, if_neg (fun h' => hc (HCB.out.2 h'))]
        go_wp2_with fail
        go_roundw
        case rel => exact ⟨i + 1, by omega, by omega, by go_num, by rw [e2], HB2⟩
        case measure => simp [intOf]; omega
    · obtain rfl : i = n := by omega
      have e2 : pk A i = victim A := by rw [← HN.out]; exact HV.out
      rw [e2]
      clear e2
      go_wp2_with fail
      go_ret
      exact ⟨rfl, HB.out⟩
end
end Go.Proofs.Ytcecfageijkifaa.Po
