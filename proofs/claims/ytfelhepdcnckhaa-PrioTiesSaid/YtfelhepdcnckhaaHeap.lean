/- Heaps, without a program: what one step up and one step down of a binary heap keep, and what stands at the end. -/
import Init
namespace Go.Proofs.Ytfelhepdcnckhaa

section
variable {α : Type}

/-- Two places exchanged. -/
def sw (f : Nat → α) (i j : Nat) : Nat → α := fun x => if x = i then f j else if x = j then f i else f x

theorem sw_left (f : Nat → α) (i j : Nat) : sw f i j i = f j := by simp [sw]
theorem sw_right (f : Nat → α) (i j : Nat) : sw f i j j = f i := by unfold sw; split <;> simp_all
theorem sw_other (f : Nat → α) (i j x : Nat) (h1 : x ≠ i) (h2 : x ≠ j) : sw f i j x = f x := by simp [sw, h1, h2]

/-- The first n places. -/
def vals (f : Nat → α) (n : Nat) : List α := (List.range n).map f

theorem vals_length (f : Nat → α) (n : Nat) : (vals f n).length = n := by simp [vals]
theorem vals_get (f : Nat → α) (n i : Nat) (h : i < n) : (vals f n)[i]? = some (f i) := by simp [vals, h]
theorem vals_succ (f : Nat → α) (n : Nat) : vals f (n + 1) = vals f n ++ [f n] := by simp [vals, List.range_succ]
theorem vals_congr (f g : Nat → α) (n : Nat) (h : ∀ i, i < n → f i = g i) : vals f n = vals g n := by
  unfold vals; exact List.map_congr_left fun i hi => h i (List.mem_range.1 hi)

theorem vals_sw (f : Nat → α) (n i j : Nat) (hi : i < n) (hj : j < n) : (vals (sw f i j) n).Perm (vals f n) := by
  have h := Array.swap_perm (xs := (vals f n).toArray) (i := i) (j := j) (by simp [vals_length]; exact hi) (by simp [vals_length]; exact hj)
  have e : ((vals f n).toArray.swap i j (by simp [vals_length]; exact hi) (by simp [vals_length]; exact hj)).toList = vals (sw f i j) n := by
    apply List.ext_getElem?
    intro k
    by_cases hk : k < n
    · rw [vals_get _ _ _ hk, Array.getElem?_toList, Array.getElem?_swap]
      simp only [List.getElem?_toArray, vals, sw, List.getElem_toArray, List.getElem_map, List.getElem_range, List.getElem?_map, List.getElem?_range hk]
      by_cases h1 : k = i <;> by_cases h2 : k = j <;> simp_all [eq_comm]
    · rw [List.getElem?_eq_none (by simp [vals_length]; omega), List.getElem?_eq_none (by simp [vals_length]; omega)]
  have h2 := h.toList
  rw [e] at h2
  simpa using h2

variable (le : α → α → Prop)

/-- All whose parent's place is k or behind it stand behind their parents. -/
def Hp (f : Nat → α) (k n : Nat) : Prop := ∀ c, 0 < c → c < n → k ≤ (c - 1) / 2 → le (f ((c - 1) / 2)) (f c)
/-- A heap but for j, which may have to go up. -/
def UpAt (f : Nat → α) (n j : Nat) : Prop :=
  (∀ c, 0 < c → c < n → c ≠ j → le (f ((c - 1) / 2)) (f c)) ∧ (0 < j → ∀ c, 0 < c → c < n → (c - 1) / 2 = j → le (f ((j - 1) / 2)) (f c))
/-- A heap from k on but for i, which may have to go down. -/
def DownAt (f : Nat → α) (k n i : Nat) : Prop :=
  (∀ c, 0 < c → c < n → k ≤ (c - 1) / 2 → (c - 1) / 2 ≠ i → le (f ((c - 1) / 2)) (f c)) ∧ (0 < i → k ≤ (i - 1) / 2 → ∀ c, 0 < c → c < n → (c - 1) / 2 = i → le (f ((i - 1) / 2)) (f c))
/-- A heap but for i, which may have to go either way. -/
def MidAt (f : Nat → α) (n i : Nat) : Prop :=
  (∀ c, 0 < c → c < n → c ≠ i → (c - 1) / 2 ≠ i → le (f ((c - 1) / 2)) (f c)) ∧ (0 < i → ∀ c, 0 < c → c < n → (c - 1) / 2 = i → le (f ((i - 1) / 2)) (f c))

variable {le} {f : Nat → α} {k n i j : Nat} (total : ∀ a b, le a b ∨ le b a) (trans : ∀ a b c, le a b → le b c → le a c)

theorem up_start (h : Hp le f 0 n) : UpAt le f (n + 1) n :=
  ⟨fun c h0 h1 h2 => h c h0 (by omega) (Nat.zero_le _), fun _ c h0 h1 h2 => by omega⟩
theorem up_done (h : UpAt le f n j) (hj : j = 0 ∨ le (f ((j - 1) / 2)) (f j)) : Hp le f 0 n := fun c h0 h1 _ => by
  by_cases e : c = j
  · subst e
    rcases hj with hj | hj
    · omega
    · exact hj
  · exact h.1 c h0 h1 e
include total trans in
theorem up_step (h : UpAt le f n j) (hj : 0 < j) (hn : j < n) (hl : ¬ le (f ((j - 1) / 2)) (f j)) : UpAt le (sw f ((j - 1) / 2) j) n ((j - 1) / 2) := by
  have hjp : le (f j) (f ((j - 1) / 2)) := (total _ _).resolve_right hl
  refine ⟨fun c h0 h1 h2 => ?_, fun hp c h0 h1 h2 => ?_⟩
  · by_cases e : c = j
    · subst e
      rw [sw_left, sw_right]; exact hjp
    · rw [sw_other f _ _ c h2 e]
      by_cases e2 : (c - 1) / 2 = j
      · rw [e2, sw_right]; exact h.2 hj c h0 h1 e2
      · by_cases e3 : (c - 1) / 2 = (j - 1) / 2
        · rw [e3, sw_left]
          exact trans _ _ _ hjp (by have := h.1 c h0 h1 e; rwa [e3] at this)
        · rw [sw_other f _ _ _ e3 e2]; exact h.1 c h0 h1 e
  · have hq : le (f (((j - 1) / 2 - 1) / 2)) (f ((j - 1) / 2)) := h.1 ((j - 1) / 2) hp (by omega) (by omega)
    rw [sw_other f _ _ _ (by omega) (by omega)]
    by_cases e : c = j
    · subst e
      rw [sw_right]; exact hq
    · rw [sw_other f _ _ c (by omega) e]
      exact trans _ _ _ hq (by have := h.1 c h0 h1 e; rwa [h2] at this)

theorem down_done (h : DownAt le f k n i) (hi : ∀ c, 0 < c → c < n → (c - 1) / 2 = i → le (f i) (f c)) : Hp le f k n := fun c h0 h1 h2 => by
  by_cases e : (c - 1) / 2 = i
  · rw [e]; exact hi c h0 h1 e
  · exact h.1 c h0 h1 h2 e
include total in
theorem down_step (h : DownAt le f k n i) (hk : k ≤ i) (hj0 : 0 < j) (hj : (j - 1) / 2 = i) (hn : j < n) (hl : ¬ le (f i) (f j)) (hm : ∀ c, 0 < c → c < n → (c - 1) / 2 = i → le (f j) (f c)) :
    DownAt le (sw f i j) k n j := by
  have hji : le (f j) (f i) := (total _ _).resolve_right hl
  refine ⟨fun c h0 h1 h2 h3 => ?_, fun _ _ c h0 h1 h2 => ?_⟩
  · by_cases e : (c - 1) / 2 = i
    · rw [e, sw_left]
      by_cases e2 : c = j
      · subst e2; rw [sw_right]; exact hji
      · rw [sw_other f _ _ c (by omega) e2]; exact hm c h0 h1 e
    · rw [sw_other f _ _ _ e h3]
      by_cases e2 : c = i
      · subst e2
        rw [sw_left]; exact h.2 h0 h2 j hj0 hn hj
      · rw [sw_other f _ _ c e2 (by omega)]; exact h.1 c h0 h1 h2 e
  · rw [hj, sw_left, sw_other f _ _ c (by omega) (by omega), ← h2]
    subst h2
    exact h.1 c h0 h1 (by omega) (by omega)
theorem pop_start (h : Hp le f 0 (n + 1)) : DownAt le (sw f 0 n) 0 n 0 :=
  ⟨fun c h0 h1 h2 h3 => by rw [sw_other f _ _ _ h3 (by omega), sw_other f _ _ c (by omega) (by omega)]; exact h c h0 (by omega) (Nat.zero_le _), fun h0 => by omega⟩
theorem init_start : Hp le f (n / 2) n := fun c h0 h1 h2 => by omega
theorem init_step (h : Hp le f (i + 1) n) : DownAt le f i n i := ⟨fun c h0 h1 h2 h3 => h c h0 h1 (by omega), fun h0 h1 => by omega⟩

theorem mid_start (h : Hp le f 0 (n + 1)) (trans : ∀ a b c, le a b → le b c → le a c) (hi : i < n) : MidAt le (sw f i n) n i := by
  refine ⟨fun c h0 h1 h2 h3 => ?_, fun h0 c h1 h2 h3 => ?_⟩
  · rw [sw_other f _ _ _ h3 (by omega), sw_other f _ _ c h2 (by omega)]; exact h c h0 (by omega) (Nat.zero_le _)
  · rw [sw_other f _ _ _ (by omega) (by omega), sw_other f _ _ c (by omega) (by omega)]
    exact trans _ _ _ (h i h0 (by omega) (Nat.zero_le _)) (by have := h c h1 (by omega) (Nat.zero_le _); rwa [h3] at this)
theorem mid_up (h : MidAt le f n i) (hi : ∀ c, 0 < c → c < n → (c - 1) / 2 = i → le (f i) (f c)) : UpAt le f n i :=
  ⟨fun c h0 h1 h2 => by
    by_cases e : (c - 1) / 2 = i
    · rw [e]; exact hi c h0 h1 e
    · exact h.1 c h0 h1 h2 e, h.2⟩
include total in
theorem mid_step (h : MidAt le f n i) (hj0 : 0 < j) (hj : (j - 1) / 2 = i) (hn : j < n) (hl : ¬ le (f i) (f j)) (hm : ∀ c, 0 < c → c < n → (c - 1) / 2 = i → le (f j) (f c)) :
    DownAt le (sw f i j) 0 n j := by
  have hji : le (f j) (f i) := (total _ _).resolve_right hl
  refine ⟨fun c h0 h1 _ h3 => ?_, fun _ _ c h0 h1 h2 => ?_⟩
  · by_cases e : (c - 1) / 2 = i
    · rw [e, sw_left]
      by_cases e2 : c = j
      · subst e2; rw [sw_right]; exact hji
      · rw [sw_other f _ _ c (by omega) e2]; exact hm c h0 h1 e
    · rw [sw_other f _ _ _ e h3]
      by_cases e2 : c = i
      · subst e2
        rw [sw_left]; exact h.2 h0 j hj0 hn hj
      · rw [sw_other f _ _ c e2 (by omega)]; exact h.1 c h0 h1 e2 e
  · rw [hj, sw_left, sw_other f _ _ c (by omega) (by omega)]
    have := h.1 c h0 h1 (by omega) (by omega)
    rwa [h2] at this

theorem heap_first (h : Hp le f 0 n) (refl : ∀ a, le a a) (trans : ∀ a b c, le a b → le b c → le a c) : ∀ i, i < n → le (f 0) (f i) := by
  intro i
  induction i using Nat.strongRecOn with
  | _ i ih =>
    intro hi
    by_cases e : i = 0
    · subst e; exact refl _
    · exact trans _ _ _ (ih ((i - 1) / 2) (by omega) (by omega)) (h i (by omega) hi (Nat.zero_le _))
/-- The children of i. -/
theorem child {c i : Nat} (h0 : 0 < c) (h : (c - 1) / 2 = i) : c = 2 * i + 1 ∨ c = 2 * i + 2 := by omega
end
end Go.Proofs.Ytfelhepdcnckhaa
