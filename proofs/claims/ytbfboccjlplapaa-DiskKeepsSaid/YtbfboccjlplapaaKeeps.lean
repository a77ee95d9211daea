/- For every list of at most thirty bools: of as many pending writes to sectors of their own each is kept just if its bool says so, and what was synced stays; for longer lists the statement asks nothing. No condition. -/
import Derived.Test.YtbfboccjlplapaaRows
import Derived.Test.YtbfboccjlplapaaBase
import Derived.Lib.Hide
import Derived.WalkKit
import Derived.ProofKit
import Derived.OpenShut
import Derived.ChangeOld
import Derived.Below
import Derived.Carry
namespace Go.Proofs.Ytbfboccjlplapaa.diskKeeps
open Go.ChangeShapes Go.WideShapes Go.ChangeAt Go.RowKit
set_option linter.unusedVariables false

theorem own : ownKnob Try.prog.godebug = none := by kernel_rfl
theorem laidOut : laidOutB Try.prog = true := by kernel_rfl


def fx : BA := fill [120]
def fs : BA := fill [115, 121, 110, 99, 101, 100]
theorem fill_x (w : World) : Calls Try.prog 18 #[.string ⟨#[120]⟩] w fun e w' => e = .returned (.string (str fx)) ∧ Below w.heap.size w w' := fill_ok ⟨#[120]⟩ (by decide) w
theorem fill_s (w : World) : Calls Try.prog 18 #[.string ⟨#[115, 121, 110, 99, 101, 100]⟩] w fun e w' => e = .returned (.string (str fs)) ∧ Below w.heap.size w w' := fill_ok ⟨#[115, 121, 110, 99, 101, 100]⟩ (by decide) w
theorem fill_e (w : World) : Calls Try.prog 18 #[.string ⟨#[]⟩] w fun e w' => e = .returned (.string (str zeroS)) ∧ Below w.heap.size w w' := by
  have := fill_ok ⟨#[]⟩ (by decide) w
  rw [show fill (ByteArray.mk #[]).data.toList = zeroS from fill_nil] at this
  exact this
theorem str_list (b : BA) : (str b).toList = b := by rw [ByteArray.toList_eq]; exact str_toList b
theorem beq_str {a b : BA} (h : a ≠ b) : ((str a).toList == (str b).toList) = false := by
  rw [str_list, str_list, beq_eq_false_iff_ne]; exact h
theorem fx_ne : ((str fx).toList == (str zeroS).toList) = false := beq_str (by decide)
theorem fx_ne' : ((str zeroS).toList == (str fx).toList) = false := beq_str (by decide)
theorem cell_below {w w' : World} {a : Addr} {v : Value} (hb : Below w.heap.size w w') (h : w.cell? a = some v) : w'.cell? a = some v := (hb.cell (World.block_lt_of_cell? w a h)).trans h
theorem below_step {a b c : World} (h : Below a.heap.size a b) (k : Below b.heap.size b c) : Below a.heap.size a c := h.trans (k.mono h.size)
def base : List BA := (List.replicate 40 zeroS).set 39 fs
theorem base_length : base.length = 40 := by simp [base]
theorem sync_base : synced (wrote (blank 40) 39 fs) = ⟨base, [], true, -1⟩ := by simp [synced, wrote, blank, appl, base]
def writes (k : Nat) : List PW := (List.range k).map fun j => (j, fx)
theorem writes_succ (k : Nat) : writes (k + 1) = writes k ++ [(k, fx)] := by simp [writes, List.range_succ]
theorem writes_length (k : Nat) : (writes k).length = k := by simp [writes]
theorem kept_writes' (k : Nat) (l : List Bool) : kept (writes (k + 1)) l = kept (writes k) l ++ (if l.getD k false then [(k, fx)] else []) := by rw [writes_succ, kept_snoc, writes_length]
theorem kept_writes (k : Nat) (l : List Bool) : (kept (writes (k + 1)) l).length = (kept (writes k) l).length + (if l.getD k false then 1 else 0) := by
  rw [kept_writes', List.length_append]
  split <;> rfl
theorem getD_set (L : List BA) (i j : Nat) (b : BA) (hi : i < L.length) : (L.set i b).getD j [] = if i = j then b else L.getD j [] := by
  rw [List.getD_eq_getElem?_getD, List.getElem?_set]
  by_cases e : i = j
  · subst e; rw [if_pos rfl, if_pos hi, if_pos rfl]; rfl
  · rw [if_neg e, if_neg e, List.getD_eq_getElem?_getD]
theorem kept_get' (l : List Bool) (j : Nat) : ∀ m, m ≤ 30 → (appl base (kept (writes m) l)).getD j [] = if j < m ∧ l.getD j false = true then fx else base.getD j []
  | 0, _ => by simp [writes, kept_nil, appl_nil]
  | m + 1, h => by
    rw [kept_writes']
    by_cases hb : l.getD m false = true
    · rw [if_pos hb, appl_snoc, getD_set _ _ _ _ (by rw [appl_length, base_length]; omega), kept_get' l j m (by omega)]
      by_cases e : m = j
      · subst e; rw [if_pos rfl, if_pos ⟨by omega, hb⟩]
      · rw [if_neg e]
        by_cases e2 : j < m ∧ l.getD j false = true
        · rw [if_pos e2, if_pos ⟨by omega, e2.2⟩]
        · rw [if_neg e2, if_neg (fun h => e2 ⟨by omega, h.2⟩)]
    · rw [if_neg hb, List.append_nil, kept_get' l j m (by omega)]
      by_cases e2 : j < m ∧ l.getD j false = true
      · rw [if_pos e2, if_pos ⟨by omega, e2.2⟩]
      · rw [if_neg e2, if_neg (fun h => e2 ⟨by rcases Nat.lt_or_ge j m with h' | h'; exact h'; exact absurd (by rw [show m = j by omega]; exact h.2) hb, h.2⟩)]
theorem kept_get (m : Nat) (l : List Bool) (j : Nat) (hj : j < m) (hm : m ≤ 30) : (appl base (kept (writes m) l)).getD j [] = if l.getD j false then fx else zeroS := by
  rw [kept_get' l j m hm]
  have hb : base.getD j [] = zeroS := by
    unfold base
    rw [getD_set _ _ _ _ (by simp), if_neg (by omega), List.getD_eq_getElem?_getD, List.getElem?_replicate, if_pos (by omega)]; rfl
  rw [hb]
  by_cases h : l.getD j false = true
  · rw [if_pos ⟨hj, h⟩, if_pos h]
  · rw [if_neg (fun h' => h h'.2), if_neg h]
theorem kept_39 (m : Nat) (l : List Bool) (hm : m ≤ 30) : (appl base (kept (writes m) l)).getD 39 [] = fs := by
  rw [kept_get' l 39 m hm, if_neg (by omega)]
  unfold base
  rw [getD_set _ _ _ _ (by simp), if_pos rfl]
theorem Keeps_of {w w1 wr : World} {A : Option Addr} {n C : Nat} {l : List Bool} (h : Bools w A n l) (hb : Below w.heap.size w w1) (hb2 : Below C w1 wr) (hC : w.heap.size ≤ C) : Keeps C A l wr := fun i hi => by
  obtain ⟨b, o, h1, h2, h3⟩ := h.2 i (by rw [← h.1]; exact hi)
  refine ⟨b, o, h1, ?_, .inl (by omega)⟩
  rw [hb2.cell (p := ⟨b, o + i, none⟩) (show b < C by omega), hb.cell (p := ⟨b, o + i, none⟩) h2]
  exact h3
set_option maxRecDepth 100000 in
set_option maxHeartbeats 8000000 in
theorem walk (A : Option Addr) (n c : Nat) (l : List Bool) (w : World) (hl : Bools w A n l) (hm : n ≤ maxLen) :
    Calls Try.prog 4 #[.slice A n c] w fun e w' => e = .returned (.bool true) ∧ Below w.heap.size w w' := by
  unfold maxLen at hm
  have HL := Lib.hid hl
  clear hl
  by_cases c0 : 30 < n
  · have d0 : True := trivial
    go_enter Try.func4, Try.ntmps4
    go_wp2_with fail
    refine (alive_yes _).mono ?_; rintro e w1 ⟨rfl, hb1⟩
    have B1 := Lib.hid hb1
    clear hb1
    go_wp2_with fail
    go_ret
    exact ⟨rfl, B1.out⟩
  · have d0 : n ≤ 30 := by omega
    go_enter Try.func4, Try.ntmps4
    go_wp2_with fail
    refine (alive_yes _).mono ?_; rintro e w1 ⟨rfl, hb1⟩
    have B1 := Lib.hid hb1
    clear hb1
    go_wp2_with fail
    refine (new_d 40 (by omega) (by omega) _).mono ?_; rintro e w2 ⟨rfl, h⟩
    obtain ⟨C, hC⟩ : ∃ C, C = w1.heap.size := ⟨_, rfl⟩
    rw [← hC] at h ⊢
    have H := Lib.hid h
    have HC := Lib.hid (show w.heap.size ≤ C by rw [hC]; exact B1.out.size)
    clear h hC
    go_wp2_with fail
    refine (fill_s _).mono ?_; rintro e w3 ⟨rfl, h⟩
    have H1 := Lib.hid (H.out.more h (Nat.le_refl _))
    clear h H
    go_wp2_with fail
    refine (write_d H1.out.1 39 fs rfl (by simp [blank]) (fill_length _) (by simp [blank]) (by simp [blank])).mono ?_; rintro e w4 ⟨rfl, h⟩
    have H2 := Lib.hid (H1.out.then h)
    clear h H1
    go_wp2_with fail
    refine (sync_d H2.out.1 rfl).mono ?_; rintro e w5 ⟨rfl, h⟩
    have H3 := Lib.hid (show After C (C + 1) ⟨base, writes 0, true, -1⟩ w1 w5 from by have := H2.out.then h; rw [sync_base] at this; exact this)
    clear h H2
    go_wp2_with fail
    go_loopw [4, 35] (fun nv kv wr => ∃ k : Nat, k ≤ n ∧ kv = .int .i64 k ∧ nv = .int .i64 ((kept (writes k) l).length : Int) ∧ After C (C + 1) ⟨base, writes k, true, -1⟩ w1 wr) (fun _ kv _ => n - (intOf kv).toNat)
    case atStart => exact ⟨0, Nat.zero_le _, rfl, by simp [writes, kept_nil], H3.out⟩
    case round =>
      clear H3
      obtain ⟨k, hk, rfl, rfl, hq⟩ := hrel
      have HQ := Lib.hid hq
      have hkl : (kept (writes k) l).length ≤ k := by have := kept_le (writes k) l; rw [writes_length] at this; exact this
      clear hq
      by_cases hlt : k < n
      · have hkk : (k : Int) < n := by omega
        obtain ⟨kb, ko, rfl, hbw, hcell⟩ := HL.out.2 k hlt
        have HKE := Lib.hid (kept_writes k l)
        obtain ⟨v, hv⟩ : ∃ v, v = l.getD k false := ⟨_, rfl⟩
        rw [← hv] at hcell
        have HV := Lib.hid hv
        clear hv
        go_wp2_with fail
        refine (fill_x _).mono ?_; rintro e X1 ⟨rfl, h⟩
        have H1 := Lib.hid (HQ.out.more h (Nat.le_refl _))
        clear h
        go_wp2_with fail
        refine (write_d H1.out.1 k fx rfl (by rw [show (⟨base, writes k, true, -1⟩ : St).last = base from rfl, base_length]; omega) (fill_length _) (by simp) (by show (writes k).length ≤ _; rw [writes_length]; omega)).mono ?_; rintro e X2 ⟨rfl, h⟩
        have H2 := Lib.hid (show After C (C + 1) ⟨base, writes (k + 1), true, -1⟩ w1 X2 from by have := H1.out.then h; rw [writes_succ]; simpa [wrote] using this)
        clear h H1
        have hc2 : X2.cell? ⟨kb, ko + k, none⟩ = some (.bool v) := by
          rw [H2.out.2.below.cell (p := ⟨kb, ko + k, none⟩) (show kb < C by have := HC.out; omega), B1.out.cell (p := ⟨kb, ko + k, none⟩) hbw]; exact hcell
        cases v with
        | true =>
          go_wp2_with fail
          go_roundw
          case rel => exact ⟨k + 1, by omega, by go_num, by rw [HKE.out, ← HV.out]; go_num, H2.out⟩
          case measure => simp [intOf]; omega
        | false =>
          go_wp2_with fail
          go_roundw
          case rel => exact ⟨k + 1, by omega, by go_num, by rw [HKE.out, ← HV.out]; simp, H2.out⟩
          case measure => simp [intOf]; omega
      · obtain rfl : k = n := by omega
        have hkp := Keeps_of HL.out B1.out HQ.out.2.below HC.out
        have HKP := Lib.hid hkp
        clear hkp
        have hcr : Calls Try.prog 21 #[ptr (C + 1), .slice A k c] wr fun e w' => e = .returned (.int .i64 (kept (writes k) l).length) ∧ After C (C + 1) ⟨appl base (kept (writes k) l), [], true, -1⟩ wr w' := by
          have := crash_d HQ.out.1 l A c (by show (writes k).length ≤ _; rw [writes_length]; omega) (by rw [HL.out.1]; simp [maxLen]; omega) HKP.out
          rw [HL.out.1] at this
          exact this
        have HCR := Lib.hid hcr
        clear hcr
        go_wp2_with fail
        refine HCR.out.mono ?_; rintro e X1 ⟨rfl, h⟩
        have H1 := Lib.hid (HQ.out.then h)
        clear h
        go_wp2_with fail
        have hd : Calls Try.prog 22 #[ptr (C + 1)] X1 fun e w' => e = .returned (.int .i64 0) ∧ X1 = w' := pending_d H1.out.1
        refine hd.mono ?_; rintro e X3 ⟨rfl, rfl⟩
        clear hd
        go_wp2_with fail
        go_loopw [62] (fun kv wr => ∃ i : Nat, i ≤ k ∧ kv = .int .i64 i ∧ After C (C + 1) ⟨appl base (kept (writes k) l), [], true, -1⟩ w1 wr) (fun kv _ => k - (intOf kv).toNat)
        case atStart => exact ⟨0, Nat.zero_le _, rfl, H1.out⟩
        case round =>
          clear H1 HQ HKP HCR
          obtain ⟨i, hi, rfl, hq⟩ := hrel
          have HQ := Lib.hid hq
          clear hq
          by_cases hit : i < k
          · have hii : (i : Int) < k := by omega
            obtain ⟨kb, ko, rfl, hbw, hcell⟩ := HL.out.2 i hit
            have hrd : Calls Try.prog 15 #[ptr (C + 1), .int .i64 i] wr fun e w' => e = .returned (.tuple #[.string (str (if l.getD i false then fx else zeroS)), .int .i64 0]) ∧ wr = w' := by
              have := read_d HQ.out.1 i rfl (by show i < (appl base (kept (writes k) l)).length; rw [appl_length, base_length]; omega)
              rw [show (⟨appl base (kept (writes k) l), [], true, -1⟩ : St).last = appl base (kept (writes k) l) from rfl, show (⟨appl base (kept (writes k) l), [], true, -1⟩ : St).pend = [] from rfl, appl_nil, kept_get k l i hit (by omega)] at this
              exact this
            obtain ⟨v, hv⟩ : ∃ v, v = l.getD i false := ⟨_, rfl⟩
            rw [← hv] at hcell hrd
            have HRD := Lib.hid hrd
            have hc2 : wr.cell? ⟨kb, ko + i, none⟩ = some (.bool v) := by
              rw [HQ.out.2.below.cell (p := ⟨kb, ko + i, none⟩) (show kb < C by have := HC.out; omega), B1.out.cell (p := ⟨kb, ko + i, none⟩) hbw]; exact hcell
            clear hv hrd hcell
            go_wp2_with fail
            refine HRD.out.mono ?_; rintro e X3 ⟨rfl, rfl⟩
            have FX := Lib.hid fill_x
            have FE := Lib.hid fill_e
            obtain ⟨X, hX⟩ : ∃ X, X = str fx := ⟨_, rfl⟩
            obtain ⟨Z, hZ⟩ : ∃ Z, Z = str zeroS := ⟨_, rfl⟩
            rw [← hX] at FX
            rw [← hZ] at FE
            have hne : (X.toList == Z.toList) = false := by rw [hX, hZ]; exact fx_ne
            have hne' : (Z.toList == X.toList) = false := by rw [hX, hZ]; exact fx_ne'
            rw [show str (if v then fx else zeroS) = if v then X else Z by rw [hX, hZ]; cases v <;> rfl]
            clear hX hZ HRD
            cases v with
            | true =>
              rw [if_pos rfl]
              go_wp2_with fail
              go_region_held3 (fun w' => w'.cell? ⟨kb, ko + i, none⟩ = some (.bool true) ∧ Below wr.heap.size wr w') (((try dsimp only); (first | exact ⟨cell_below (by assumption) (And.left (by assumption)), below_step (And.right (by assumption)) (by assumption)⟩ | exact ⟨by simpa using hc2, (Below.refl _ _).drew⟩)))
                (first
                  | (go_at_call_of 18 (Value.string ⟨#[120]⟩); refine (FX.out _).mono ?_; rintro e w' ⟨rfl, hb⟩)
                  | (go_at_call_of 18 (Value.string ⟨#[]⟩); refine (FE.out _).mono ?_; rintro e w' ⟨rfl, hb⟩))
              obtain ⟨_, hbz⟩ := ‹_ ∧ Below wr.heap.size wr _›
              have HZ := Lib.hid (HQ.out.more hbz (Nat.le_refl _))
              clear hbz
              go_wp2_with fail
              go_roundw
              case rel => exact ⟨i + 1, by omega, by go_num, HZ.out⟩
              case measure => simp [intOf]; omega
            | false =>
              rw [if_neg (by simp)]
              go_wp2_with fail
              go_region_held3 (fun w' => w'.cell? ⟨kb, ko + i, none⟩ = some (.bool false) ∧ Below wr.heap.size wr w') (((try dsimp only); (first | exact ⟨cell_below (by assumption) (And.left (by assumption)), below_step (And.right (by assumption)) (by assumption)⟩ | exact ⟨by simpa using hc2, (Below.refl _ _).drew⟩)))
                (first
                  | (go_at_call_of 18 (Value.string ⟨#[120]⟩); refine (FX.out _).mono ?_; rintro e w' ⟨rfl, hb⟩)
                  | (go_at_call_of 18 (Value.string ⟨#[]⟩); refine (FE.out _).mono ?_; rintro e w' ⟨rfl, hb⟩))
              obtain ⟨_, hbz⟩ := ‹_ ∧ Below wr.heap.size wr _›
              have HZ := Lib.hid (HQ.out.more hbz (Nat.le_refl _))
              clear hbz
              go_wp2_with fail
              go_roundw
              case rel => exact ⟨i + 1, by omega, by go_num, HZ.out⟩
              case measure => simp [intOf]; omega
          · obtain rfl : i = k := by omega
            have hrd : Calls Try.prog 15 #[ptr (C + 1), .int .i64 39] wr fun e w' => e = .returned (.tuple #[.string (str fs), .int .i64 0]) ∧ wr = w' := by
              have := read_d HQ.out.1 39 rfl (by show 39 < (appl base (kept (writes i) l)).length; rw [appl_length, base_length]; omega)
              rw [show (⟨appl base (kept (writes i) l), [], true, -1⟩ : St).last = appl base (kept (writes i) l) from rfl, show (⟨appl base (kept (writes i) l), [], true, -1⟩ : St).pend = [] from rfl, appl_nil, kept_39 i l (by omega)] at this
              exact this
            have HRD := Lib.hid hrd
            clear hrd
            have FS := Lib.hid fill_s
            obtain ⟨X, hX⟩ : ∃ X, X = str fs := ⟨_, rfl⟩
            rw [← hX] at FS HRD
            clear hX
            go_wp2_with fail
            refine HRD.out.mono ?_; rintro e X3 ⟨rfl, rfl⟩
            go_wp2_with fail
            refine (FS.out _).mono ?_; rintro e X4 ⟨rfl, h⟩
            have H4 := Lib.hid (HQ.out.more h (Nat.le_refl _))
            clear h
            go_wp2_with fail
            go_ret
            exact ⟨rfl, B1.out.trans (H4.out.2.below.mono HC.out)⟩

/-! The row's step. -/
set_option maxRecDepth 100000 in
theorem lifted (os : Os) (started : os.Started) (H : Type) (enc : TypeId × Value → H) :
    ReturnsInHanded {} Try.checked os 4 .any (Rows.diskKeepsSpec.pre6 enc Try.prog Try.f4 Rows.diskKeepsRow.domain false) (Rows.diskKeepsSpec.post enc Try.prog Try.f4 false true false false) := by
  refine returnsInHanded_of_change (C := Try.checked) own started (by kernel_rfl) Try.func4
    (ChangeSpec.witness6 (enc := enc) (C := Try.checked) false ⟨#[], #[.slice none 0 0], []⟩ 8 (by kernel_rfl) (by kernel_rfl) (by kernel_rfl) (by kernel_rfl)) ?_
  intro W base args ds gs before hval0 hW hcnd _
  have hval : ∀ (j : Nat) t v, Try.f4.params[j]? = some t → args[j]? = some v → Value.okWide Try.prog W .any base t v := hval0
  have hW' := hW
  obtain ⟨p, q, hA0, hV, rfl, hfz, hnd⟩ := hW
  have hA : DataW.TrodAll enc Try.prog W 0 (fun _ => true) true Try.f4.params.toList args.toList ds p := hA0
  rw [Try.params4] at hA hval
  obtain ⟨v0, vs0, d0, ds0, p0, q0, hargs, rfl, rfl, h0, r0⟩ := trodAll_cons hA
  obtain ⟨rfl, rfl, rfl⟩ := trodAll_nil r0
  obtain rfl : args = #[v0] := by cases args; simp_all
  obtain ⟨rfl, rfl⟩ := trodVars_none hV
  obtain ⟨A0, n0, c0, rfl⟩ := okWide_slice Try.underlying38 (hval 0 38 v0 rfl rfl)
  have k0 := h0
  have lt0 : ∀ x ∈ p0, x.block < W.heap.size := by obtain ⟨m, hm⟩ := k0; exact DataW.trod_lt m _ _ _ hm
  obtain ⟨l0, w0, e0, f0⟩ := (by obtain ⟨fuel, hf⟩ := h0; exact bools_read hf (fun _ => rfl) : ∃ l, Bools W A0 n0 l ∧ n0 ≤ c0 ∧ c0 ≤ maxLen)
  clear hA0 hval0
  refine (walk A0 n0 c0 l0 W w0 (Nat.le_trans e0 f0)).mono fun e W' ⟨he, bel⟩ => ?_
  subst he
  exact ⟨_, rfl, _, _, _, [], _, [], hW', trodAll_mk1 (shut_bool Try.underlying4 _), (trodAll_cons_mk (Below.trod laidOut (by kernel_rfl) (of_decide_eq_true (by kernel_rfl)) k0 bel lt0) trodAll_mk0), rfl, bel.frame _, fun h => by cases h⟩

theorem over : Rows.diskKeepsRow.holds Try.pinned (OpenSpec.ofChange Rows.diskKeepsSpec) :=
  OpenClaim.holds_of_wide 4 Try.f4 rfl rfl rfl rfl rfl rfl rfl ⟨rfl, rfl, rfl, rfl, rfl⟩ rfl rfl rfl rfl rfl (by kernel_rfl) Try.func4 (by kernel_rfl)
    (of_decide_eq_true (by kernel_rfl)) (by unfold Func.isWrapper; first | (rw [if_pos (by decide +kernel)]; kernel_rfl) | (rw [if_neg (by decide +kernel)]; exact ⟨rfl, rfl⟩))
    (fun os started H enc _ => lifted os started H enc)

/-- The statement. -/
theorem proved : Rows.DiskKeepsSaid := over
end Go.Proofs.Ytbfboccjlplapaa.diskKeeps
