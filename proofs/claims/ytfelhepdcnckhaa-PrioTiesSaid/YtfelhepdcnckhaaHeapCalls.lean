/- The contracts of container/heap's up, down, Push and Pop, out of what the four methods do. -/
import Derived.Test.YtfelhepdcnckhaaRows
import Derived.Test.YtfelhepdcnckhaaHeap
import Derived.Below
import Derived.WalkKit
import Derived.ProofKit
import Derived.LoopTactic
import Derived.Outline
import Derived.Lib.Hide
import Derived.WalkLawsBesides
import Derived.WalkSpells
import Derived.KernelRfl
namespace Go.Proofs.Ytfelhepdcnckhaa
open Go.ChangeShapes Go.WideShapes Go.ChangeAt Go.RowKit
set_option linter.unusedVariables false

/-! A method of a value, called through an interface that holds a pointer: the walk stands at 'method ..' till this is laid. -/
theorem run_nilchk {P : Program} (ts : Array TypeId) (ty : TypeId) (a : Addr) (s1 s2 : String) (W : World) : (Builtin.ssaWrapNilChk_ ts ty #[.pointer (some a), strVal s1, strVal s2]).run P W = .ok (.pointer (some a)) W := rfl
theorem run_method_value {P : Program} {t e : TypeId} {fuel : Nat} {name : String} {f : FuncId} (a : Addr) (W : World) (v : Value)
    (h : ((P.info? t).bind fun i => (i.methods.find? (·.name == name)).map fun m => (m.path, m.func)) = some (#[], some (f, false)))
    (hu : P.underlying t = some (.pointer e)) (hl : (loadVar e a).run P W = .ok v W) : (method (fuel + 1) t (.pointer (some a)) name).run P W = .ok (f, v) W := by
  obtain ⟨i, hi, hm⟩ := Option.bind_eq_some_iff.1 h
  obtain ⟨m, hf, he⟩ := Option.map_eq_some_iff.1 hm
  simp only [Prod.mk.injEq] at he
  obtain ⟨h1, h2⟩ := he
  simp [method, typeInfo, hi, hf, h1, h2, follow, receiverAt, run_underlying hu, Place.get, run_nilchk, asAddr, hl]


/-- What the heap's own functions ask of the four methods: St w f n: memory holds n things, f i at i; Fr: what may have turned. -/
structure Meth {α : Type} (p : Addr) (le : α → α → Prop) (St : World → (Nat → α) → Nat → Prop) (Fr : World → World → Prop) : Prop where
  refl : ∀ w, Fr w w
  trans : ∀ a b c, Fr a b → Fr b c → Fr a c
  less : ∀ w f n, St w f n → ∃ v, (method 209 46 (.pointer (some p)) "Less").run Try.prog w = .ok (69, v) w ∧ ∀ i j : Nat, i < n → j < n →
    (le (f j) (f i) → Calls Try.prog 69 #[v, .int .i64 i, .int .i64 j] w fun e w' => e = .returned (.bool false) ∧ St w' f n ∧ Fr w w') ∧
    (¬ le (f j) (f i) → Calls Try.prog 69 #[v, .int .i64 i, .int .i64 j] w fun e w' => e = .returned (.bool true) ∧ St w' f n ∧ Fr w w')
  swap : ∀ w f n, St w f n → ∃ v, (method 209 46 (.pointer (some p)) "Swap").run Try.prog w = .ok (70, v) w ∧ ∀ i j : Nat, i < n → j < n →
    Calls Try.prog 70 #[v, .int .i64 i, .int .i64 j] w fun e w' => e = .returned (.tuple #[]) ∧ St w' (sw f i j) n ∧ Fr w w'

/-- What up leaves. -/
def Heaped {α : Type} (le : α → α → Prop) (St : World → (Nat → α) → Nat → Prop) (Fr : World → World → Prop) (f : Nat → α) (m n : Nat) (w w' : World) : Prop :=
  ∃ g, St w' g m ∧ Hp le g 0 n ∧ (vals g n).Perm (vals f n) ∧ (∀ i, n ≤ i → g i = f i) ∧ Fr w w'
def Rising {α : Type} (le : α → α → Prop) (St : World → (Nat → α) → Nat → Prop) (Fr : World → World → Prop) (f : Nat → α) (m n j : Nat) (w wr : World) : Prop :=
  ∃ g, St wr g m ∧ UpAt le g n j ∧ (vals g n).Perm (vals f n) ∧ (∀ i, n ≤ i → g i = f i) ∧ Fr w wr

set_option maxHeartbeats 1000000 in
theorem up_any {α : Type} {p : Addr} {le : α → α → Prop} {St : World → (Nat → α) → Nat → Prop} {Fr : World → World → Prop} (M : Meth p le St Fr)
    (total : ∀ a b, le a b ∨ le b a) (trans : ∀ a b c, le a b → le b c → le a c) (f : Nat → α) (m n j : Nat) (w : World) (hS : St w f m) (hU : UpAt le f n j) (hj : j < n) (hnm : n ≤ m) (hn : n ≤ 1000000) :
    Calls Try.prog 26 #[.iface 46 (.pointer (some p)), .int .i64 (j : Int)] w fun e w' => e = .returned (.tuple #[]) ∧ Heaped le St Fr f m n w w' := by
  have HS := Lib.hid hS
  have HU := Lib.hid hU
  have HM := Lib.hid M
  have HT := Lib.hid total
  have HR := Lib.hid trans
  clear hS hU M total trans
  go_enter Try.func26, Try.ntmps26
  go_wp2_with fail
  go_loopw [1, 4] (fun x _ wr => ∃ k : Nat, k < n ∧ x = .int .i64 k ∧ Rising le St Fr f m n k w wr) (fun x _ _ => (intOf x).toNat)
  case atStart => exact ⟨j, hj, rfl, f, HS.out, HU.out, List.Perm.refl _, fun _ _ => rfl, HM.out.refl _⟩
  case round =>
    obtain ⟨k, hk, rfl, hq⟩ := hrel
    obtain ⟨g, h1, h2, h3, h4, h5⟩ := hq
    have H1 := Lib.hid h1
    have H2 := Lib.hid h2
    have H3 := Lib.hid h3
    have H4 := Lib.hid h4
    have H5 := Lib.hid h5
    clear h1 h2 h3 h4 h5
    by_cases k0 : k = 0
    · subst k0
      go_wp2_with fail
      go_end0
      exact ⟨rfl, g, H1.out, up_done H2.out (.inl rfl), H3.out, H4.out, H5.out⟩
    · have hb : ((((k : Int) - 1) / 2) == k) = false := by rw [beq_eq_false_iff_ne]; omega
      have hi0 : (0 : Int) ≤ ((k : Int) - 1) / 2 := by omega
      have hi1 : ((k : Int) - 1) / 2 ≤ 1000000 := by omega
      have hkp : (0 : Int) < (k : Int) := by omega
      have hi : ((k : Int) - 1) / 2 = (((k - 1) / 2 : Nat) : Int) := by omega
      have Hi := Lib.hid hi
      clear hi
      obtain ⟨v, hm, hl⟩ := HM.out.less _ _ _ H1.out
      have HL := Lib.hid (hl k ((k - 1) / 2) (by omega) (by omega))
      clear hl
      by_cases hle : le (g ((k - 1) / 2)) (g k)
      · have HE := Lib.hid hle
        have HC := Lib.hid (HL.out.1 hle)
        clear hle
        go_wp2_with fail
        rw [Hi.out]
        refine HC.out.mono ?_; rintro e X1 ⟨rfl, hs1, hf1⟩
        have S1 := Lib.hid hs1
        have F1 := Lib.hid hf1
        clear hs1 hf1
        go_wp2_with fail
        go_end0
        exact ⟨rfl, g, S1.out, up_done H2.out (.inr HE.out), H3.out, H4.out, HM.out.trans _ _ _ H5.out F1.out⟩
      · have HE := Lib.hid hle
        have HC := Lib.hid (HL.out.2 hle)
        clear hle
        go_wp2_with fail
        rw [Hi.out]
        refine HC.out.mono ?_; rintro e X1 ⟨rfl, hs1, hf1⟩
        obtain ⟨v2, hm2, hl2⟩ := HM.out.swap _ _ _ hs1
        have HC2 := Lib.hid (hl2 ((k - 1) / 2) k (by omega) (by omega))
        have F1 := Lib.hid hf1
        clear hs1 hf1 hl2
        go_wp2_with fail
        refine HC2.out.mono ?_; rintro e X2 ⟨rfl, hs2, hf2⟩
        have S2 := Lib.hid hs2
        have F2 := Lib.hid hf2
        clear hs2 hf2
        go_wp2_with fail
        go_roundw
        case rel =>
          refine ⟨(k - 1) / 2, by omega, rfl, sw g ((k - 1) / 2) k, S2.out, up_step HT.out HR.out H2.out (by omega) hk HE.out, ?_, fun i hi => ?_, HM.out.trans _ _ _ H5.out (HM.out.trans _ _ _ F1.out F2.out)⟩
          · exact (vals_sw g n _ _ (by omega) hk).trans H3.out
          · rw [sw_other g _ _ i (by omega) (by omega)]; exact H4.out i hi
        case measure => simp [intOf]; omega

/-- What down leaves. -/
def Sunk {α : Type} (le : α → α → Prop) (St : World → (Nat → α) → Nat → Prop) (Fr : World → World → Prop) (f : Nat → α) (k m n : Nat) (w : World) (e : Ending) (w' : World) : Prop :=
  ∃ b, e = .returned (.bool b) ∧ ∃ g, St w' g m ∧ Hp le g k n ∧ (vals g n).Perm (vals f n) ∧ (∀ i, n ≤ i → g i = f i) ∧ Fr w w'
def Sinking {α : Type} (le : α → α → Prop) (St : World → (Nat → α) → Nat → Prop) (Fr : World → World → Prop) (f : Nat → α) (k m n i : Nat) (w wr : World) : Prop :=
  ∃ g, St wr g m ∧ DownAt le g k n i ∧ (vals g n).Perm (vals f n) ∧ (∀ i, n ≤ i → g i = f i) ∧ Fr w wr
theorem trans_ {α : Type} {le : α → α → Prop} (h : ∀ a b c, le a b → le b c → le a c) {a b c : α} (h1 : le a b) (h2 : le b c) : le a c := h a b c h1 h2
theorem refl_ {α : Type} {le : α → α → Prop} (h : ∀ a b, le a b ∨ le b a) (a : α) : le a a := (h a a).elim id id

set_option maxHeartbeats 4000000 in
theorem down_any {α : Type} {p : Addr} {le : α → α → Prop} {St : World → (Nat → α) → Nat → Prop} {Fr : World → World → Prop} (M : Meth p le St Fr)
    (total : ∀ a b, le a b ∨ le b a) (trans : ∀ a b c, le a b → le b c → le a c) (f : Nat → α) (k m n i0 : Nat) (w : World) (hS : St w f m) (hU : DownAt le f k n i0) (hk : k ≤ i0) (hnm : n ≤ m) (hm : m ≤ 1000000) (hi0 : i0 ≤ n) :
    Calls Try.prog 31 #[.iface 46 (.pointer (some p)), .int .i64 (i0 : Int), .int .i64 (n : Int)] w fun e w' => Sunk le St Fr f k m n w e w' := by
  have HS := Lib.hid hS
  have HU := Lib.hid hU
  have HM := Lib.hid M
  have HT := Lib.hid total
  have HR := Lib.hid trans
  clear hS hU M total trans
  go_enter Try.func31, Try.ntmps31
  go_wp2_with fail
  go_loopw [7, 8, 9, 10] (fun x _ _ _ wr => ∃ i : Nat, i ≤ n ∧ k ≤ i ∧ x = .int .i64 i ∧ Sinking le St Fr f k m n i w wr) (fun x _ _ _ _ => n - (intOf x).toNat)
  case atStart => exact ⟨i0, hi0, hk, rfl, f, HS.out, HU.out, List.Perm.refl _, fun _ _ => rfl, HM.out.refl _⟩
  case round =>
    obtain ⟨i, hin, hki, rfl, hq⟩ := hrel
    obtain ⟨g, h1, h2, h3, h4, h5⟩ := hq
    have H1 := Lib.hid h1
    have H2 := Lib.hid h2
    have H3 := Lib.hid h3
    have H4 := Lib.hid h4
    have H5 := Lib.hid h5
    clear h1 h2 h3 h4 h5
    have hI : (i : Int) ≤ 1000000 := by omega
    have hN : (n : Int) ≤ 1000000 := by omega
    have hI0 : (0 : Int) ≤ (i : Int) := by omega
    have e1 := Lib.hid (show 2 * (i : Int) + 1 = ((2 * i + 1 : Nat) : Int) by omega)
    have e2 := Lib.hid (show 2 * (i : Int) + 1 + 1 = ((2 * i + 2 : Nat) : Int) by omega)
    by_cases c1 : 2 * i + 1 < n
    · have d1 : ¬ ((n : Int) ≤ 2 * (i : Int) + 1) := by omega
      have d2 : ¬ (2 * (i : Int) + 1 < 0) := by omega
      by_cases c2 : 2 * i + 2 < n
      · have d3 : 2 * (i : Int) + 1 + 1 < (n : Int) := by omega
        obtain ⟨v, hm1, hl⟩ := HM.out.less _ _ _ H1.out
        have HL := Lib.hid (hl (2 * i + 2) (2 * i + 1) (by omega) (by omega))
        rw [← e2.out, ← e1.out] at HL
        clear hl
        by_cases hq : le (g (2 * i + 1)) (g (2 * i + 2))
        · have HQ := Lib.hid hq
          have HC := Lib.hid (HL.out.1 hq)
          clear hq
          go_wp2_with fail
          refine HC.out.mono ?_; rintro e X2 ⟨rfl, hs2, hf2⟩
          have S2 := Lib.hid hs2
          have F2 := Lib.hid hf2
          clear hs2 hf2
          have HMIN : Hid (∀ c, 0 < c → c < n → (c - 1) / 2 = i → le (g (2 * i + 1)) (g c)) := Lib.hid (fun c c0 cn cp => by
            rcases child c0 cp with rfl | rfl
            · exact refl_ HT.out _
            · exact HQ.out)

          obtain ⟨v3, hm3, hl3⟩ := HM.out.less _ _ _ S2.out
          have HL3 := Lib.hid (hl3 (2 * i + 1) i (by omega) (by omega))
          rw [← e1.out] at HL3
          clear hl3
          by_cases hle : le (g i) (g (2 * i + 1))
          · have HE := Lib.hid hle
            have HC := Lib.hid (HL3.out.1 hle)
            clear hle
            go_wp2_with fail
            refine HC.out.mono ?_; rintro e X3 ⟨rfl, hs3, hf3⟩
            have S3 := Lib.hid hs3
            have F3 := Lib.hid hf3
            clear hs3 hf3
            go_wp2_with fail
            go_ret
            exact ⟨_, rfl, g, S3.out, down_done H2.out (fun c c0 cn cp => trans_ HR.out HE.out (HMIN.out c c0 cn cp)), H3.out, H4.out, HM.out.trans _ _ _ (HM.out.trans _ _ _ H5.out F2.out) F3.out⟩
          · have HE := Lib.hid hle
            have HC := Lib.hid (HL3.out.2 hle)
            clear hle
            go_wp2_with fail
            refine HC.out.mono ?_; rintro e X3 ⟨rfl, hs3, hf3⟩
            obtain ⟨v4, hm4, hl4⟩ := HM.out.swap _ _ _ hs3
            have HC4 := Lib.hid (hl4 i (2 * i + 1) (by omega) (by omega))
            rw [← e1.out] at HC4
            have F3 := Lib.hid hf3
            clear hs3 hf3 hl4
            go_wp2_with fail
            refine HC4.out.mono ?_; rintro e X4 ⟨rfl, hs4, hf4⟩
            have S4 := Lib.hid hs4
            have F4 := Lib.hid hf4
            clear hs4 hf4
            go_wp2_with fail
            go_roundw
            case rel =>
              refine ⟨2 * i + 1, by omega, by omega, congrArg (Value.int IntKind.i64) e1.out, sw g i (2 * i + 1), S4.out, down_step HT.out H2.out hki (by omega) (by omega) (by omega) HE.out HMIN.out, ?_, fun x hx => ?_, HM.out.trans _ _ _ (HM.out.trans _ _ _ H5.out F2.out) (HM.out.trans _ _ _ F3.out F4.out)⟩
              · exact (vals_sw g n _ _ (by omega) (by omega)).trans H3.out
              · rw [sw_other g _ _ x (by omega) (by omega)]; exact H4.out x hx
            case measure => simp [intOf]; omega
        · have HQ := Lib.hid hq
          have HC := Lib.hid (HL.out.2 hq)
          clear hq
          go_wp2_with fail
          refine HC.out.mono ?_; rintro e X2 ⟨rfl, hs2, hf2⟩
          have S2 := Lib.hid hs2
          have F2 := Lib.hid hf2
          clear hs2 hf2
          have HMIN : Hid (∀ c, 0 < c → c < n → (c - 1) / 2 = i → le (g (2 * i + 2)) (g c)) := Lib.hid (fun c c0 cn cp => by
            rcases child c0 cp with rfl | rfl
            · exact (HT.out _ _).resolve_left HQ.out
            · exact refl_ HT.out _)

          obtain ⟨v3, hm3, hl3⟩ := HM.out.less _ _ _ S2.out
          have HL3 := Lib.hid (hl3 (2 * i + 2) i (by omega) (by omega))
          rw [← e2.out] at HL3
          clear hl3
          by_cases hle : le (g i) (g (2 * i + 2))
          · have HE := Lib.hid hle
            have HC := Lib.hid (HL3.out.1 hle)
            clear hle
            go_wp2_with fail
            refine HC.out.mono ?_; rintro e X3 ⟨rfl, hs3, hf3⟩
            have S3 := Lib.hid hs3
            have F3 := Lib.hid hf3
            clear hs3 hf3
            go_wp2_with fail
            go_ret
            exact ⟨_, rfl, g, S3.out, down_done H2.out (fun c c0 cn cp => trans_ HR.out HE.out (HMIN.out c c0 cn cp)), H3.out, H4.out, HM.out.trans _ _ _ (HM.out.trans _ _ _ H5.out F2.out) F3.out⟩
          · have HE := Lib.hid hle
            have HC := Lib.hid (HL3.out.2 hle)
            clear hle
            go_wp2_with fail
            refine HC.out.mono ?_; rintro e X3 ⟨rfl, hs3, hf3⟩
            obtain ⟨v4, hm4, hl4⟩ := HM.out.swap _ _ _ hs3
            have HC4 := Lib.hid (hl4 i (2 * i + 2) (by omega) (by omega))
            rw [← e2.out] at HC4
            have F3 := Lib.hid hf3
            clear hs3 hf3 hl4
            go_wp2_with fail
            refine HC4.out.mono ?_; rintro e X4 ⟨rfl, hs4, hf4⟩
            have S4 := Lib.hid hs4
            have F4 := Lib.hid hf4
            clear hs4 hf4
            go_wp2_with fail
            go_roundw
            case rel =>
              refine ⟨2 * i + 2, by omega, by omega, congrArg (Value.int IntKind.i64) e2.out, sw g i (2 * i + 2), S4.out, down_step HT.out H2.out hki (by omega) (by omega) (by omega) HE.out HMIN.out, ?_, fun x hx => ?_, HM.out.trans _ _ _ (HM.out.trans _ _ _ H5.out F2.out) (HM.out.trans _ _ _ F3.out F4.out)⟩
              · exact (vals_sw g n _ _ (by omega) (by omega)).trans H3.out
              · rw [sw_other g _ _ x (by omega) (by omega)]; exact H4.out x hx
            case measure => simp [intOf]; omega
      · have d3 : ¬ (2 * (i : Int) + 1 + 1 < (n : Int)) := by omega
        have d4 : (n : Int) ≤ 2 * (i : Int) + 1 + 1 := by omega
        have HMIN : Hid (∀ c, 0 < c → c < n → (c - 1) / 2 = i → le (g (2 * i + 1)) (g c)) := Lib.hid (fun c c0 cn cp => by
          rcases child c0 cp with rfl | rfl
          · exact refl_ HT.out _
          · omega)

        obtain ⟨v3, hm3, hl3⟩ := HM.out.less _ _ _ H1.out
        have HL3 := Lib.hid (hl3 (2 * i + 1) i (by omega) (by omega))
        rw [← e1.out] at HL3
        clear hl3
        by_cases hle : le (g i) (g (2 * i + 1))
        · have HE := Lib.hid hle
          have HC := Lib.hid (HL3.out.1 hle)
          clear hle
          go_wp2_with fail
          refine HC.out.mono ?_; rintro e X3 ⟨rfl, hs3, hf3⟩
          have S3 := Lib.hid hs3
          have F3 := Lib.hid hf3
          clear hs3 hf3
          go_wp2_with fail
          go_ret
          exact ⟨_, rfl, g, S3.out, down_done H2.out (fun c c0 cn cp => trans_ HR.out HE.out (HMIN.out c c0 cn cp)), H3.out, H4.out, HM.out.trans _ _ _ H5.out F3.out⟩
        · have HE := Lib.hid hle
          have HC := Lib.hid (HL3.out.2 hle)
          clear hle
          go_wp2_with fail
          refine HC.out.mono ?_; rintro e X3 ⟨rfl, hs3, hf3⟩
          obtain ⟨v4, hm4, hl4⟩ := HM.out.swap _ _ _ hs3
          have HC4 := Lib.hid (hl4 i (2 * i + 1) (by omega) (by omega))
          rw [← e1.out] at HC4
          have F3 := Lib.hid hf3
          clear hs3 hf3 hl4
          go_wp2_with fail
          refine HC4.out.mono ?_; rintro e X4 ⟨rfl, hs4, hf4⟩
          have S4 := Lib.hid hs4
          have F4 := Lib.hid hf4
          clear hs4 hf4
          go_wp2_with fail
          go_roundw
          case rel =>
            refine ⟨2 * i + 1, by omega, by omega, congrArg (Value.int IntKind.i64) e1.out, sw g i (2 * i + 1), S4.out, down_step HT.out H2.out hki (by omega) (by omega) (by omega) HE.out HMIN.out, ?_, fun x hx => ?_, HM.out.trans _ _ _ H5.out (HM.out.trans _ _ _ F3.out F4.out)⟩
            · exact (vals_sw g n _ _ (by omega) (by omega)).trans H3.out
            · rw [sw_other g _ _ x (by omega) (by omega)]; exact H4.out x hx
          case measure => simp [intOf]; omega
    · have d1 : (n : Int) ≤ 2 * (i : Int) + 1 := by omega
      go_wp2_with fail
      go_ret
      exact ⟨_, rfl, g, H1.out, down_done H2.out (fun c c0 cn cp => by omega), H3.out, H4.out, H5.out⟩
/-- One more at the end. -/
def ext {α : Type} (f : Nat → α) (n : Nat) (x : α) : Nat → α := fun i => if i = n then x else f i
theorem ext_at {α : Type} (f : Nat → α) (n : Nat) (x : α) : ext f n x n = x := by simp [ext]
theorem ext_lt {α : Type} (f : Nat → α) (n : Nat) (x : α) (i : Nat) (h : i < n) : ext f n x i = f i := by unfold ext; rw [if_neg (by omega)]
theorem vals_ext {α : Type} (f : Nat → α) (n : Nat) (x : α) : vals (ext f n x) (n + 1) = vals f n ++ [x] := by
  rw [vals_succ, ext_at, vals_congr _ f n fun i hi => ext_lt f n x i hi]
theorem hp_congr {α : Type} {le : α → α → Prop} {f g : Nat → α} {k n : Nat} (h : Hp le f k n) (e : ∀ i, i < n → g i = f i) : Hp le g k n := fun c h0 h1 h2 => by
  rw [e c h1, e _ (by omega)]; exact h c h0 h1 h2

/-- The other methods. -/
structure Meth2 {α : Type} (p : Addr) (enc : α → Value) (St : World → (Nat → α) → Nat → Prop) (Fr : World → World → Prop) : Prop where
  len : ∀ w f n, St w f n → ∃ v, (method 209 46 (.pointer (some p)) "Len").run Try.prog w = .ok (68, v) w ∧
    Calls Try.prog 68 #[v] w fun e w' => e = .returned (.int .i64 (n : Int)) ∧ St w' f n ∧ Fr w w'
  push : ∀ w f n x, St w f n → n < 1000000 → ∃ v, (method 209 46 (.pointer (some p)) "Push").run Try.prog w = .ok (72, v) w ∧
    Calls Try.prog 72 #[v, enc x] w fun e w' => e = .returned (.tuple #[]) ∧ St w' (ext f n x) (n + 1) ∧ Fr w w'
  pop : ∀ w f n, St w f (n + 1) → ∃ v, (method 209 46 (.pointer (some p)) "Pop").run Try.prog w = .ok (71, v) w ∧
    Calls Try.prog 71 #[v] w fun e w' => e = .returned (enc (f n)) ∧ St w' f n ∧ Fr w w'

/-- What Push leaves. -/
def Pushed {α : Type} (le : α → α → Prop) (St : World → (Nat → α) → Nat → Prop) (Fr : World → World → Prop) (f : Nat → α) (n : Nat) (x : α) (w w' : World) : Prop :=
  ∃ g, St w' g (n + 1) ∧ Hp le g 0 (n + 1) ∧ (vals g (n + 1)).Perm (vals f n ++ [x]) ∧ Fr w w'
/-- What Pop leaves. -/
def Popped {α : Type} (le : α → α → Prop) (St : World → (Nat → α) → Nat → Prop) (Fr : World → World → Prop) (f : Nat → α) (n : Nat) (w w' : World) : Prop :=
  ∃ g, St w' g n ∧ Hp le g 0 n ∧ (f 0 :: vals g n).Perm (vals f (n + 1)) ∧ Fr w w'

set_option maxHeartbeats 1000000 in
theorem push_any {α : Type} {p : Addr} {le : α → α → Prop} {enc : α → Value} {St : World → (Nat → α) → Nat → Prop} {Fr : World → World → Prop} (M : Meth p le St Fr) (N : Meth2 p enc St Fr)
    (total : ∀ a b, le a b ∨ le b a) (trans : ∀ a b c, le a b → le b c → le a c) (f : Nat → α) (n : Nat) (x : α) (w : World) (hS : St w f n) (hH : Hp le f 0 n) (hn : n < 1000000) :
    Calls Try.prog 17 #[.iface 46 (.pointer (some p)), enc x] w fun e w' => e = .returned (.tuple #[]) ∧ Pushed le St Fr f n x w w' := by
  have HM := Lib.hid M
  have HN := Lib.hid N
  have HT := Lib.hid total
  have HR := Lib.hid trans
  have HH := Lib.hid hH
  obtain ⟨v1, hm1, hl1⟩ := N.push w f n x hS hn
  have HL1 := Lib.hid hl1
  clear M N total trans hS hH hl1
  generalize hx : enc x = ex at *
  have HX := Lib.hid hx
  clear hx
  go_enter Try.func17, Try.ntmps17
  go_wp2_with fail
  refine HL1.out.mono ?_; rintro e X1 ⟨rfl, hs1, hf1⟩
  obtain ⟨v2, hm2, hl2⟩ := HN.out.len _ _ _ hs1
  have HL2 := Lib.hid hl2
  have F1 := Lib.hid hf1
  clear hs1 hf1 hl2
  go_wp2_with fail
  refine HL2.out.mono ?_; rintro e X2 ⟨rfl, hs2, hf2⟩
  have S2 := Lib.hid hs2
  have F2 := Lib.hid hf2
  have hsub : (((n + 1 : Nat) : Int) - 1) = ((n : Nat) : Int) := by omega
  clear hs2 hf2
  go_wp2_with fail
  refine (up_any HM.out HT.out HR.out (ext f n x) (n + 1) (n + 1) n _ S2.out (up_start (f := ext f n x) (hp_congr HH.out fun i hi => ext_lt f n x i hi)) (by omega) (by omega) (by omega)).mono ?_; rintro e X3 ⟨rfl, hq⟩
  have HQ := Lib.hid hq
  clear hq
  go_wp2_with fail
  go_end0
  obtain ⟨g, g1, g2, g3, g4, g5⟩ := HQ.out
  exact ⟨rfl, g, g1, g2, by rw [← vals_ext]; exact g3, HM.out.trans _ _ _ F1.out (HM.out.trans _ _ _ F2.out g5)⟩

set_option maxHeartbeats 1000000 in
theorem pop_any {α : Type} {p : Addr} {le : α → α → Prop} {enc : α → Value} {St : World → (Nat → α) → Nat → Prop} {Fr : World → World → Prop} (M : Meth p le St Fr) (N : Meth2 p enc St Fr)
    (total : ∀ a b, le a b ∨ le b a) (trans : ∀ a b c, le a b → le b c → le a c) (f : Nat → α) (n : Nat) (w : World) (hS : St w f (n + 1)) (hH : Hp le f 0 (n + 1)) (hn : n < 1000000) :
    Calls Try.prog 22 #[.iface 46 (.pointer (some p))] w fun e w' => e = .returned (enc (f 0)) ∧ Popped le St Fr f n w w' := by
  have HM := Lib.hid M
  have HN := Lib.hid N
  have HT := Lib.hid total
  have HR := Lib.hid trans
  have HH := Lib.hid hH
  obtain ⟨v1, hm1, hl1⟩ := N.len w f (n + 1) hS
  have HL1 := Lib.hid hl1
  clear M N total trans hS hH hl1
  generalize hx : enc (f 0) = ex at *
  have HX := Lib.hid hx
  clear hx
  go_enter Try.func22, Try.ntmps22
  go_wp2_with fail
  refine HL1.out.mono ?_; rintro e X1 ⟨rfl, hs1, hf1⟩
  obtain ⟨v2, hm2, hl2⟩ := HM.out.swap _ _ _ hs1
  have HL2 := Lib.hid (hl2 0 n (by omega) (by omega))
  have F1 := Lib.hid hf1
  clear hs1 hf1 hl2
  go_wp2_with fail
  refine HL2.out.mono ?_; rintro e X2 ⟨rfl, hs2, hf2⟩
  have S2 := Lib.hid hs2
  have F2 := Lib.hid hf2
  clear hs2 hf2
  go_wp2_with fail
  refine (down_any HM.out HT.out HR.out (sw f 0 n) 0 (n + 1) n 0 _ S2.out (pop_start HH.out) (by omega) (by omega) (by omega) (by omega)).mono ?_; rintro e X3 hq
  obtain ⟨b, rfl, g, g1, g2, g3, g4, g5⟩ := hq
  obtain ⟨v4, hm4, hl4⟩ := HN.out.pop _ _ _ g1
  rw [g4 n (Nat.le_refl _), sw_right, HX.out] at hl4
  have HL4 := Lib.hid hl4
  have G2 := Lib.hid g2
  have G3 := Lib.hid g3
  have F3 := Lib.hid g5
  clear g1 g2 g3 g4 g5 hl4
  go_wp2_with fail
  refine HL4.out.mono ?_; rintro e X4 ⟨rfl, hs4, hf4⟩
  have S4 := Lib.hid hs4
  have F4 := Lib.hid hf4
  clear hs4 hf4
  go_wp2_with fail
  go_ret
  refine ⟨rfl, g, S4.out, G2.out, ?_, HM.out.trans _ _ _ F1.out (HM.out.trans _ _ _ F2.out (HM.out.trans _ _ _ F3.out F4.out))⟩
  have h1 := vals_sw f (n + 1) 0 n (by omega) (by omega)
  rw [vals_succ (sw f 0 n), sw_right] at h1
  exact (List.perm_append_singleton (f 0) (vals g n)).symm.trans ((G3.out.append_right [f 0]).trans h1)
end Go.Proofs.Ytfelhepdcnckhaa
