/- For every list of numbers and every turn of it: sorted, both are the same list; it falls; sorted again it is itself. No condition. -/
import Derived.Test.YtfelhepdcnckhaaRows
import Derived.Test.YtfelhepdcnckhaaLaws
import Derived.Test.YtfelhepdcnckhaaNums
import Derived.Lib.Hide
import Derived.WalkKit
import Derived.ProofKit
import Derived.OpenShut
import Derived.ChangeOld
import Derived.Below
import Derived.Carry
namespace Go.Proofs.Ytfelhepdcnckhaa.prioSorted
open Go.ChangeShapes Go.WideShapes Go.ChangeAt Go.RowKit
set_option linter.unusedVariables false

theorem own : ownKnob Try.prog.godebug = none := by kernel_rfl
theorem laidOut : laidOutB Try.prog = true := by kernel_rfl


theorem rot_perm (l : List Int) (t : Nat) (h : t < l.length) : ((List.range l.length).map fun i => l.getD ((i + t) % l.length) 0).Perm l := by
  have e : ((List.range l.length).map fun i => l.getD ((i + t) % l.length) 0) = l.drop t ++ l.take t := by
    apply List.ext_getElem
    · simp; omega
    · intro i h1 h2
      have hi : i < l.length := by simpa using h1
      simp only [List.getElem_map, List.getElem_range]
      by_cases hlt : i < l.length - t
      · rw [List.getElem_append_left (by simp; omega), Nat.mod_eq_of_lt (by omega)]
        have : t + i < l.length := by omega
        simp [List.getD, Nat.add_comm i t, this]
      · rw [List.getElem_append_right (by simp; omega), Nat.mod_eq_sub_mod (by omega), Nat.mod_eq_of_lt (by omega)]
        simp [List.getD, show i + t - l.length < l.length by omega]
        congr 1
        omega
  rw [e]
  exact List.perm_append_comm.trans (by rw [List.take_append_drop])
theorem idx (v : Int) (n k : Nat) (hk : k < n) (hn : n ≤ 60) : (wrap64 (↑k + (wrap64 (v.tmod ↑n + ↑n)).tmod ↑n)).tmod ↑n = (((k + ((v.tmod ↑n + ↑n).tmod ↑n).toNat) % n : Nat) : Int) := by
  have h1 : v.tmod ↑n < (n : Int) := Int.tmod_lt_of_pos v (by omega)
  have h2 : -(n : Int) < v.tmod ↑n := Int.lt_tmod_of_pos v (by omega)
  generalize v.tmod ↑n = r at *
  have e1 : wrap64 (r + n) = r + n := by unfold wrap64; omega
  rw [e1]
  have h3 : 0 ≤ (r + n).tmod n := Int.tmod_nonneg _ (by omega)
  have h4 : (r + n).tmod n < n := Int.tmod_lt_of_pos _ (by omega)
  generalize (r + (n : Int)).tmod n = t at *
  obtain ⟨m, rfl⟩ := Int.eq_ofNat_of_zero_le h3
  have e2 : wrap64 ((k : Int) + (m : Int)) = ((k + m : Nat) : Int) := by unfold wrap64; omega
  rw [e2, Int.toNat_natCast]
  exact (Int.ofNat_tmod (k + m) n).symm
def rot (l : List Int) (t k : Nat) : List Int := (List.range k).map fun i => l.getD ((i + t) % l.length) 0
theorem rot_succ (l : List Int) (t k : Nat) : rot l t (k + 1) = rot l t k ++ [l.getD ((k + t) % l.length) 0] := by simp [rot, List.range_succ]
theorem rot_length (l : List Int) (t k : Nat) : (rot l t k).length = k := by simp [rot]
def Turned (B : Nat) (w0 : World) (l : List Int) (t k : Nat) (v : Value) (w : World) : Prop := w.ownsRow B 3 1 v k ((rot l t k).map (Value.int .i64)) ∧ Below B w0 w
theorem bdrew {B : Nat} {a w : World} (h : Below B a w) (n : Nat) : Below B a (w.drewN n) := ⟨h.os, h.tape, h.output, h.size, h.block⟩
theorem desc_idem (l : List Int) : desc (desc l) = desc l := falls_unique (desc_falls _) (desc_falls _) (desc_perm _)
theorem falls_at (s : List Int) (h : s.Pairwise fun x y => y ≤ x) (i : Nat) (hi : i + 1 < s.length) : s.getD (i + 1) 0 ≤ s.getD i 0 := by
  have := List.pairwise_iff_getElem.1 h i (i + 1) (by omega) hi (by omega)
  simpa [List.getD, hi, show i < s.length by omega] using this
set_option maxRecDepth 100000 in
set_option maxHeartbeats 4000000 in
theorem walk (A : Option Addr) (n c : Nat) (l : List Int) (v : Int) (w : World) (hl : Ints w A n l) (hm : n ≤ maxLen) (hv : (Lit.int .i64 v).wf = true) :
    Calls Try.prog 6 #[.slice A n c, .int .i64 v] w fun e w' => e = .returned (.bool true) ∧ Below w.heap.size w w' := by
  unfold maxLen at hm
  obtain ⟨i0, hi, hz0, hz1, hz2⟩ := info_parts infoI
  have HL := Lib.hid hl
  have HLen : Hid (l.length = n) := hl.1
  clear hl
  by_cases h1 : n ≤ 60
  · have n1 : ¬ 60 < n := by omega
    go_enter Try.func6, Try.ntmps6
    go_wp2_with fail
    refine (alive_yes _).mono ?_; rintro e w1 ⟨rfl, hb1⟩
    have B1 := Lib.hid hb1
    clear hb1
    obtain ⟨t, ht⟩ : ∃ t : Nat, t = ((v.tmod ↑n + ↑n).tmod ↑n).toNat := ⟨_, rfl⟩
    have HT : Hid (0 < n → t < n) := fun h => by
      have h4 : (v.tmod ↑n + ↑n).tmod ↑n < (n : Int) := Int.tmod_lt_of_pos _ (by omega)
      omega
    have HX : Hid (∀ k : Nat, k < n → (wrap64 (↑k + (wrap64 (v.tmod ↑n + ↑n)).tmod ↑n)).tmod ↑n = (((k + t) % n : Nat) : Int)) := fun k hk => by rw [ht]; exact idx v n k hk h1
    clear ht
    go_wp2_with fail
    go_loopw [6, 22] (fun m x wr => ∃ k : Nat, k ≤ n ∧ x = .int .i64 k ∧ Turned w1.heap.size w1 l t k m wr) (fun _ x _ => n - (intOf x).toNat)
    case atStart => exact ⟨0, Nat.zero_le _, rfl, World.ownsRow_nil _ _ _ _, Below.refl _ _⟩
    case round =>
      obtain ⟨k, hk, rfl, hq⟩ := hrel
      have HQ := Lib.hid hq
      clear hq
      by_cases hlt : k < n
      · have b1 : 0 < n := by omega
        have b2 : (n : Int) ≤ 60 := by omega
        have b3 : (0 : Int) < (n : Int) := by omega
        have hj : (k + t) % n < n := Nat.mod_lt _ b1
        have HJ : Hid (rot l t (k + 1) = rot l t k ++ [l.getD ((k + t) % n) 0]) := by rw [Hid, rot_succ, HLen.out]
        have HI := Lib.hid (HX.out k hlt)
        obtain ⟨b, off, hA, hbw, hc0, _, _⟩ := HL.out.2 _ hj
        have HA := Lib.hid hA
        clear hA
        have hd0 := ((B1.out.trans (HQ.out.2.mono B1.out.size)).cell (p := ⟨b, off + (k + t) % n, none⟩) hbw).trans hc0
        have hown := HQ.out.1
        clear hc0
        generalize (k + t) % n = j at *
        generalize l.getD j 0 = y at *
        have b4 : (0 : Int) ≤ (j : Int) := by omega
        have b5 : (j : Int) < (n : Int) := by omega
        have hsz := HQ.out.2.size
        have HSZ := Lib.hid hsz
        clear hsz
        go_wp2_with fail
        rw [HI.out]
        obtain rfl := HA.out
        go_wp2_with (at_builtin; refine wpList_append_own _ rfl _ _ 22 rfl w1.heap.size 3 i0 (.int .i64 0) 1 8 Try.underlying22 hi hz0 hz1 hz2 rfl (by decide) _ _ _ rfl (hown.alloc _) ⟨wr.heap.size, 0, none⟩ 1 1 [.int .i64 y] rfl rfl (cell_one_new _ _ _) (by simp [Value.oneCell']) (by unfold maxLen; omega) (by omega) (by have := HSZ.out; simp; omega) ?_; intro v' w2 hown' hgrow _; obtain ⟨g', cap', rfl⟩ := ownsRow_succ hown')
        have HO : Hid (w2.ownsRow w1.heap.size 3 1 (.slice (some ⟨g', 0, none⟩) (k + 1) cap') (k + 1) ((rot l t (k + 1)).map (Value.int .i64))) := by
          rw [Hid, HJ.out, List.map_append]; exact hown'
        have HB : Hid (Below w1.heap.size w1 w2) := (HQ.out.2.alloc HSZ.out _).grown hgrow (by have := HSZ.out; simp; omega) (fun g hg => (hown.lt g hg).1)
        clear hown hown' hgrow
        go_wp2_with fail
        go_roundw
        case rel => exact ⟨k + 1, by omega, by go_num, HO.out, HB.out⟩
        case measure => simp [intOf]; omega
      · obtain rfl : k = n := by omega
        have HS := Lib.hid (sorted_walk A k c l (by rw [HLen.out]; omega) wr ((HL.out.below (B1.out.trans (HQ.out.2.mono B1.out.size))).nums))
        obtain ⟨Am, cm, rfl⟩ := own_shape HQ.out.1
        have HRM : Hid (Row wr Am k cm (rot l t k)) := ⟨(rot_length l t k).symm, own_base HQ.out.1⟩
        have HBM := Lib.hid HQ.out.2
        have HD : Hid (desc (rot l t k) = desc l) := by
          by_cases h0 : k = 0
          · subst h0
            have : l = [] := List.eq_nil_of_length_eq_zero HLen.out
            subst this
            rfl
          · have hp := rot_perm l t (by rw [HLen.out]; exact HT.out (by omega))
            rw [HLen.out] at hp
            have hp2 : (rot l t k).Perm l := by unfold rot; rw [HLen.out]; exact hp
            exact falls_unique (desc_falls _) (desc_falls _) ((desc_perm _).trans (hp2.trans (desc_perm l).symm))
        have b2 : (k : Int) ≤ 60 := by omega
        clear HQ
        go_wp2_with fail
        refine HS.out.mono ?_; rintro e w2 ⟨A2, n2, c2, rfl, g1, g2, g3, g4⟩
        have hn2 : n2 = k := by rw [g1, HLen.out]
        subst hn2
        have HR2 := Lib.hid (Gathered.row (by rw [desc_length]) g1 g2)
        have HRM2 := Lib.hid (HRM.out.below g4)
        have HB2 := Lib.hid (HBM.out.trans (g4.mono HBM.out.size))
        have HS2 := Lib.hid (sorted_walk Am n2 cm (rot l t n2) (by rw [rot_length]; omega) w2 HRM2.out.nums)
        clear g1 g2 g3 g4 HS
        go_wp2_with fail
        refine HS2.out.mono ?_; rintro e w3 ⟨A3, n3, c3, rfl, g1, g2, g3, g4⟩
        have hn3 : n3 = n2 := by rw [g1, rot_length]
        subst hn3
        have HR3 : Hid (Row w3 A3 n3 c3 (desc l)) := by
          have := Gathered.row (l := desc (rot l t n3)) (by rw [desc_length]) g1 g2
          rw [HD.out] at this
          exact this
        have HR4 := Lib.hid (HR2.out.below g4)
        have HB3 := Lib.hid (HB2.out.trans (g4.mono HB2.out.size))
        clear g1 g2 g3 g4 HS2
        have HSA := Lib.hid (same_walk w3.heap.size A2 A3 n3 c2 c3 (desc l) w3 (by omega) HR4.out.nums HR3.out.nums)
        go_wp2_with fail
        refine HSA.out.mono ?_; rintro e w4 ⟨rfl, q, rfl⟩
        go_wp2_with fail
        have HDL : Hid ((desc l).length = n3) := by rw [Hid, desc_length]; exact HLen.out
        have HF := Lib.hid (desc_falls l)
        have HDD : Hid (desc (desc l) = desc l) := desc_idem l
        clear HD
        generalize desc l = s at *
        go_loopw [10] (fun x wr => ∃ j : Nat, (j + 1 ≤ n3 ∨ j = 0) ∧ x = .int .i64 ((j : Int) + 1) ∧ ∃ q, wr = w3.drewN q) (fun x _ => n3 + 1 - (intOf x).toNat)
        case atStart => exact ⟨0, .inr rfl, rfl, q, rfl⟩
        case round =>
          obtain ⟨j, hj, rfl, q2, rfl⟩ := hrel
          have HJ := Lib.hid hj
          clear hj
          have hj0 : (0 : Int) ≤ (j : Int) := by omega
          have hj1 : (j : Int) ≤ 60 := by have := HJ.out; omega
          by_cases hlt : j + 1 < n3
          · have hlt2 : (j : Int) + 1 < (n3 : Int) := by omega
            have hlt3 : (j : Int) < (n3 : Int) := by omega
            have hjn : j < n3 := by omega
            have ht : ((j : Int) + 1).toNat = j + 1 := by omega
            obtain ⟨g, rfl, hc0⟩ := HR4.out.at hjn
            obtain ⟨g', eg, hc1⟩ := HR4.out.at hlt
            simp only [Option.some.injEq, Addr.mk.injEq, and_true] at eg
            subst eg
            have hle := falls_at s HF.out j (by rw [HDL.out]; exact hlt)
            have hnl : ¬ (s.getD j 0 < s.getD (j + 1) 0) := by omega
            clear hle
            generalize s.getD j 0 = x at *
            generalize s.getD (j + 1) 0 = y at *
            go_wp2_with fail
            go_quiet (fail)
            go_wp2_with fail
            go_roundw
            case rel => exact ⟨j + 1, .inl (by omega), by go_num, _, rfl⟩
            case measure => simp [intOf]; omega
          · have hge : ¬ ((j : Int) + 1 < (n3 : Int)) := by omega
            have HS5 := Lib.hid (sorted_walk A2 n3 c2 s (by rw [HDL.out]; omega) (w3.drewN q2) HR4.out.nums)
            go_wp2_with fail
            refine HS5.out.mono ?_; rintro e w5 ⟨A5, n5, c5, rfl, g1, g2, g3, g4⟩
            have hn5 : n5 = n3 := by rw [g1, HDL.out]
            subst hn5
            have HR5 : Hid (Row w5 A5 n5 c5 s) := by
              have := Gathered.row (l := desc s) (by rw [desc_length]) g1 g2
              rw [HDD.out] at this
              exact this
            have HR6 : Hid (Row w5 A2 n5 c2 s) := Row.below (w := w3.drewN q2) HR4.out g4
            have HB5 : Hid (Below w1.heap.size w1 w5) := (bdrew HB3.out q2).trans (g4.mono HB3.out.size)
            clear g1 g2 g3 g4 HS5
            have HSB := Lib.hid (same_walk w5.heap.size A5 A2 n5 c5 c2 s w5 (by omega) HR5.out.nums HR6.out.nums)
            go_wp2_with fail
            refine HSB.out.mono ?_; rintro e w6 ⟨rfl, q3, rfl⟩
            go_wp2_with fail
            go_ret
            exact ⟨rfl, B1.out.trans ((bdrew HB5.out q3).mono B1.out.size)⟩
  · have n1 : 60 < n := by omega
    go_enter Try.func6, Try.ntmps6
    go_wp2_with fail
    refine (alive_yes _).mono ?_; rintro e w1 ⟨rfl, hb1⟩
    have B1 := Lib.hid hb1
    clear hb1
    go_wp2_with fail
    go_ret
    exact ⟨rfl, B1.out⟩

/-! The row's step. -/
set_option maxRecDepth 100000 in
theorem lifted (os : Os) (started : os.Started) (H : Type) (enc : TypeId × Value → H) :
    ReturnsInHanded {} Try.checked os 6 .any (Rows.prioSortedSpec.pre6 enc Try.prog Try.f6 Rows.prioSortedRow.domain false) (Rows.prioSortedSpec.post enc Try.prog Try.f6 false true false false) := by
  refine returnsInHanded_of_change (C := Try.checked) own started (by kernel_rfl) Try.func6
    (ChangeSpec.witness6 (enc := enc) (C := Try.checked) false ⟨#[], #[.slice none 0 0, .int .i64 0], []⟩ 8 (by kernel_rfl) (by kernel_rfl) (by kernel_rfl) (by kernel_rfl)) ?_
  intro W base args ds gs before hval0 hW hcnd _
  have hval : ∀ (j : Nat) t v, Try.f6.params[j]? = some t → args[j]? = some v → Value.okWide Try.prog W .any base t v := hval0
  have hW' := hW
  obtain ⟨p, q, hA0, hV, rfl, hfz, hnd⟩ := hW
  have hA : DataW.TrodAll enc Try.prog W 0 (fun _ => true) true Try.f6.params.toList args.toList ds p := hA0
  rw [Try.params6] at hA hval
  obtain ⟨v0, vs0, d0, ds0, p0, q0, hargs, rfl, rfl, h0, r0⟩ := trodAll_cons hA
  obtain ⟨v1, vs1, d1, ds1, p1, q1, rfl, rfl, rfl, h1, r1⟩ := trodAll_cons r0
  obtain ⟨rfl, rfl, rfl⟩ := trodAll_nil r1
  obtain rfl : args = #[v0, v1] := by cases args; simp_all
  obtain ⟨rfl, rfl⟩ := trodVars_none hV
  obtain ⟨A0, n0, c0, rfl⟩ := okWide_slice Try.underlying22 (hval 0 22 v0 rfl rfl)
  have k0 := h0
  have lt0 : ∀ x ∈ p0, x.block < W.heap.size := by obtain ⟨m, hm⟩ := k0; exact DataW.trod_lt m _ _ _ hm
  obtain ⟨l0, w0, e0, f0⟩ := (by obtain ⟨fuel, hf⟩ := h0; exact ints_read hf (fun _ => rfl) : ∃ l, Ints W A0 n0 l ∧ n0 ≤ c0 ∧ c0 ≤ maxLen)
  obtain ⟨a1, rfl, rfl, rfl, w1⟩ := open_int Try.underlying3 (hval 1 3 v1 rfl rfl) h1
  clear hA0 hval0
  refine (walk A0 n0 c0 l0 a1 W w0 (Nat.le_trans e0 f0) w1).mono fun e W' ⟨he, bel⟩ => ?_
  subst he
  exact ⟨_, rfl, _, _, _, [], _, [], hW', trodAll_mk1 (shut_bool Try.underlying4 _), (trodAll_cons_mk (Below.trod laidOut (by kernel_rfl) (of_decide_eq_true (by kernel_rfl)) k0 bel lt0) (trodAll_cons_mk (shut_int Try.underlying3 w1) trodAll_mk0)), rfl, bel.frame _, fun h => by cases h⟩

theorem over : Rows.prioSortedRow.holds Try.pinned (OpenSpec.ofChange Rows.prioSortedSpec) :=
  OpenClaim.holds_of_wide 6 Try.f6 rfl rfl rfl rfl rfl rfl rfl ⟨rfl, rfl, rfl, rfl, rfl⟩ rfl rfl rfl rfl rfl (by kernel_rfl) Try.func6 (by kernel_rfl)
    (of_decide_eq_true (by kernel_rfl)) (by unfold Func.isWrapper; first | (rw [if_pos (by decide +kernel)]; kernel_rfl) | (rw [if_neg (by decide +kernel)]; exact ⟨rfl, rfl⟩))
    (fun os started H enc _ => lifted os started H enc)

/-- The statement. -/
theorem proved : Rows.PrioSortedSaid := over
end Go.Proofs.Ytfelhepdcnckhaa.prioSorted
