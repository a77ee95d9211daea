/- For every list of pairs and every number: a queue into which all were pushed, and from which that number was dropped, hands out what a queue hands out into which only the others were pushed; Drop tells how many went, and the second time none. No condition. -/
import Derived.Test.YtmomdicbbakppaaRows
import Derived.Test.YtmomdicbbakppaaLaws
import Derived.Test.YtmomdicbbakppaaDrop
import Derived.Lib.Hide
import Derived.WalkKit
import Derived.ProofKit
import Derived.OpenShut
import Derived.ChangeOld
import Derived.Below
import Derived.Carry
namespace Go.Proofs.Ytmomdicbbakppaa.prioDrops
open Go.ChangeShapes Go.WideShapes Go.ChangeAt Go.RowKit
set_option linter.unusedVariables false

theorem own : ownKnob Try.prog.godebug = none := by kernel_rfl
theorem laidOut : laidOutB Try.prog = true := by kernel_rfl


/-! Two queues. -/
def Two (C p q : Nat) (l m : List Pr) (w : World) : Prop :=
  C ≤ p ∧ C ≤ q ∧ C ≤ w.heap.size ∧ p ≠ q ∧ ∃ v u, Qu w p v l ∧ Qu w q u m ∧ (∀ g, v.ownBlock = some g → C ≤ g) ∧ (∀ g, u.ownBlock = some g → C ≤ g) ∧ ∀ g, v.ownBlock = some g → u.ownBlock ≠ some g
theorem Two.symm {C p q : Nat} {l m : List Pr} {w : World} (h : Two C p q l m w) : Two C q p m l w := by
  obtain ⟨h1, h2, h3, h4, v, u, a, b, c, d, e⟩ := h
  exact ⟨h2, h1, h3, Ne.symm h4, u, v, b, a, d, c, fun g k1 k2 => e g k2 k1⟩
def Kept2 (C p q : Nat) (w w' : World) : Prop := Below C w w' ∧ ∀ k o, w.heap[k]? = some o → k ≠ p → k ≠ q → (∀ cs, o ≠ .cells cs 48 (0, 0)) → w'.heap[k]? = some o
theorem Kept2.symm {C p q : Nat} {w w' : World} (h : Kept2 C p q w w') : Kept2 C q p w w' := ⟨h.1, fun k o a b c => h.2 k o a c b⟩
theorem Two.below {C p q : Nat} {l m : List Pr} {w w' : World} (h : Two C p q l m w) (hb : Below w.heap.size w w') : Two C p q l m w' := by
  obtain ⟨h1, h2, h3, h4, v, u, a, b, c, d, e⟩ := h
  exact ⟨h1, h2, Nat.le_trans h3 hb.size, h4, v, u, a.below hb, b.below hb, c, d, e⟩
theorem Two.perm {C p q : Nat} {l m l' : List Pr} {w : World} (h : Two C p q l m w) (k : l.Perm l') : Two C p q l' m w := by
  obtain ⟨h1, h2, h3, h4, v, u, a, b, c⟩ := h
  exact ⟨h1, h2, h3, h4, v, u, a.perm k, b, c⟩
theorem on_a {C p q : Nat} {l m l' : List Pr} {w : World} {f : FuncId} {args : Array Value} {r : Ending} (h : Two C p q l m w)
    (call : ∀ v, Qu w p v l → Calls Try.prog f args w fun e w' => e = r ∧ Went p v l' w w') : Calls Try.prog f args w fun e w' => e = r ∧ Two C p q l' m w' ∧ Kept2 C p q w w' := by
  obtain ⟨h1, h2, h3, h4, v, u, a, b, c, d, e⟩ := h
  refine (call v a).mono fun e' w' ⟨he, v', k1, k2, k3⟩ => ⟨he, ?_, k3.below h3 h1 c, fun k o q1 q2 q3 q4 => ?_⟩
  · obtain ⟨fa, na, ha, _⟩ := a
    obtain ⟨fb, nb, hb, b2, b3, b4⟩ := b
    have hb' : Held w' q u fb nb := hb.apart ha (Ne.symm h4) (by
      by_cases hu : u.ownBlock = none
      · exact .inr hu
      · left
        intro hh
        cases hg : u.ownBlock with
        | none => exact hu hg
        | some g => rw [hg] at hh; exact e g hh.symm hg) k3
    refine ⟨h1, h2, Nat.le_trans h3 k3.size, h4, v', u, k1, ⟨fb, nb, hb', b2, b3, b4⟩, fun g hg => ?_, d, fun g hg hu => ?_⟩
    · rcases k2 with k2 | ⟨b, b1, b2⟩
      · exact c g (k2 ▸ hg)
      · rw [b2] at hg
        have : b = g := by simpa using hg
        omega
    · rcases k2 with k2 | ⟨b, b1, b2⟩
      · exact e g (k2 ▸ hg) hu
      · rw [b2] at hg
        have e1 : b = g := by simpa using hg
        have := hb.row_lt hu
        omega
  · obtain ⟨fa, na, ha, _⟩ := a
    exact (k3.block k (Array.getElem?_eq_some_iff.1 q1).1 q2 (ha.other q1 q4)).trans q1
theorem on_b {C p q : Nat} {l m m' : List Pr} {w : World} {f : FuncId} {args : Array Value} {r : Ending} (h : Two C p q l m w)
    (call : ∀ v, Qu w q v m → Calls Try.prog f args w fun e w' => e = r ∧ Went q v m' w w') : Calls Try.prog f args w fun e w' => e = r ∧ Two C p q l m' w' ∧ Kept2 C p q w w' :=
  (on_a h.symm call).mono fun _ _ ⟨he, h1, h2⟩ => ⟨he, h1.symm, h2.symm⟩
theorem pop_a_e {C p q : Nat} {m : List Pr} {w : World} (h : Two C p q [] m w) : Calls Try.prog 12 #[ptr p] w fun e w' => e = peeked 0 0 false ∧ w = w' := by
  obtain ⟨h1, h2, h3, h4, v, u, a, _⟩ := h
  exact pop_none p v w a
theorem Two.new (w : World) : Two w.heap.size w.heap.size (w.heap.size + 1) [] [] ((w.alloc (.cells #[.slice none 0 0] 28)).alloc (.cells #[.slice none 0 0] 28)) := by
  have h1 := heap_alloc_new w (.cells #[.slice none 0 0] 28)
  have h2 := heap_alloc_new (w.alloc (.cells #[.slice none 0 0] 28)) (.cells #[.slice none 0 0] 28)
  rw [World.size_alloc] at h2
  exact ⟨Nat.le_refl _, by omega, by simp; omega, by omega, _, _, Qu.new ((Below.heap_alloc _ _ _ (by simp)).trans h1), Qu.new h2, fun g hg => by simp [Value.ownBlock] at hg, fun g hg => by simp [Value.ownBlock] at hg, fun g hg => by simp [Value.ownBlock] at hg⟩

abbrev stays (d : Int) (l : List Pr) : List Pr := l.filter (fun x => !(x.2 == d))
theorem stays_snoc_in (d a b : Int) (l : List Pr) (h : ¬ b = d) : stays d (l ++ [(a, b)]) = stays d l ++ [(a, b)] := by simp [stays, h]
theorem stays_snoc_out (d a b : Int) (l : List Pr) (h : b = d) : stays d (l ++ [(a, b)]) = stays d l := by simp [stays, h]
theorem stays_le (d : Int) (l : List Pr) : (stays d l).length ≤ l.length := List.length_filter_le _ _
def Inv (C p q : Nat) (w0 : World) (d : Int) (k m : Nat) (w : World) : Prop := ∃ l, l.length = k ∧ (stays d l).length = m ∧ Two C p q l (stays d l) w ∧ Below C w0 w
def Rest (C p q : Nat) (w0 : World) (m : Nat) (w : World) : Prop := ∃ l, l.length = m ∧ Two C p q l l w ∧ Below C w0 w
theorem Two.lt {C p q : Nat} {l m : List Pr} {w : World} (h : Two C p q l m w) : p < w.heap.size := by
  obtain ⟨h1, h2, h3, h4, v, u, ⟨f, n, hf, _⟩, _⟩ := h
  exact hf.lt
set_option maxRecDepth 100000 in
set_option maxHeartbeats 4000000 in
theorem walk (A : Option Addr) (n c : Nat) (l : List O3) (d : Int) (w : World) (hl : Ops w A n l) (hm : n ≤ maxLen) (hv : (Lit.int .i64 d).wf = true) :
    Calls Try.prog 5 #[.slice A n c, .int .i64 d] w fun e w' => e = .returned (.bool true) ∧ Below w.heap.size w w' := by
  unfold maxLen at hm
  have HL := Lib.hid hl
  clear hl
  by_cases h1 : n ≤ 80
  · have n1 : ¬ 80 < n := by omega
    go_enter Try.func5, Try.ntmps5
    go_wp2_with fail
    refine (alive_yes _).mono ?_; rintro e w1 ⟨rfl, hb1⟩
    have B1 := Lib.hid hb1
    have HO := Lib.hid (Two.new w1)
    clear hb1
    go_wp2_with fail
    go_loopw [7, 31] (fun t x wr => ∃ k m : Nat, k ≤ n ∧ x = .int .i64 k ∧ t = .int .i64 m ∧ Inv w1.heap.size w1.heap.size (w1.heap.size + 1) w1 d k m wr) (fun _ x _ => n - (intOf x).toNat)
    case atStart => exact ⟨0, 0, Nat.zero_le _, rfl, rfl, [], rfl, rfl, HO.out, ((Below.refl _ _).alloc (Nat.le_refl _) _).alloc (by simp) _⟩
    case round =>
      obtain ⟨k, m, hk, rfl, rfl, hq⟩ := hrel
      have HQ := Lib.hid hq
      clear hq
      by_cases hlt : k < n
      · obtain ⟨L, q1, q2, q3, q4⟩ := HQ.out
        obtain ⟨b, off, rfl, hbw, hc0, hc1, hc2⟩ := HL.out.2 k hlt
        have hd0 := ((B1.out.trans (q4.mono B1.out.size)).cell (p := ⟨b, off + k * 3, none⟩) hbw).trans hc0
        have hd1 := ((B1.out.trans (q4.mono B1.out.size)).cell (p := ⟨b, off + k * 3 + 1, none⟩) hbw).trans hc1
        have hd2 := ((B1.out.trans (q4.mono B1.out.size)).cell (p := ⟨b, off + k * 3 + 2, none⟩) hbw).trans hc2
        have hp1 := q3.lt
        have hp2 := q3.symm.lt
        have hmk : m ≤ k := by have := stays_le d L; omega
        have HO1 := Lib.hid q3
        have HB1 := Lib.hid q4
        have hL : L.length = k := q1
        have HM : Hid ((stays d L).length = m) := q2
        clear hc0 hc1 hc2 q1 q2 q3 q4
        generalize l.getD k o0 = o at *
        obtain ⟨z, a, i⟩ := o
        simp only at hd0 hd1 hd2
        have HN := Lib.hid (HO1.out.below ((Below.refl _ wr).alloc (Nat.le_refl _) (.cells #[.int .i64 z, .int .i64 a, .int .i64 i] 39)))
        have hnew := Lib.hid (heap_alloc_new wr (.cells #[.int .i64 z, .int .i64 a, .int .i64 i] 39))
        by_cases hid : i = d
        · have HE := Lib.hid hid
          have g1 : ((i : Int) != d) = false := by simpa using hid
          clear hid
          go_wp2_with fail
          refine (on_a HN.out fun v hv => push_q _ v L a i _ hv (by omega)).mono ?_; rintro e X1 ⟨rfl, hx⟩
          have H1 := Lib.hid hx
          have hbox := hx.2.2 _ _ hnew.out (by omega) (by omega) (by intro cs; simp)
          have k2 : X1.cell? ⟨wr.heap.size, 2, none⟩ = some (.int .i64 i) := cell_of_row X1 wr.heap.size 2 _ _ _ hbox
          clear hx hbox
          go_wp2_with fail
          go_roundw
          case rel =>
            refine ⟨k + 1, m, by omega, by go_num, rfl, L ++ [(a, i)], by simp [hL], ?_, ?_, ?_⟩
            · rw [stays_snoc_out d a i L HE.out]; exact HM.out
            · rw [stays_snoc_out d a i L HE.out]; exact H1.out.1
            · exact (HB1.out.alloc HB1.out.size _).trans H1.out.2.1
          case measure => simp [intOf]; omega
        · have HE := Lib.hid hid
          have g1 : ((i : Int) != d) = true := by simpa using hid
          clear hid
          go_wp2_with fail
          refine (on_a HN.out fun v hv => push_q _ v L a i _ hv (by omega)).mono ?_; rintro e X1 ⟨rfl, hx⟩
          have H1 := Lib.hid hx
          have hbox := hx.2.2 _ _ hnew.out (by omega) (by omega) (by intro cs; simp)
          have k1 : X1.cell? ⟨wr.heap.size, 1, none⟩ = some (.int .i64 a) := cell_of_row X1 wr.heap.size 1 _ _ _ hbox
          have k2 : X1.cell? ⟨wr.heap.size, 2, none⟩ = some (.int .i64 i) := cell_of_row X1 wr.heap.size 2 _ _ _ hbox
          have hsl : (stays d L).length < 1000000 := by have := stays_le d L; omega
          have HSL := Lib.hid hsl
          clear hx hbox hsl
          go_wp2_with fail
          refine (on_b H1.out.1 fun v hv => push_q _ v (stays d L) a i _ hv HSL.out).mono ?_; rintro e X2 ⟨rfl, hx⟩
          have H2 := Lib.hid hx
          clear hx
          go_wp2_with fail
          go_roundw
          case rel =>
            refine ⟨k + 1, m + 1, by omega, by go_num, by go_num, L ++ [(a, i)], by simp [hL], ?_, ?_, ?_⟩
            · rw [stays_snoc_in d a i L HE.out, List.length_append, HM.out]; rfl
            · rw [stays_snoc_in d a i L HE.out]; exact H2.out.1
            · exact (HB1.out.alloc HB1.out.size _).trans (H1.out.2.1.trans H2.out.2.1)
          case measure => simp [intOf]; omega
      · obtain rfl : k = n := by omega
        obtain ⟨L, q1, q2, q3, q4⟩ := HQ.out
        have hmk : m ≤ k := by have := stays_le d L; omega
        have HO1 := Lib.hid q3
        have HB1 := Lib.hid q4
        have HD1 : Hid (∀ v, Qu wr w1.heap.size v L → Calls Try.prog 14 #[ptr w1.heap.size, .int .i64 d] wr fun e w' => e = .returned (.int .i64 ((k : Int) - m)) ∧ Went w1.heap.size v (stays d L) wr w') := by
          intro v hv
          have := drop_q w1.heap.size v L d wr hv
          rw [q1, q2] at this
          exact this
        have HD2 : Hid (∀ v w, Qu w w1.heap.size v (stays d L) → Calls Try.prog 14 #[ptr w1.heap.size, .int .i64 d] w fun e w' => e = .returned (.int .i64 0) ∧ Went w1.heap.size v (stays d L) w w') := by
          intro v w hv
          have h2 : stays d (stays d L) = stays d L := by simp [stays]
          have := drop_q w1.heap.size v (stays d L) d w hv
          rw [show (stays d L).filter (fun x => !(x.2 == d)) = stays d L from h2, Int.sub_self] at this
          exact this
        have b1 : (0 : Int) ≤ (m : Int) := by omega
        have b2 : (m : Int) ≤ (k : Int) := by omega
        have b3 : (k : Int) ≤ 80 := by omega
        have HQ2 : Hid ((stays d L).length = m) := q2
        clear HQ q1 q2 q3 q4
        go_wp2_with fail
        refine (on_a HO1.out fun v hv => HD1.out v hv).mono ?_; rintro e X1 ⟨rfl, hx⟩
        have H1 := Lib.hid hx
        clear hx
        go_wp2_with fail
        refine (on_a H1.out.1 fun v hv => HD2.out v _ hv).mono ?_; rintro e X2 ⟨rfl, hx⟩
        have H2 := Lib.hid hx
        clear hx
        go_wp2_with fail
        go_loopw [10] (fun x wr => ∃ i : Nat, i ≤ m + 1 ∧ x = .int .i64 i ∧ Rest w1.heap.size w1.heap.size (w1.heap.size + 1) w1 (m - i) wr) (fun x _ => m + 1 - (intOf x).toNat)
        case atStart => exact ⟨0, Nat.zero_le _, rfl, stays d L, HQ2.out, H2.out.1, HB1.out.trans (H1.out.2.1.trans H2.out.2.1)⟩
        case round =>
          obtain ⟨i, hi, rfl, hq⟩ := hrel
          have HQ := Lib.hid hq
          clear hq
          by_cases hit : i < m
          · obtain ⟨M, q1, q2, q3⟩ := HQ.out
            have hM : M.length = m - i := q1
            obtain ⟨x, M', hb, hp, hq⟩ := best_split M (by intro e; rw [e] at hM; simp at hM; omega)
            have HT := Lib.hid q2
            have HB2 := Lib.hid q3
            have HX := Lib.hid hb
            have HY := Lib.hid hp
            have c1 : (i : Int) < (m : Int) := by omega
            have c2 : (i : Int) ≤ (m : Int) := by omega
            clear q1 q2 q3 hb hp
            go_wp2_with fail
            refine (on_a HT.out fun v hv => pop_q _ v M M' x _ hv HX.out HY.out).mono ?_; rintro e X3 ⟨rfl, hx⟩
            have H3 := Lib.hid hx
            clear hx
            go_wp2_with fail
            refine (on_b H3.out.1 fun v hv => pop_q _ v M M' x _ hv HX.out HY.out).mono ?_; rintro e X4 ⟨rfl, hx⟩
            have H4 := Lib.hid hx
            clear hx
            go_wp2_with fail
            go_roundw
            case rel => exact ⟨i + 1, by omega, by go_num, M', by omega, H4.out.1, HB2.out.trans (H3.out.2.1.trans H4.out.2.1)⟩
            case measure => simp [intOf]; omega
          · obtain ⟨M, q1, q2, q3⟩ := HQ.out
            have hM : M = [] := List.eq_nil_of_length_eq_zero (by omega)
            subst hM
            have HT := Lib.hid q2
            have HB2 := Lib.hid q3
            clear q1 q2 q3
            by_cases him : i = m
            · subst him
              go_wp2_with fail
              refine (pop_a_e HT.out).mono ?_; rintro e X3 ⟨rfl, rfl⟩
              go_wp2_with fail
              refine (pop_a_e HT.out.symm).mono ?_; rintro e X3 ⟨rfl, rfl⟩
              go_wp2_with fail
              go_roundw
              case rel => exact ⟨i + 1, by omega, by go_num, [], by simp, HT.out, HB2.out⟩
              case measure => simp [intOf]
            · have c1 : ¬ ((i : Int) ≤ (m : Int)) := by omega
              go_wp2_with fail
              go_ret
              exact ⟨rfl, B1.out.trans (HB2.out.mono B1.out.size)⟩
  · have n1 : 80 < n := by omega
    go_enter Try.func5, Try.ntmps5
    go_wp2_with fail
    refine (alive_yes _).mono ?_; rintro e w1 ⟨rfl, hb1⟩
    have B1 := Lib.hid hb1
    clear hb1
    go_wp2_with fail
    go_ret
    exact ⟨rfl, B1.out⟩

/-! The row's step. -/
set_option maxRecDepth 100000 in
theorem lifted (os : Os) (started : os.Started) (H : Type) (enc : TypeId × Value → H) :
    ReturnsInHanded {} Try.checked os 5 .any (Rows.prioDropsSpec.pre6 enc Try.prog Try.f5 Rows.prioDropsRow.domain false) (Rows.prioDropsSpec.post enc Try.prog Try.f5 false true false false) := by
  refine returnsInHanded_of_change (C := Try.checked) own started (by kernel_rfl) Try.func5
    (ChangeSpec.witness6 (enc := enc) (C := Try.checked) false ⟨#[], #[.slice none 0 0, .int .i64 0], []⟩ 8 (by kernel_rfl) (by kernel_rfl) (by kernel_rfl) (by kernel_rfl)) ?_
  intro W base args ds gs before hval0 hW hcnd _
  have hval : ∀ (j : Nat) t v, Try.f5.params[j]? = some t → args[j]? = some v → Value.okWide Try.prog W .any base t v := hval0
  have hW' := hW
  obtain ⟨p, q, hA0, hV, rfl, hfz, hnd⟩ := hW
  have hA : DataW.TrodAll enc Try.prog W 0 (fun _ => true) true Try.f5.params.toList args.toList ds p := hA0
  rw [Try.params5] at hA hval
  obtain ⟨v0, vs0, d0, ds0, p0, q0, hargs, rfl, rfl, h0, r0⟩ := trodAll_cons hA
  obtain ⟨v1, vs1, d1, ds1, p1, q1, rfl, rfl, rfl, h1, r1⟩ := trodAll_cons r0
  obtain ⟨rfl, rfl, rfl⟩ := trodAll_nil r1
  obtain rfl : args = #[v0, v1] := by cases args; simp_all
  obtain ⟨rfl, rfl⟩ := trodVars_none hV
  obtain ⟨A0, n0, c0, rfl⟩ := okWide_slice Try.underlying37 (hval 0 37 v0 rfl rfl)
  have k0 := h0
  have lt0 : ∀ x ∈ p0, x.block < W.heap.size := by obtain ⟨m, hm⟩ := k0; exact DataW.trod_lt m _ _ _ hm
  obtain ⟨l0, w0, e0, f0⟩ := (by obtain ⟨fuel, hf⟩ := h0; exact ops_read hf (fun _ => rfl) : ∃ l, Ops W A0 n0 l ∧ n0 ≤ c0 ∧ c0 ≤ maxLen)
  obtain ⟨a1, rfl, rfl, rfl, w1⟩ := open_int Try.underlying3 (hval 1 3 v1 rfl rfl) h1
  clear hA0 hval0
  refine (walk A0 n0 c0 l0 a1 W w0 (Nat.le_trans e0 f0) w1).mono fun e W' ⟨he, bel⟩ => ?_
  subst he
  exact ⟨_, rfl, _, _, _, [], _, [], hW', trodAll_mk1 (shut_bool Try.underlying4 _), (trodAll_cons_mk (Below.trod laidOut (by kernel_rfl) (of_decide_eq_true (by kernel_rfl)) k0 bel lt0) (trodAll_cons_mk (shut_int Try.underlying3 w1) trodAll_mk0)), rfl, bel.frame _, fun h => by cases h⟩

theorem over : Rows.prioDropsRow.holds Try.pinned (OpenSpec.ofChange Rows.prioDropsSpec) :=
  OpenClaim.holds_of_wide 5 Try.f5 rfl rfl rfl rfl rfl rfl rfl ⟨rfl, rfl, rfl, rfl, rfl⟩ rfl rfl rfl rfl rfl (by kernel_rfl) Try.func5 (by kernel_rfl)
    (of_decide_eq_true (by kernel_rfl)) (by unfold Func.isWrapper; first | (rw [if_pos (by decide +kernel)]; kernel_rfl) | (rw [if_neg (by decide +kernel)]; exact ⟨rfl, rfl⟩))
    (fun os started H enc _ => lifted os started H enc)

/-- The statement. -/
theorem proved : Rows.PrioDropsSaid := over
end Go.Proofs.Ytmomdicbbakppaa.prioDrops
