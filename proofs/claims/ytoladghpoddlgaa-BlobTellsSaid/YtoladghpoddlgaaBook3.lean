/- The book: its lists marked. -/
import Derived.Test.YtoladghpoddlgaaBook2
import Derived.Deep.OwnRows
import Derived.OneCell
import Derived.IntWalk
namespace Go.Proofs.Ytoladghpoddlgaa
open Go.ChangeShapes Go.WideShapes Go.ChangeAt Go.RowKit
set_option linter.unusedVariables false
set_option maxRecDepth 100000

/-- Each of es holds what F says for its place. -/
def Conts (w : World) (es : List E) (F : Nat → List Pg) : Prop := ∀ i, i < es.length → Row w (es.getD i e0).A (es.getD i e0).n (es.getD i e0).c (F i)
theorem Lists.conts {w : World} {es : List E} {ls : List (List Pg)} (h : Lists w es ls) : Conts w es (fun i => ls.getD i []) := h.2
theorem Conts.below {w w' : World} {es : List E} {F : Nat → List Pg} (h : Conts w es F) (hb : Below w.heap.size w w') : Conts w' es F := fun i hi => (h i hi).below hb
/-- All but the lists' own rows is as it was. -/
def KeptE (es : List E) (w w' : World) : Prop := w'.os = w.os ∧ w'.tape = w.tape ∧ w'.output = w.output ∧ w.heap.size ≤ w'.heap.size ∧ ∀ k, k < w.heap.size → (∀ e ∈ es, e.own ≠ some k) → w'.heap[k]? = w.heap[k]?
theorem KeptE.refl (es : List E) (w : World) : KeptE es w w := ⟨rfl, rfl, rfl, Nat.le_refl _, fun _ _ _ => rfl⟩
theorem KeptE.trans {es : List E} {x y z : World} (h : KeptE es x y) (k : KeptE es y z) : KeptE es x z := ⟨k.1.trans h.1, k.2.1.trans h.2.1, k.2.2.1.trans h.2.2.1, Nat.le_trans h.2.2.2.1 k.2.2.2.1, fun i h1 h2 => (k.2.2.2.2 i (Nat.lt_of_lt_of_le h1 h.2.2.2.1) h2).trans (h.2.2.2.2 i h1 h2)⟩
theorem KeptE.of_below {es : List E} {x y : World} (h : Below x.heap.size x y) : KeptE es x y := ⟨h.os, h.tape, h.output, h.size, fun k hk _ => h.block k hk⟩
theorem KeptE.below {es : List E} {x y : World} (h : KeptE es x y) {C : Nat} (hC : C ≤ x.heap.size) (hes : ∀ e ∈ es, ∀ g, e.own = some g → C ≤ g) : Below C x y :=
  ⟨h.1, h.2.1, h.2.2.1, h.2.2.2.1, fun k hk => h.2.2.2.2 k (by omega) fun e he hg => by have := hes e he k hg; omega⟩
theorem KeptE.drewN {es : List E} {x y : World} (h : KeptE es x y) (n : Nat) : KeptE es x (y.drewN n) := h
theorem getE_mem {es : List E} {i : Nat} (hi : i < es.length) : es.getD i e0 ∈ es := by
  rw [List.getD, List.getElem?_eq_getElem hi]
  exact List.getElem_mem hi

/-- One cell set in one list. -/
theorem own_set {w : World} {e s n : Nat} {v : Value} {xs : List Value} {g k : Nat} (h : w.ownsRow 0 e s v n xs) (hg : v.ownBlock = some g) (u : Value) : (w.setCell ⟨g, k, none⟩ u).ownsRow 0 e s v n (xs.set k u) := by
  refine ⟨by rw [List.length_set]; exact h.1, ?_⟩
  rcases h.2 with ⟨rfl, _⟩ | ⟨g', cap, cur, rfl, h1, h2, h3, h4, h5, h6⟩
  · simp [Value.ownBlock] at hg
  · simp only [Value.ownBlock, Option.some.injEq] at hg
    subst hg
    refine .inr ⟨g', cap, cur.setIfInBounds k u, rfl, h1, ?_, h3, h4, by simp [h5], ?_⟩
    · rw [setCell_eq_setRow w g' k cur e (0, 0) u h2, setRow_heap w g' _ _ _ _ h2]
    · rw [Array.toList_setIfInBounds, List.take_set, h6]
def setP (w : World) (g t : Nat) (x : Pg) : World := (((w.setCell ⟨g, t * 4, none⟩ (.int .i64 x.k)).setCell ⟨g, t * 4 + 1, none⟩ (.int .i64 x.d)).setCell ⟨g, t * 4 + 2, none⟩ (.int .i64 x.x)).setCell ⟨g, t * 4 + 3, none⟩ (.string x.b)
theorem setP_heap (w : World) (g t : Nat) (x : Pg) (k : Nat) (hk : k ≠ g) : (setP w g t x).heap[k]? = w.heap[k]? := by
  unfold setP
  rw [Below.heap_setCell _ _ _ _ hk, Below.heap_setCell _ _ _ _ hk, Below.heap_setCell _ _ _ _ hk, Below.heap_setCell _ _ _ _ hk]
theorem setP_size (w : World) (g t : Nat) (x : Pg) : (setP w g t x).heap.size = w.heap.size := by
  unfold setP
  rw [World.size_setCell, World.size_setCell, World.size_setCell, World.size_setCell]
theorem pcs_set (x : Pg) : ∀ (l : List Pg) (t : Nat), t < l.length → ((((pcs l).set (t * 4) (.int .i64 x.k)).set (t * 4 + 1) (.int .i64 x.d)).set (t * 4 + 2) (.int .i64 x.x)).set (t * 4 + 3) (.string x.b) = pcs (l.set t x)
  | [], t, h => by simp at h
  | y :: l, 0, _ => by simp [pcs, pcell]
  | y :: l, t + 1, h => by
    have ih := pcs_set x l t (by simpa using h)
    have e : pcs (y :: l) = .int .i64 y.k :: .int .i64 y.d :: .int .i64 y.x :: .string y.b :: pcs l := by simp [pcs, pcell]
    have i0 : (t + 1) * 4 = t * 4 + 1 + 1 + 1 + 1 := by omega
    have i1 : (t + 1) * 4 + 1 = (t * 4 + 1) + 1 + 1 + 1 + 1 := by omega
    have i2 : (t + 1) * 4 + 2 = (t * 4 + 2) + 1 + 1 + 1 + 1 := by omega
    have i3 : (t + 1) * 4 + 3 = (t * 4 + 3) + 1 + 1 + 1 + 1 := by omega
    rw [e, i1, i2, i3, i0]
    simp only [List.set_cons_succ]
    have e2 : pcs (y :: l.set t x) = .int .i64 y.k :: .int .i64 y.d :: .int .i64 y.x :: .string y.b :: pcs (l.set t x) := by simp [pcs, pcell]
    rw [e2, ← ih]
theorem set_row {w : World} {A : Option Addr} {n c g t : Nat} {l : List Pg} {x : Pg} (h : Row w A n c l) (hA : A = some ⟨g, 0, none⟩) (ht : t < l.length) : Row (setP w g t x) A n c (l.set t x) := by
  subst hA
  refine ⟨by rw [List.length_set]; exact h.1, ?_⟩
  rw [← pcs_set x l t ht]
  exact own_set (own_set (own_set (own_set h.2 rfl _) rfl _) rfl _) rfl _
theorem set_other {w : World} {A : Option Addr} {n c g t : Nat} {l : List Pg} {u : Pg} (h : Row w A n c l) (hA : (Value.slice A n c).ownBlock ≠ some g) : Row (setP w g t u) A n c l :=
  h.keep fun q hq => setP_heap w g t u q (fun e => hA (e ▸ hq))
theorem set_at {C : Nat} {w : World} {b g t : Nat} {es fs : List E} {cur : Array Value} {u : Pg} (h : BookAt C w b es fs) (hg : w.heap[g]? = some (.cells cur 26 (0, 0))) : BookAt C (setP w g t u) b es fs := by
  obtain ⟨hC, v, x, k1, k2, h1, h2, h3, h4⟩ := h
  refine ⟨hC, v, x, k1, k2, (setP_heap _ _ _ _ _ (fun e => ?_)).trans h1, owns_kept h2 fun q hq => setP_heap _ _ _ _ _ (fun e => ?_), owns_kept h3 fun q hq => setP_heap _ _ _ _ _ (fun e => ?_), h4⟩
  · rw [e] at h1; rw [hg] at h1; simp at h1
  · obtain ⟨c, hc⟩ := owns_block h2 hq; rw [e, hg] at hc; simp at hc
  · obtain ⟨c, hc⟩ := owns_block h3 hq; rw [e, hg] at hc; simp at hc
theorem set_keptE {es : List E} {w : World} {g t : Nat} {u : Pg} {e : E} (he : e ∈ es) (hg : e.own = some g) : KeptE es w (setP w g t u) :=
  ⟨rfl, rfl, rfl, by rw [setP_size]; exact Nat.le_refl _, fun k hk h => setP_heap _ _ _ _ _ (fun e' => h e he (by rw [hg, e']))⟩

def upF (F : Nat → List Pg) (i : Nat) (l : List Pg) : Nat → List Pg := fun j => if j = i then l else F j
theorem upF_same (F : Nat → List Pg) (i : Nat) (l : List Pg) : upF F i l i = l := by simp [upF]
theorem upF_other (F : Nat → List Pg) (i j : Nat) (l : List Pg) (h : j ≠ i) : upF F i l j = F j := by simp [upF, h]
theorem set_conts {w : World} {es : List E} {F : Nat → List Pg} {i g t : Nat} {x : Pg} (h : Conts w es F) (hf : Far es) (hi : i < es.length) (ht : t < (F i).length) (hA : (es.getD i e0).A = some ⟨g, 0, none⟩) :
    Conts (setP w g t x) es (upF F i ((F i).set t x)) := by
  intro j hj
  by_cases e : j = i
  · subst e
    rw [upF_same]
    exact set_row (h j hj) hA ht
  · rw [upF_other _ _ _ _ e]
    refine set_other (h j hj) fun hh => ?_
    have := hf.at hi hj (Ne.symm e) g (by unfold E.own E.val; rw [hA]; rfl)
    exact this hh
theorem set_conts_other {w : World} {es : List E} {F : Nat → List Pg} {g t : Nat} {u : Pg} (h : Conts w es F) (hn : ∀ e ∈ es, e.own ≠ some g) : Conts (setP w g t u) es F :=
  fun j hj => set_other (h j hj) (hn _ (getE_mem hj))

/-- So far marked. -/
def mix (i t : Nat) (l : List Pg) : List Pg := marks i 0 t ++ l.drop t
theorem mix_zero (i : Nat) (l : List Pg) : mix i 0 l = l := by simp [mix, marks]
theorem mix_all (i : Nat) (l : List Pg) (t : Nat) (h : t = l.length) : mix i t l = marks i 0 t := by subst h; simp [mix]
theorem mix_set (i t : Nat) (l : List Pg) (h : t < l.length) : (mix i t l).set t (mark i t) = mix i (t + 1) l := by
  unfold mix
  rw [List.set_append_right _ _ (by rw [marks_length]; omega), marks_length, Nat.sub_self, List.drop_eq_getElem_cons h, List.set_cons_zero, marks_succ, Nat.zero_add, List.append_assoc]
  rfl
theorem mix_getD (i t : Nat) (l : List Pg) (h : t < l.length) : (mix i t l).getD t nilP = l.getD t nilP := by
  unfold mix
  simp [List.getD, List.getElem?_append_right, marks_length, h]

/-- The lists' contents while they are marked. -/
def half (F : Nat → List Pg) (i t : Nat) : Nat → List Pg := fun j => if j < i then marks j 0 (F j).length else if j = i then mix i t (F i) else F j
theorem half_zero (F : Nat → List Pg) : half F 0 0 = F := by
  funext j
  unfold half
  by_cases h : j = 0
  · subst h; simp [mix_zero]
  · simp [h]
theorem half_next (F : Nat → List Pg) (i : Nat) : half F i (F i).length = half F (i + 1) 0 := by
  funext j
  unfold half
  by_cases h1 : j < i
  · simp [h1, show j < i + 1 by omega]
  · by_cases h2 : j = i
    · subst h2
      simp [mix_all]
    · by_cases h3 : j = i + 1
      · subst h3; simp [h1, mix_zero]
      · simp [h1, h2, h3, show ¬ j < i + 1 by omega]
theorem half_set (F : Nat → List Pg) (i t : Nat) (h : t < (F i).length) : upF (half F i t) i ((half F i t i).set t (mark i t)) = half F i (t + 1) := by
  funext j
  have e : half F i t i = mix i t (F i) := by simp [half]
  rw [e, mix_set i t _ h]
  unfold upF half
  by_cases h1 : j = i
  · subst h1; simp
  · simp [h1]

def Marking (C b : Nat) (es fs : List E) (F G : Nat → List Pg) (w : World) (i t : Nat) (wr : World) : Prop := BookAt C wr b es fs ∧ Conts wr es (half F i t) ∧ Conts wr fs G ∧ KeptE es w wr
theorem Marking.below {C b : Nat} {es fs : List E} {F G : Nat → List Pg} {w : World} {i t : Nat} {wr w' : World} (h : Marking C b es fs F G w i t wr) (hb : Below wr.heap.size wr w') : Marking C b es fs F G w i t w' :=
  ⟨h.1.below hb, h.2.1.below hb, h.2.2.1.below hb, h.2.2.2.trans (KeptE.of_below hb)⟩
theorem Marking.drewN {C b : Nat} {es fs : List E} {F G : Nat → List Pg} {w : World} {i t : Nat} {wr : World} (h : Marking C b es fs F G w i t wr) (n : Nat) : Marking C b es fs F G w i t (wr.drewN n) :=
  h.below ⟨rfl, rfl, rfl, Nat.le_refl _, fun _ _ => rfl⟩
theorem Marking.set {C b : Nat} {es fs : List E} {F G : Nat → List Pg} {w : World} {i t g : Nat} {wr : World} (h : Marking C b es fs F G w i t wr) (hf : Far (es ++ fs)) (hi : i < es.length) (ht : t < (F i).length) (hA : (es.getD i e0).A = some ⟨g, 0, none⟩) :
    Marking C b es fs F G w i (t + 1) (setP wr g t (mark i t)) := by
  obtain ⟨h1, h2, h3, h4⟩ := h
  have ho : (es.getD i e0).own = some g := by unfold E.own E.val; rw [hA]; rfl
  obtain ⟨cur, hc⟩ := row_block (h2 i hi) ho
  refine ⟨set_at h1 hc, ?_, set_conts_other h3 fun e he hg => ?_, h4.trans (set_keptE (getE_mem hi) ho)⟩
  · rw [← half_set F i t ht]
    exact set_conts h2 (List.pairwise_append.1 hf).1 hi (by simp only [half, Nat.lt_irrefl, if_false, if_true, mix]; rw [List.length_append, marks_length, List.length_drop]; omega) hA
  · exact (List.pairwise_append.1 hf).2.2 _ (getE_mem hi) e he g ho hg
theorem marks_any (i n : Nat) (w : World) (hi : i ≤ 1000) (hn : n ≤ 1000000) (a : Nat) (ha : a ≤ 10000000) :
    Calls Try.prog 85 #[.int .i64 i, .int .i64 a, .int .i64 n] w fun e w' => ∃ A c, e = .returned (.slice A n c) ∧ w'.ownsRow w.heap.size 26 4 (.slice A n c) n (pcs (marks i a n)) ∧ Below w.heap.size w w' :=
  (marks_walk i a n w hi ha hn).mono fun e w' ⟨A, c, h1, h2, h3⟩ => by
    unfold Own at h2
    rw [marks_length] at h1 h2
    exact ⟨A, c, h1, h2, h3⟩

theorem KeptE.cell {es : List E} {w w' : World} (h : KeptE es w w') {a : Addr} {v : Value} (hc : w.cell? a = some v) (hn : ∀ e ∈ es, e.own ≠ some a.block) : w'.cell? a = some v :=
  (World.cell?_of_block (w := w) (h.2.2.2.2 a.block (World.block_lt_of_cell? w a hc) hn)).trans hc
theorem conts_type {w : World} {es : List E} {F : Nat → List Pg} (h : Conts w es F) {g : Nat} {cs : Array Value} {t : TypeId} (hg : w.heap[g]? = some (.cells cs t (0, 0))) (ht : t ≠ 26) : ∀ e ∈ es, e.own ≠ some g := by
  intro e he ho
  obtain ⟨i, hi, rfl⟩ := List.getElem_of_mem he
  have hr := h i hi
  have e1 : es.getD i e0 = es[i] := by simp [List.getD, hi]
  rw [e1] at hr
  obtain ⟨cur, hc⟩ := row_block hr ho
  rw [hg] at hc
  simp at hc
  exact ht hc.2
theorem own_entry_block {w : World} {A : Option Addr} {c k : Nat} {es : List E} (h : w.ownsRow 0 23 1 (.slice A k c) k (es.map E.val)) {g : Nat} (hA : A = some ⟨g, 0, none⟩) : ∃ cur, w.heap[g]? = some (.cells cur 23 (0, 0)) :=
  owns_block h (by rw [hA]; rfl)

set_option maxHeartbeats 4000000 in
theorem put_walk (C b : Nat) (es fs : List E) (F G : Nat → List Pg) (w : World) (h1 : BookAt C w b es fs) (h2 : Conts w es F) (h3 : Conts w fs G) (h4 : Far (es ++ fs)) (hk : es.length ≤ 200) (hsz : ∀ i, i < es.length → (es.getD i e0).n ≤ 1000000) :
    Calls Try.prog 48 #[ptr b] w fun e w' => e = .returned (.tuple #[]) ∧ Marking C b es fs F G w es.length 0 w' := by
  have HS := Lib.hid hsz
  have H2 := Lib.hid h2
  have H4 := Lib.hid h4
  have H0 : Hid (Marking C b es fs F G w 0 0 w) := ⟨h1, by rw [half_zero]; exact h2, h3, KeptE.refl _ _⟩
  obtain ⟨k, hk2⟩ : ∃ k, es.length = k := ⟨_, rfl⟩
  have HK := Lib.hid hk2
  obtain ⟨hCb, v, u, kv, ku, g1, g2, g3, g4⟩ := h1
  obtain ⟨c0, _, _⟩ := bval w g1
  have hnb := conts_type h2 g1 (by decide)
  obtain ⟨Av, cv, rfl⟩ := own_shape g2
  rw [hk2] at hk g2 c0
  have C0 := Lib.hid c0
  have HNB := Lib.hid hnb
  have G2 := Lib.hid g2
  have hN : (k : Int) ≤ 200 := by omega
  clear h2 h3 h4 hsz hk2 hCb kv ku g1 g2 g3 g4 c0 hnb
  go_enter Try.func48, Try.ntmps48
  go_wp2_with fail
  go_loopw [2] (fun x wr => ∃ i : Nat, i ≤ k ∧ x = .int .i64 i ∧ Marking C b es fs F G w i 0 wr) (fun x _ => k - (intOf x).toNat)
  case atStart => exact ⟨0, Nat.zero_le _, rfl, H0.out⟩
  case round =>
    obtain ⟨i, hi, rfl, hq⟩ := hrel
    have HQ := Lib.hid hq
    clear hq
    have c0 := HQ.out.2.2.2.cell C0.out HNB.out
    have b0 : (0 : Int) ≤ (i : Int) := by omega
    by_cases hlt : i < k
    · have b1 : (i : Int) < (k : Int) := by omega
      obtain ⟨gv, rfl, hgv, cew⟩ := owns_entry G2.out hlt
      have hil : i < es.length := by rw [HK.out]; exact hlt
      have hFl : (F i).length = (es.getD i e0).n := (H2.out i hil).1.symm
      have hz := HS.out i hil
      obtain ⟨cur, hcur⟩ := own_entry_block G2.out rfl
      have hng := conts_type H2.out hcur (by decide)
      obtain ⟨e, hee⟩ : ∃ e, es.getD i e0 = e := ⟨_, rfl⟩
      have HEE := Lib.hid hee
      rw [hee] at cew hFl hz
      have CEW := Lib.hid cew
      have HNG := Lib.hid hng
      obtain ⟨eA, eN, eC⟩ := e
      simp only at cew hFl hz
      have ce := HQ.out.2.2.2.cell cew HNG.out
      have HFL := Lib.hid hFl
      have HIL := Lib.hid hil
      have HM := Lib.hid (marks_any i eN wr (by omega) hz 0 (by omega))
      have hzz : (eN : Int) ≤ 1000000 := by omega
      clear hee hFl hil cew hcur hng
      go_wp2_with fail
      refine HM.out.mono ?_; rintro e w2 ⟨Am, cm, rfl, hm, hb2⟩
      have HMR : Hid (Row w2 Am eN cm (marks i 0 eN)) := ⟨(marks_length _ _ _).symm, own_base hm (Nat.zero_le _)⟩
      have HMF : Hid (∀ g, (Value.slice Am eN cm).ownBlock = some g → ∀ e ∈ es, e.own ≠ some g) := fun g hg e he ho => by
        have h1 := (hm.lt g hg).1
        obtain ⟨j, hj, rfl⟩ := List.getElem_of_mem he
        have hr := HQ.out.2.1 j hj
        have e1 : es.getD j e0 = es[j] := by simp [List.getD, hj]
        rw [e1] at hr
        have h2 := row_own_lt hr ho
        omega
      have HQ2 := Lib.hid (HQ.out.below hb2)
      clear hm hb2 HQ c0 ce HM
      have c0 := HQ2.out.2.2.2.cell C0.out HNB.out
      have ce := HQ2.out.2.2.2.cell CEW.out HNG.out
      go_wp2_with fail
      go_loopw [4] (fun x wr => ∃ t : Nat, t ≤ eN ∧ x = .int .i64 t ∧ Hid (Marking C b es fs F G w i t wr ∧ Row wr Am eN cm (marks i 0 eN))) (fun x _ => eN - (intOf x).toNat)
      case atStart => exact ⟨0, Nat.zero_le _, rfl, HQ2.out, HMR.out⟩
      case round =>
        clear HQ2 HMR c0 ce
        obtain ⟨t, ht, rfl, hq⟩ := hrel
        have HQ := Lib.hid hq.out
        clear hq
        have c0 := HQ.out.1.2.2.2.cell C0.out HNB.out
        have ce := HQ.out.1.2.2.2.cell CEW.out HNG.out
        have t0 : (0 : Int) ≤ (t : Int) := by omega
        by_cases htl : t < eN
        · have t1 : (t : Int) < (eN : Int) := by omega
          obtain ⟨gm, rfl, cm0⟩ := HQ.out.2.at htl
          rw [marks_getD _ _ _ _ htl, Nat.zero_add] at cm0
          obtain ⟨m0, m1, m2, m3⟩ := cm0
          have re := HQ.out.1.2.1 i HIL.out
          rw [HEE.out] at re
          simp only at re
          obtain ⟨ge, rfl, cx⟩ := re.at htl
          obtain ⟨p0, p1, p2, p3⟩ := cx
          have hfz : ∀ o, wr.frozen? ⟨ge, o, none⟩ = false := fun o => by
            obtain ⟨cur, hc⟩ := row_block re (g := ge) rfl
            exact Lib.frozen_of_heap hc o
          have f0 := hfz (t * 4)
          have f1 := hfz (t * 4 + 1)
          have f2 := hfz (t * 4 + 2)
          have f3 := hfz (t * 4 + 3)
          have hgm : ge ≠ gm := fun h => HMF.out gm rfl _ (getE_mem HIL.out) (by rw [HEE.out, ← h]; rfl)
          have HX := Lib.hid (HQ.out.1.set H4.out HIL.out (by rw [HFL.out]; exact htl) (g := ge) (by rw [HEE.out]))
          have HMM := Lib.hid (set_other (g := ge) (t := t) (u := mark i t) HQ.out.2 (fun e => hgm (by simpa [Value.ownBlock] using e.symm)))
          generalize mark i t = y at *
          clear re hfz hgm
          go_wp2_with fail
          go_region
          all_goals go_wp2_with fail
          all_goals go_roundw
          case rel => exact ⟨t + 1, by omega, by go_num, HX.out.drewN 1, HMM.out⟩
          case measure => simp [intOf]; omega
        · obtain rfl : t = eN := by omega
          have HX : Hid (Marking C b es fs F G w (i + 1) 0 wr) := by
            have h := HQ.out.1
            refine ⟨h.1, ?_, h.2.2⟩
            rw [← half_next, HFL.out]
            exact h.2.1
          go_wp2_with fail
          go_roundw
          case rel => exact ⟨i + 1, by omega, by go_num, HX.out⟩
          case measure => simp [intOf]; omega
    · obtain rfl : i = k := by omega
      go_wp2_with fail
      go_end0
      exact ⟨rfl, by rw [HK.out]; exact HQ.out⟩
end Go.Proofs.Ytoladghpoddlgaa
