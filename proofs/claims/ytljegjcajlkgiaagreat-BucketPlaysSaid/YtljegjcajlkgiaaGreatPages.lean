/- Pages: their values, their boxes; the contracts of read, Cells, Find, Room. -/
import Derived.Test.YtljegjcajlkgiaaGreatIndex
import Derived.Test.YtljegjcajlkgiaaGreatEach
import Derived.Test.YtljegjcajlkgiaaGreatGet
import Derived.Test.YtljegjcajlkgiaaGreatChosen
namespace Go.Proofs.YtljegjcajlkgiaaGreat
open Go.ChangeShapes Go.WideShapes Go.ChangeAt Go.RowKit
set_option linter.unusedVariables false
set_option linter.unusedSimpArgs false
set_option maxRecDepth 100000
def pv (k d x : Int) (b : ByteArray) : Value := .agg #[.int .i64 k, .int .i64 d, .int .i64 x, .string b]
def PBox (w : World) (B : Nat) (k d x : Int) (b : ByteArray) : Prop := w.heap[B]? = some (.cells #[.int .i64 k, .int .i64 d, .int .i64 x, .string b] 23 (0, 0))
theorem PBox.cells {w : World} {B : Nat} {k d x : Int} {b : ByteArray} (h : PBox w B k d x b) : w.cell? ⟨B, 0, none⟩ = some (.int .i64 k) ∧ w.cell? ⟨B, 1, none⟩ = some (.int .i64 d) ∧ w.cell? ⟨B, 2, none⟩ = some (.int .i64 x) ∧ w.cell? ⟨B, 3, none⟩ = some (.string b) :=
  ⟨(cell_of_row _ _ _ _ _ _ h).trans rfl, (cell_of_row _ _ _ _ _ _ h).trans rfl, (cell_of_row _ _ _ _ _ _ h).trans rfl, (cell_of_row _ _ _ _ _ _ h).trans rfl⟩
theorem PBox.free {w : World} {B : Nat} {k d x : Int} {b : ByteArray} (h : PBox w B k d x b) : w.frozen? ⟨B, 0, none⟩ = false ∧ w.frozen? ⟨B, 1, none⟩ = false ∧ w.frozen? ⟨B, 2, none⟩ = false ∧ w.frozen? ⟨B, 3, none⟩ = false :=
  ⟨frozen_of_row _ _ _ _ _ h, frozen_of_row _ _ _ _ _ h, frozen_of_row _ _ _ _ _ h, frozen_of_row _ _ _ _ _ h⟩
theorem PBox.new (w : World) (k d x : Int) (b : ByteArray) : PBox (w.alloc (.cells #[.int .i64 k, .int .i64 d, .int .i64 x, .string b] 23)) w.heap.size k d x b := heap_alloc_new w _
theorem PBox.lt {w : World} {B : Nat} {k d x : Int} {b : ByteArray} (h : PBox w B k d x b) : B < w.heap.size := (Array.getElem?_eq_some_iff.1 h).1
theorem PBox.kept {w w' : World} {B : Nat} {k d x : Int} {b : ByteArray} (h : PBox w B k d x b) (hb : Below w.heap.size w w') : PBox w' B k d x b := (hb.block _ h.lt).trans h
theorem PBox.ofLt {w w' : World} {B : Nat} {k d x : Int} {b : ByteArray} (h : PBox w B k d x b) {C : Nat} (hb : Below C w w') (hC : B < C) : PBox w' B k d x b := (hb.block _ hC).trans h
def isBk (k : Int) : Bool := (k == 3) || (k == 4)
def goodP (k : Int) (b : BA) : Bool := isBk k && getOk b
def cellsP (k : Int) (b : BA) : List Ce := if isBk k then getS b else []
theorem cellsP_no {k : Int} {b : BA} (h : goodP k b = false) : cellsP k b = [] := by
  unfold goodP at h
  unfold cellsP
  cases hk : isBk k with
  | false => rfl
  | true => rw [hk] at h; exact getS_no h
theorem cellsP_yes {k : Int} {b : BA} (h : goodP k b = true) : putOk (cellsP k b) = true ∧ bodyOf (cellsP k b) = b := by
  unfold goodP at h
  rw [Bool.and_eq_true] at h
  unfold cellsP
  rw [if_pos h.1]
  exact (getS_ok h.2).2
theorem cellsP_ok (k : Int) (b : BA) : putOk (cellsP k b) = true := by
  cases g : goodP k b with
  | true => exact (cellsP_yes g).1
  | false => rw [cellsP_no g]; exact putOk_nil
theorem goodP_body {k : Int} (hk : isBk k = true) {l : List Ce} (h : putOk l = true) : goodP k (bodyOf l) = true ∧ cellsP k (bodyOf l) = l := by
  unfold goodP cellsP
  rw [hk, if_pos rfl, (getOk_body h).1]
  exact ⟨rfl, (getOk_body h).2⟩
theorem goodP_kind {k : Int} {b : BA} (h : goodP k b = true) : isBk k = true := by
  unfold goodP at h
  rw [Bool.and_eq_true] at h
  exact h.1
theorem max_small {n : Nat} (h : n ≤ 1000000) : n ≤ maxLen := by unfold maxLen; omega
theorem ok_sizes {l : List Ce} (h : ∀ c ∈ l, c.Ok) : ∀ p ∈ l, p.key.size ≤ 100 ∧ p.val.size ≤ 100 := by
  intro p hp
  have ho := h p hp
  refine ⟨by have := ho.1; omega, ?_⟩
  obtain ⟨_, h | h⟩ := ho <;> omega
theorem put_sizes {l : List Ce} (h : putOk l = true) : ∀ p ∈ l, p.key.size ≤ maxLen ∧ p.val.size ≤ maxLen := fun p hp => by
  have := ok_sizes (putOk_iff.1 h).1 p hp
  exact ⟨max_small (by omega), max_small (by omega)⟩
theorem put_sizes2 {l : List Ce} (h : putOk l = true) : ∀ p ∈ l, p.key.size ≤ 281474976710656 ∧ p.val.size ≤ 281474976710656 := fun p hp => by
  have := ok_sizes (putOk_iff.1 h).1 p hp
  exact ⟨by omega, by omega⟩
theorem put_len {l : List Ce} (h : putOk l = true) : l.length ≤ 47 := fits_len (putOk_fits h)
theorem own_put {B : Nat} {w : World} {A : Option Addr} {c : Nat} {l : List Ce} (h : Own B w (.slice A l.length c) l) (hp : putOk l = true) : Ces w.heap.size w A l := own_ces h (put_sizes hp) (max_small (by have := put_len hp; omega))
theorem own_n {B n c : Nat} {w : World} {A : Option Addr} {l : List Ce} (h : Own B w (.slice A n c) l) (hn : l.length = n) : w.ownsRow B 42 4 (.slice A n c) n (ccs l) := by subst hn; exact h
/-- What reading a page's cells hands back. -/
def ReadP (k : Int) (b : BA) (w : World) (e : Ending) (w' : World) : Prop := ∃ A c, e = .returned (.tuple #[.slice A (cellsP k b).length c, .bool (goodP k b)]) ∧ Own w.heap.size w' (.slice A (cellsP k b).length c) (cellsP k b) ∧ Below w.heap.size w w'
set_option maxHeartbeats 1000000 in
theorem read_any (k d x : Int) (b : BA) (hb : b.length ≤ 100000) (w : World) : Calls Tryz.prog 22 #[pv k d x (str b)] w fun e w' => ReadP k b w e w' := by
  have HB := Lib.hid ((Below.refl w.heap.size w).alloc (Nat.le_refl _) (.cells #[.int .i64 k, .int .i64 d, .int .i64 x, .string (str b)] 23))
  have GE := Lib.hid (fun w => get_any b hb w)
  have HG := Lib.hid (fun (A : Option Addr) c w1 (e : Ending) (w2 : World) (hk : isBk k = true) (he : e = .returned (.tuple #[.slice A (getS b).length c, .bool (getOk b)])) (ho : Own w1.heap.size w2 (.slice A (getS b).length c) (getS b)) (h2 : Below w1.heap.size w1 w2) (h1 : Below w.heap.size w w1) => show ReadP k b w e w2 from by
    unfold ReadP goodP cellsP
    rw [hk, if_pos rfl]
    exact ⟨A, c, he, own_base ho h1.size, h1.trans (h2.mono h1.size)⟩)
  have HN := Lib.hid (fun w1 (hk : isBk k = false) (h1 : Below w.heap.size w w1) => show ReadP k b w (.returned (.tuple #[.slice none 0 0, .bool false])) w1 from by
    unfold ReadP goodP cellsP
    rw [hk, if_neg (by simp)]
    exact ⟨none, 0, rfl, Own.nil _ _, h1⟩)
  unfold pv
  generalize str b = s at *
  by_cases h3 : k = 3
  · have HK := Lib.hid (show isBk k = true by subst h3; rfl)
    have h3' : (k != 3) = false := by subst h3; rfl
    have h3'' : (k == 3) = true := by subst h3; rfl
    clear h3
    go_enter Tryz.func22, Tryz.ntmps22
    go_wp2_with fail
    refine (GE.out _).mono ?_; rintro e w1 ⟨A, c, rfl, ho, h2⟩
    have H2 := Lib.hid (HG.out A c _ _ w1 HK.out rfl ho h2 HB.out)
    clear ho h2
    go_wp2_with fail
    go_ret2
    exact H2.out
  · by_cases h4 : k = 4
    · have HK := Lib.hid (show isBk k = true by subst h4; rfl)
      have h3' : (k != 3) = true := by subst h4; rfl
      have h4' : (k != 4) = false := by subst h4; rfl
      have h3'' : (k == 3) = false := by subst h4; rfl
      have h4'' : (k == 4) = true := by subst h4; rfl
      clear h3 h4
      go_enter Tryz.func22, Tryz.ntmps22
      go_wp2_with fail
      refine (GE.out _).mono ?_; rintro e w1 ⟨A, c, rfl, ho, h2⟩
      have H2 := Lib.hid (HG.out A c _ _ w1 HK.out rfl ho h2 HB.out)
      clear ho h2
      go_wp2_with fail
      go_ret2
      exact H2.out
    · have h3'' : (k == 3) = false := by rw [beq_eq_false_iff_ne]; exact h3
      have h4'' : (k == 4) = false := by rw [beq_eq_false_iff_ne]; exact h4
      have h3' : (k != 3) = true := by unfold bne; rw [h3'']; rfl
      have h4' : (k != 4) = true := by unfold bne; rw [h4'']; rfl
      have HK := Lib.hid (show isBk k = false by unfold isBk; rw [h3'', h4'']; rfl)
      clear h3 h4
      go_enter Tryz.func22, Tryz.ntmps22
      go_wp2_with fail
      go_ret2
      exact HN.out _ HK.out HB.out
set_option maxHeartbeats 1000000 in
theorem bcells_any (k d x : Int) (b : BA) (hb : b.length ≤ 100000) (w : World) : Calls Tryz.prog 14 #[pv k d x (str b)] w fun e w' => NewL (cellsP k b) w e w' := by
  have HB := Lib.hid ((Below.refl w.heap.size w).alloc (Nat.le_refl _) (.cells #[.int .i64 k, .int .i64 d, .int .i64 x, .string (str b)] 23))
  have RD := Lib.hid (fun w => read_any k d x b hb w)
  unfold pv at *
  unfold ReadP at RD
  generalize cellsP k b = l at *
  generalize goodP k b = g at *
  generalize str b = s at *
  obtain ⟨m, hm⟩ : ∃ m, l.length = m := ⟨_, rfl⟩
  have HM := Lib.hid hm
  rw [hm] at RD
  clear hm hb
  go_enter Tryz.func14, Tryz.ntmps14
  go_wp2_with fail
  refine (RD.out _).mono ?_; rintro e w1 ⟨A, c, rfl, ho, h2⟩
  have HO := Lib.hid (own_base ho HB.out.size)
  have HB1 := Lib.hid (HB.out.trans (h2.mono HB.out.size))
  clear ho h2
  go_wp2_with fail
  go_ret
  refine ⟨A, c, by rw [HM.out]; rfl, by rw [HM.out]; exact HO.out, HB1.out⟩
/-- What Room tells. -/
def roomP (k : Int) (b : BA) : Int := if goodP k b then 239 - (sums (cellsP k b) : Int) else 0
set_option maxHeartbeats 1000000 in
theorem room_any (k d x : Int) (b : BA) (hb : b.length ≤ 100000) (w : World) : Calls Tryz.prog 18 #[pv k d x (str b)] w fun e w' => e = .returned (.int .i64 (roomP k b)) ∧ Below w.heap.size w w' := by
  have HB := Lib.hid ((Below.refl w.heap.size w).alloc (Nat.le_refl _) (.cells #[.int .i64 k, .int .i64 d, .int .i64 x, .string (str b)] 23))
  have RD := Lib.hid (fun w => read_any k d x b hb w)
  have hp := cellsP_ok k b
  have HPS := Lib.hid hp
  have hlen := put_len hp
  obtain ⟨hok, hsm, _⟩ := putOk_iff.1 hp
  have HOK := Lib.hid hok
  have HSM := Lib.hid hsm
  unfold roomP
  unfold pv at *
  unfold ReadP at RD
  generalize cellsP k b = l at *
  generalize goodP k b = g at *
  generalize str b = s at *
  obtain ⟨m, hm⟩ : ∃ m, l.length = m := ⟨_, rfl⟩
  have HM := Lib.hid hm
  rw [hm] at RD
  clear hm hb hok hsm hp
  cases g with
  | false =>
    rw [if_neg (by simp)]
    go_enter Tryz.func18, Tryz.ntmps18
    go_wp2_with fail
    refine (RD.out _).mono ?_; rintro e w1 ⟨A, c, rfl, ho, h2⟩
    have HB1 := Lib.hid (HB.out.trans (h2.mono HB.out.size))
    clear ho h2
    go_wp2_with fail
    go_ret
    exact ⟨rfl, HB1.out⟩
  | true =>
    rw [if_pos rfl]
    go_enter Tryz.func18, Tryz.ntmps18
    go_wp2_with fail
    refine (RD.out _).mono ?_; rintro e w1 ⟨A, c, rfl, ho, h2⟩
    have HC := Lib.hid (Own.ces (own_n ho HM.out) HM.out (put_sizes HPS.out) (max_small (by have := HM.out; omega)))
    have HB1 := Lib.hid (HB.out.trans (h2.mono HB.out.size))
    clear ho h2
    have HE := Lib.hid (fun w' (h : Below w1.heap.size w1 w') (hp : Sp w' w1.heap.size 239) => each_walk (c := c) w1.heap.size w' (HC.out.kept h) HM.out HOK.out (by have := HSM.out; omega) (Nat.le_refl _) hp)
    go_wp2_with fail
    have hal := (Below.refl w1.heap.size w1).alloc (Nat.le_refl _) (.cells #[.int .i64 239] 75)
    refine (HE.out _ hal (heap_alloc_new w1 _)).mono ?_; rintro e w2 ⟨rfl, h1, h2⟩
    have p0 := h1.cell
    have HB2 := Lib.hid (HB1.out.trans ((hal.trans (below_grownBy h2 hal.size (Nat.le_refl _))).mono HB1.out.size))
    clear hal h1 h2 HE
    go_wp2_with fail
    go_ret
    exact ⟨rfl, HB2.out⟩
end Go.Proofs.YtljegjcajlkgiaaGreat
