/- Lists of patches in memory; slices.IndexFunc and slices.ContainsFunc over one. -/
import Derived.Test.YtkopgohmocjbbaaBits
namespace Go.Proofs.Ytkopgohmocjbbaa
open Go.ChangeShapes Go.WideShapes Go.ChangeAt Go.RowKit
set_option linter.unusedVariables false
set_option linter.unusedSimpArgs false
/-- A patch, at this address. -/
def PtAt (w : World) (b off : Nat) (p : Pt) : Prop := w.cell? ⟨b, off, none⟩ = some (.int .i64 p.pg) ∧ w.cell? ⟨b, off + 1, none⟩ = some (.int .i64 p.ofs) ∧ w.cell? ⟨b, off + 2, none⟩ = some (.string p.bs)
theorem PtAt.kept {C : Nat} {w w' : World} {b off : Nat} {p : Pt} (h : PtAt w b off p) (hC : b < C) (hb : Below C w w') : PtAt w' b off p :=
  ⟨(hb.cell (p := ⟨b, off, none⟩) hC).trans h.1, (hb.cell (p := ⟨b, off + 1, none⟩) hC).trans h.2.1, (hb.cell (p := ⟨b, off + 2, none⟩) hC).trans h.2.2⟩
/-- A slice of patches reads as l; it lies below C. -/
def Pts (C : Nat) (w : World) (A : Option Addr) (l : List Pt) : Prop := (∀ k, k < l.length → ∃ b off, A = some ⟨b, off, none⟩ ∧ b < C ∧ PtAt w b (off + k * 3) (l.getD k nilP)) ∧ (∀ p ∈ l, p.bs.size ≤ maxLen) ∧ l.length ≤ maxLen
theorem Pts.kept {C : Nat} {w w' : World} {A : Option Addr} {l : List Pt} (h : Pts C w A l) (hb : Below C w w') : Pts C w' A l :=
  ⟨fun k hk => by
    obtain ⟨b, off, h1, h2, h3⟩ := h.1 k hk
    exact ⟨b, off, h1, h2, h3.kept h2 hb⟩, h.2⟩
theorem Pts.more {C D : Nat} {w : World} {A : Option Addr} {l : List Pt} (h : Pts C w A l) (hD : C ≤ D) : Pts D w A l :=
  ⟨fun k hk => by
    obtain ⟨b, off, h1, h2, h3⟩ := h.1 k hk
    exact ⟨b, off, h1, Nat.lt_of_lt_of_le h2 hD, h3⟩, h.2⟩
theorem Pts.size {C : Nat} {w : World} {A : Option Addr} {l : List Pt} (h : Pts C w A l) (k : Nat) (hk : k < l.length) : (l.getD k nilP).bs.size ≤ maxLen := h.2.1 _ (by
  rw [List.getD_eq_getElem?_getD, List.getElem?_eq_getElem hk]; exact List.getElem_mem hk)
theorem all_take (l : List Pt) (k : Nat) (hk : k < l.length) : (l.take (k + 1)).all okP = ((l.take k).all okP && okP (l.getD k nilP)) := by
  rw [take_snoc l k hk, List.all_append]; simp
theorem all_no (l : List Pt) (k : Nat) (hk : k < l.length) (h : okP (l.getD k nilP) = false) : l.all okP = false := by
  rw [Bool.eq_false_iff]
  intro ha
  rw [List.all_eq_true] at ha
  have := ha (l.getD k nilP) (by rw [List.getD_eq_getElem?_getD, List.getElem?_eq_getElem hk]; exact List.getElem_mem hk)
  rw [h] at this
  cases this
def Looked (l : List Pt) (w : World) (e : Ending) (w' : World) : Prop := ∃ r : Int, e = .returned (.int .i64 r) ∧ ((l.all okP = true ∧ r = -1) ∨ (l.all okP = false ∧ 0 ≤ r)) ∧ Below w.heap.size w w'
set_option maxHeartbeats 1000000 in
theorem index_walk {C n : Nat} {A : Option Addr} {c : Nat} {l : List Pt} (w : World) (h : Pts C w A l) (hn : l.length = n) (hC : C ≤ w.heap.size) :
    Calls Try.prog 32 #[.slice A n c, .func (.func 27) #[] #[]] w fun e w' => Looked l w e w' := by
  have HP := Lib.hid h
  have HN := Lib.hid hn
  have HC := Lib.hid hC
  have hm := h.2.2
  unfold maxLen at hm
  have hN : (n : Int) ≤ 9223372036854775807 := by omega
  clear h hn hC hm
  go_enter Try.func32, Try.ntmps32
  go_wp2_with fail
  go_loopw [8] (fun x wr => ∃ k : Nat, k ≤ n ∧ x = .int .i64 k ∧ Hid (Below w.heap.size w wr ∧ (l.take k).all okP = true)) (fun x _ => n - (intOf x).toNat)
  case atStart => exact ⟨0, Nat.zero_le _, rfl, Below.refl _ _, rfl⟩
  case round =>
    obtain ⟨k, hk, rfl, hq⟩ := hrel
    have HQ := Lib.hid hq
    clear hq
    by_cases hlt : k < n
    · obtain ⟨b, off, rfl, hb, hp⟩ := HP.out.1 k (by rw [HN.out]; exact hlt)
      obtain ⟨c0, c1, c2⟩ := hp.kept (w' := wr) (Nat.lt_of_lt_of_le hb HC.out) HQ.out.out.1
      have HW := Lib.hid (wrong_any (l.getD k nilP).pg (l.getD k nilP).ofs (l.getD k nilP).bs (HP.out.size k (by rw [HN.out]; exact hlt)) wr)
      have HT := Lib.hid (all_take l k (by rw [HN.out]; exact hlt))
      have HF := Lib.hid (all_no l k (by rw [HN.out]; exact hlt))
      unfold pv at HW
      generalize (l.getD k nilP) = p at *
      obtain ⟨pk, po, pb⟩ := p
      dsimp only at c0 c1 c2 HW
      clear hb hp
      have b1 : (0 : Int) ≤ (k : Int) := by omega
      have b2 : (k : Int) < (n : Int) := by omega
      cases g : okP ⟨pk, po, pb⟩ with
      | true =>
        rw [g] at HW HT
        clear HF g
        go_wp2_with fail
        refine HW.out.mono ?_; rintro e w1 ⟨rfl, hb⟩
        have H1 := Lib.hid hb
        clear hb c0 c1 c2
        go_wp2_with fail
        go_roundw
        case rel => exact ⟨k + 1, by omega, by go_num, HQ.out.out.1.trans (H1.out.mono HQ.out.out.1.size), by rw [HT.out, HQ.out.out.2]; rfl⟩
        case measure => simp [intOf]; omega
      | false =>
        rw [g] at HW
        have HG := Lib.hid (HF.out g)
        clear HF HT g
        go_wp2_with fail
        refine HW.out.mono ?_; rintro e w1 ⟨rfl, hb⟩
        have H1 := Lib.hid hb
        clear hb c0 c1 c2
        go_wp2_with fail
        go_ret
        exact ⟨k, rfl, .inr ⟨HG.out, b1⟩, HQ.out.out.1.trans (H1.out.mono HQ.out.out.1.size)⟩
    · obtain rfl : n = k := by omega
      go_wp2_with fail
      go_ret
      exact ⟨-1, rfl, .inl ⟨by have := HQ.out.out.2; rwa [List.take_of_length_le (by rw [HN.out]; omega)] at this, rfl⟩, HQ.out.out.1⟩
set_option maxHeartbeats 1000000 in
theorem contains_walk {C n : Nat} {A : Option Addr} {c : Nat} {l : List Pt} (w : World) (h : Pts C w A l) (hn : l.length = n) (hC : C ≤ w.heap.size) :
    Calls Try.prog 26 #[.slice A n c, .func (.func 27) #[] #[]] w fun e w' => e = .returned (.bool (!l.all okP)) ∧ Below w.heap.size w w' := by
  have HI := Lib.hid (index_walk (c := c) w h hn hC)
  go_enter Try.func26, Try.ntmps26
  go_wp2_with fail
  refine HI.out.mono ?_; rintro e w1 ⟨r, rfl, hr, hb⟩
  have H1 := Lib.hid hb
  clear hb
  rcases hr with ⟨h1, rfl⟩ | ⟨h1, h2⟩
  · go_wp2_with fail
    go_ret
    exact ⟨by rw [h1]; rfl, H1.out⟩
  · go_wp2_with fail
    go_ret
    exact ⟨by rw [h1]; rfl, H1.out⟩
end Go.Proofs.Ytkopgohmocjbbaa
