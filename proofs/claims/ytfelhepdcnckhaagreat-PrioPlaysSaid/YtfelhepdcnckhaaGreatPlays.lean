/- For every list of things that are done and every list of numbers: each call on the queue answers as the document's own list does; numbers sorted are the document's; what was handed in stays; lists that were answered share no memory; on a nil Queue nothing happens. No condition. -/
import Derived.Test.YtfelhepdcnckhaaGreatRows
import Derived.Test.YtfelhepdcnckhaaGreatLaws
import Derived.Test.YtfelhepdcnckhaaGreatBook6
import Derived.Test.YtfelhepdcnckhaaGreatRef
import Derived.Test.YtfelhepdcnckhaaGreatItems
import Derived.Test.YtfelhepdcnckhaaGreatDrop
import Derived.IntWalk
import Derived.Lib.Hide
import Derived.WalkKit
import Derived.ProofKit
import Derived.OpenShut
import Derived.ChangeOld
import Derived.Below
import Derived.Carry
namespace Go.Proofs.YtfelhepdcnckhaaGreat.prioPlays
open Go.ChangeShapes Go.WideShapes Go.ChangeAt Go.RowKit
set_option linter.unusedVariables false

theorem own : ownKnob Tryz.prog.godebug = none := by kernel_rfl
theorem laidOut : laidOutB Tryz.prog = true := by kernel_rfl


theorem own_alloc {C p : Nat} {l : List Pr} {w : World} (h : Own C p l w) (o : Obj) : Own C p l (w.alloc o) := h.below ((Below.refl _ _).alloc (Nat.le_refl _) o)
/-- Between two things that are done. -/
def Inv (C p : Nat) (w0 : World) (i : Nat) (A : Option Addr) (n c : Nat) (w : World) : Prop := ∃ H : List Pr, H.length ≤ i ∧ Own C p H w ∧ Below C w0 w ∧ Its w A n c H
theorem its_split (l : List Pr) (k : Nat) : l.flatMap pc = (l.take k).flatMap pc ++ (l.drop k).flatMap pc := by rw [← List.flatMap_append, List.take_append_drop]
theorem its_cap {w : World} {A : Option Addr} {n c : Nat} {l : List Pr} (h : Its w A n c l) : n ≤ c := by
  rcases h.2.2 with ⟨h1, h2⟩ | ⟨g, cap, cur, h1, _, _, h2, _⟩
  · omega
  · simp only [Value.slice.injEq] at h1
    omega
theorem its_take {w : World} {g n c k : Nat} {l : List Pr} (h : Its w (some ⟨g, 0, none⟩) n c l) (hk : k ≤ n) : Src w 2 (some ⟨g, 0, none⟩) k ((l.take k).flatMap pc) := by
  refine ⟨by rw [its_len, List.length_take, ← h.1]; omega, fun _ => ⟨_, rfl, fun j u hu => ?_⟩⟩
  refine h.2.cells (g := g) rfl j u ?_
  rw [its_split l k, List.getElem?_append_left (List.getElem?_eq_some_iff.1 hu).1]
  exact hu
theorem its_drop {w : World} {g n c k : Nat} {l : List Pr} (h : Its w (some ⟨g, 0, none⟩) n c l) (hk : k ≤ n) : Src w 2 (some ⟨g, k * 2, none⟩) (n - k) ((l.drop k).flatMap pc) := by
  refine ⟨by rw [its_len, List.length_drop, ← h.1], fun _ => ⟨_, rfl, fun j u hu => ?_⟩⟩
  have hl : ((l.take k).flatMap pc).length = k * 2 := by rw [its_len, List.length_take, ← h.1]; omega
  have := h.2.cells (g := g) rfl (k * 2 + j) u (by rw [its_split l k, List.getElem?_append_right (by rw [hl]; omega), hl, show k * 2 + j - k * 2 = j by omega]; exact hu)
  rw [add_plain, Nat.zero_add] at this
  rw [add_plain]
  exact this
theorem src_none {w w' : World} {s m : Nat} {A : Option Addr} {news : List Value} (hg : w.grownBy w' none) (h : Src w s A m news) : Src w' s A m news := ⟨h.1, fun h0 => by
  obtain ⟨ad, h1, h2⟩ := h.2 h0
  exact ⟨ad, h1, fun j u hu => hg.cell (h2 j u hu) (by simp)⟩⟩
theorem src_alloc {w : World} {s m : Nat} {A : Option Addr} {news : List Value} (h : Src w s A m news) (o : Obj) : Src (w.alloc o) s A m news := ⟨h.1, fun h0 => by
  obtain ⟨ad, h1, h2⟩ := h.2 h0
  exact ⟨ad, h1, fun j u hu => Lib.cell?_alloc_some o (h2 j u hu)⟩⟩
theorem src_pair (w : World) (a b : Int) (t : TypeId) : Src (w.alloc (.cells #[.int .i64 a, .int .i64 b] t)) 2 (some ⟨w.heap.size, 0, none⟩) 1 (pc (a, b)) := ⟨rfl, fun _ => ⟨_, rfl, fun j u hu => by
  have hn := heap_alloc_new w (.cells #[.int .i64 a, .int .i64 b] t)
  rw [add_plain, Nat.zero_add]
  match j with
  | 0 => obtain rfl : Value.int .i64 a = u := by simpa [pc] using hu
         exact cell_of_row _ _ 0 _ _ _ hn
  | 1 => obtain rfl : Value.int .i64 b = u := by simpa [pc] using hu
         exact cell_of_row _ _ 1 _ _ _ hn
  | j + 2 => simp [pc] at hu⟩⟩
theorem ge_of_at {B S : Nat} {v : Value} (hB : B ≤ S) (h : v.ownBlock = (Value.slice none 0 0).ownBlock ∨ v.ownBlock = some S) : ∀ g, v.ownBlock = some g → B ≤ g := by
  intro g hg
  rcases h with e | e
  · rw [e] at hg; cases hg
  · rw [e] at hg; injection hg with hg; omega
theorem cell_none {w w' : World} (hg : w.grownBy w' none) {p : Addr} {u : Value} (h : w.cell? p = some u) : w'.cell? p = some u := hg.cell h (by simp)
theorem book_below {C b : Nat} {w w' : World} {es fs : List E} {ls ms : List (List Int)} (h : Book C w b es fs ls ms) (hb : Below w.heap.size w w') : Book C w' b es fs ls ms := ⟨h.1.below hb, h.2.1.below hb, h.2.2.1.below hb, h.2.2.2⟩
theorem book_cell {C b : Nat} {w : World} {es fs : List E} {ls ms : List (List Int)} (h : Book C w b es fs ls ms) : ∃ cs, w.heap[b]? = some (.cells cs 53 (0, 0)) := by
  obtain ⟨⟨_, v, u, _, _, h1, _⟩, _⟩ := h
  exact ⟨_, h1⟩
theorem lent_keptB {C b g n c : Nat} {l : List Int} {w w' : World} (h : Lent w g n c l) (k : KeptB C b w w') (hg : g ≠ b) : Lent w' g n c l := h.keep (by
  obtain ⟨cur, hc⟩ := h.block
  rw [hc]
  exact k.2 g _ hc hg (by intro cs; simp))
theorem rest_perm (H : List Pr) (k : Nat) (h : k < H.length) : (H.getD k p0 :: (H.take k ++ H.drop (k + 1))).Perm H := by
  have e : H = H.take k ++ H.getD k p0 :: H.drop (k + 1) := by
    have h1 := List.drop_eq_getElem_cons h
    have h2 : H.getD k p0 = H[k] := by simp [List.getD, h]
    rw [h2, ← h1, List.take_append_drop]
  conv => rhs; rw [e]
  exact List.perm_middle.symm
theorem take_more (H : List Pr) (j : Nat) (h : j < H.length) : H.take (j + 1) = H.take j ++ [H.getD j p0] := by
  rw [List.take_add_one, List.getD, List.getElem?_eq_getElem h]; rfl
theorem len_e (H : List Pr) (nh : Nat) (hn : nh = H.length) (C p : Nat) (w : World) (h : Own C p H w) : Calls Tryz.prog 10 #[ptr p] w fun e w' => e = .returned (.int .i64 (nh : Int)) ∧ w = w' := by
  rw [hn]; exact len_o C p H w h
theorem drop_o (C p : Nat) (l : List Pr) (d : Int) (w : World) (h : Own C p l w) :
    Calls Tryz.prog 9 #[ptr p, .int .i64 d] w fun e w' => e = .returned (.int .i64 ((l.length : Int) - (l.filter (fun x => !(x.2 == d))).length)) ∧ Own C p (l.filter (fun x => !(x.2 == d))) w' ∧ Kept C p w w' := by
  obtain ⟨v, h1, h2, h3, h4⟩ := h
  exact (drop_q p v l d w h1).mono fun e w' ⟨he, hw⟩ => ⟨he, Own.went h1 h2 h3 h4 hw⟩
set_option maxRecDepth 100000 in
set_option maxHeartbeats 40000000 in
theorem walk (A : Option Addr) (n c : Nat) (l : List O3) (B : Option Addr) (m d : Nat) (s : List Int) (w : World) (hl : Ops w A n l) (hm : n ≤ maxLen) (hs : Ints w B m s) (hm2 : m ≤ maxLen) :
    Calls Tryz.prog 3 #[.slice A n c, .slice B m d] w fun e w' => e = .returned (.bool true) ∧ Below w.heap.size w w' := by
  unfold maxLen at hm hm2
  obtain ⟨i0, hi0, hz0, hz1, hz2⟩ := info_parts infoT
  have HL := Lib.hid hl
  have HI := Lib.hid hs
  clear hl hs
  by_cases h1 : n ≤ 150
  · have n1 : ¬ 150 < n := by omega
    by_cases h2 : m ≤ 60
    · have n2 : ¬ 60 < m := by omega
      go_enter Tryz.func3, Tryz.ntmps3
      go_wp2_with fail
      refine (alive_yes _).mono ?_; rintro e w1 ⟨rfl, hb1⟩
      have B1 := Lib.hid hb1
      have HO := Lib.hid (Own.fresh w1)
      clear hb1
      go_wp2_with fail
      go_loopw [6, 48] (fun v x wr => ∃ (i : Nat) (Ah : Option Addr) (nh ch : Nat), i ≤ n ∧ x = .int .i64 i ∧ v = .slice Ah nh ch ∧ Inv w1.heap.size w1.heap.size w1 i Ah nh ch wr) (fun _ x _ => n - (intOf x).toNat)
      case atStart => exact ⟨0, none, 0, 0, Nat.zero_le _, rfl, rfl, [], Nat.le_refl _, HO.out, (Below.refl _ _).alloc (Nat.le_refl _) _, its_nil _⟩
      case round =>
        obtain ⟨i, Ah, nh, ch, hi, rfl, rfl, H, q1, q2, q3, q4⟩ := hrel
        have Q2 := Lib.hid q2
        have Q3 := Lib.hid q3
        have Q4 := Lib.hid q4
        have HNH : Hid (nh = H.length) := q4.1
        have hnh : nh ≤ 150 := by have := q4.1; omega
        have hin : nh ≤ i := by have := q4.1; omega
        have HPL := Lib.hid q2.len
        clear q1 q2 q3 q4
        by_cases hlt : i < n
        · obtain ⟨b, off, rfl, hbw, hc0, hc1, hc2⟩ := HL.out.2 i hlt
          have hd0 := ((B1.out.trans (Q3.out.mono B1.out.size)).cell (p := ⟨b, off + i * 3, none⟩) hbw).trans hc0
          have hd1 := ((B1.out.trans (Q3.out.mono B1.out.size)).cell (p := ⟨b, off + i * 3 + 1, none⟩) hbw).trans hc1
          have hd2 := ((B1.out.trans (Q3.out.mono B1.out.size)).cell (p := ⟨b, off + i * 3 + 2, none⟩) hbw).trans hc2
          clear hc0 hc1 hc2
          generalize l.getD i o0 = o at *
          obtain ⟨z, a, dd⟩ := o
          simp only at hd0 hd1 hd2
          -- the thing's own box
          have hal : Below wr.heap.size wr (wr.alloc (.cells #[.int .i64 z, .int .i64 a, .int .i64 dd] 32)) := (Below.refl _ _).alloc (Nat.le_refl _) _
          have hbox := heap_alloc_new wr (.cells #[.int .i64 z, .int .i64 a, .int .i64 dd] 32)
          have hsz : (wr.alloc (.cells #[.int .i64 z, .int .i64 a, .int .i64 dd] 32)).heap.size = wr.heap.size + 1 := World.size_alloc _ _
          generalize hX : wr.alloc (.cells #[.int .i64 z, .int .i64 a, .int .i64 dd] 32) = X at hal hbox hsz
          have HX := Lib.hid hX
          have R2 := Lib.hid (Q2.out.below hal)
          have R3 := Lib.hid (Q3.out.trans (hal.mono Q3.out.size))
          have R4 := Lib.hid (Q4.out.below hal)
          have HBX := Lib.hid hbox
          have HSZ := Lib.hid hsz
          have HF := Lib.hid (first_walk Ah nh ch H X R4.out (by omega))
          clear hal hbox hsz
          go_wp2_with fail
          refine HF.out.mono ?_; rintro e Y ⟨⟨q, hY⟩, hf⟩
          have hb2 : Below X.heap.size X Y := by rw [hY]; exact ⟨rfl, rfl, rfl, Nat.le_refl _, fun _ _ => rfl⟩
          have S2 := Lib.hid (R2.out.below hb2)
          have S3 := Lib.hid (R3.out.trans (hb2.mono R3.out.size))
          have S4 := Lib.hid (R4.out.below hb2)
          have SB := Lib.hid ((hb2.block wr.heap.size (by rw [HSZ.out]; omega)).trans HBX.out)
          have hsy : wr.heap.size < Y.heap.size := by have := hb2.size; rw [HSZ.out] at this; omega
          have p0_ : Y.cell? ⟨wr.heap.size, 0, none⟩ = some (.int .i64 z) := cell_of_row Y _ 0 _ _ _ SB.out
          have p1_ : Y.cell? ⟨wr.heap.size, 1, none⟩ = some (.int .i64 a) := cell_of_row Y _ 1 _ _ _ SB.out
          have p2_ : Y.cell? ⟨wr.heap.size, 2, none⟩ = some (.int .i64 dd) := cell_of_row Y _ 2 _ _ _ SB.out
          have HSY := Lib.hid hsy
          clear hb2 hY HF R2 R3 R4 HBX
          rcases hf with ⟨hH, rfl⟩ | ⟨k, hk, rfl, hbest⟩
          · subst hH
            clear hX
            by_cases z1 : z = 1
            · subst z1
              as_aux_lemma =>
                have hwb := heap_alloc_new Y (.cells #[.int .i64 0, .int .i64 0] 35)
                have T2 := Lib.hid (own_alloc S2.out (.cells #[.int .i64 0, .int .i64 0] 35))
                have HZ : Hid (Below Y.heap.size Y (Y.alloc (.cells #[.int .i64 0, .int .i64 0] 35))) := (Below.refl _ _).alloc (Nat.le_refl _) _
                have T3 := Lib.hid (S3.out.trans (HZ.out.mono S3.out.size))
                have T4 := Lib.hid (S4.out.below HZ.out)
                have HWB := Lib.hid hwb
                have TB := Lib.hid ((HZ.out.block wr.heap.size HSY.out).trans SB.out)
                clear hwb
                go_wp2_with fail
                refine (push_o _ _ ([] : List Pr) a dd _ T2.out (by have := HNH.out; simp at this ⊢; try omega)).mono ?_; rintro e X3 ⟨rfl, hx⟩
                have H3 := Lib.hid hx
                have ho := hx.2.2 _ _ TB.out (by have := HPL.out; omega) (by intro cs; simp)
                have o0_ : X3.cell? ⟨wr.heap.size, 0, none⟩ = some (.int .i64 1) := cell_of_row X3 _ 0 _ _ _ ho
                have o1_ : X3.cell? ⟨wr.heap.size, 1, none⟩ = some (.int .i64 a) := cell_of_row X3 _ 1 _ _ _ ho
                have o2_ : X3.cell? ⟨wr.heap.size, 2, none⟩ = some (.int .i64 dd) := cell_of_row X3 _ 2 _ _ _ ho
                clear hx ho
                have U4 := Lib.hid (T4.out.kept T2.out H3.out.2)
                have SRC1 := Lib.hid U4.out.src
                go_wp2_with fail
                have HBD : Hid (Below X3.heap.size X3 X3.drew) := ⟨rfl, rfl, rfl, Nat.le_refl _, fun _ _ => rfl⟩
                go_region_law (first
                  | (refine step_append_src _ (by rfl) (.const (.slice none 0 0)) (.tmp 71) 30 (by rfl) 35 i0 (.agg #[.int .i64 0, .int .i64 0]) 2 16 Tryz.underlying30 hi0 hz0 hz1 hz2 rfl (by decide) 0 (.slice none 0 0) 0 [] (by rfl) (World.ownsRow_nil _ _ _ _) Ah nh ch ((([] : List Pr)).flatMap pc) (by rfl) SRC1.out (its_ones _) (by unfold maxLen; omega) (by omega) (Nat.zero_le _) ?_; intro v4 w4 hown4 hg4 hat4; rw [Nat.zero_add] at hown4; obtain ⟨A4, c4, rfl⟩ := own_shape hown4; have r1_ : w4.cell? ⟨wr.heap.size, 1, none⟩ = some (.int .i64 a) := cell_none hg4 o1_; have r2_ : w4.cell? ⟨wr.heap.size, 2, none⟩ = some (.int .i64 dd) := cell_none hg4 o2_; have HB4 := Lib.hid (Below.grown HBD.out hg4 (Nat.le_refl _) (fun j hj => by cases hj)); have HL4 := Lib.hid (ge_of_at (Nat.le_refl X3.heap.size) hat4))
                  | (refine step_append_src _ (by rfl) (.const (.slice none 0 0)) (.tmp 71) 30 (by rfl) 35 i0 (.agg #[.int .i64 0, .int .i64 0]) 2 16 Tryz.underlying30 hi0 hz0 hz1 hz2 rfl (by decide) 0 (.slice none 0 0) 0 [] (by rfl) (World.ownsRow_nil _ _ _ _) Ah nh ch ((([] : List Pr)).flatMap pc) (by rfl) (src_alloc SRC1.out _) (its_ones _) (by unfold maxLen; omega) (by omega) (Nat.zero_le _) ?_; intro v4 w4 hown4 hg4 hat4; rw [Nat.zero_add] at hown4; obtain ⟨A4, c4, rfl⟩ := own_shape hown4; have HB4 := Lib.hid (Below.grown (HBD.out.alloc (Nat.le_refl _) _) hg4 ((HBD.out.alloc (Nat.le_refl _) _).size) (fun j hj => by cases hj)); have HL4 := Lib.hid (ge_of_at ((HBD.out.alloc (Nat.le_refl _) _).size) hat4); have HS4 := Lib.hid (src_none hg4 (src_pair X3.drew a dd 35)))
                  | (refine step_append_src _ (by rfl) (.tmp 72) (.tmp 78) 30 (by rfl) 35 i0 (.agg #[.int .i64 0, .int .i64 0]) 2 16 Tryz.underlying30 hi0 hz0 hz1 hz2 rfl (by decide) 0 (.slice A4 nh c4) nh ([] ++ (([] : List Pr)).flatMap pc) (by rfl) (hown4.alloc _) (some ⟨w4.heap.size, 0, none⟩) 1 1 (pc (a, dd)) (by rfl) (src_pair w4 a dd 35) (its_ones [(a, dd)]) (by unfold maxLen; omega) (by omega) (Nat.zero_le _) ?_; intro v5 w5 hown5 hg5 hat5; obtain ⟨A5, c5, rfl⟩ := own_shape hown5; have Z5 := Lib.hid (Below.grown (HB4.out.alloc HB4.out.size _) hg5 ((HB4.out.alloc HB4.out.size _).size) HL4.out))
                  | (refine step_append_src _ (by rfl) (.tmp 72) (.tmp 78) 30 (by rfl) 35 i0 (.agg #[.int .i64 0, .int .i64 0]) 2 16 Tryz.underlying30 hi0 hz0 hz1 hz2 rfl (by decide) 0 (.slice A4 nh c4) nh ([] ++ (([] : List Pr)).flatMap pc) (by rfl) hown4 (some ⟨X3.heap.size, 0, none⟩) 1 1 (pc (a, dd)) (by rfl) HS4.out (its_ones [(a, dd)]) (by unfold maxLen; omega) (by omega) (Nat.zero_le _) ?_; intro v5 w5 hown5 hg5 hat5; obtain ⟨A5, c5, rfl⟩ := own_shape hown5; have Z5 := Lib.hid (Below.grown HB4.out hg5 HB4.out.size HL4.out)))
                all_goals
                  have O5 := Lib.hid (H3.out.1.below Z5.out)
                  have HLN5 : Hid (nh + 1 = (([] : List Pr) ++ [(a, dd)]).length) := by have := HNH.out; simp only [Hid, List.length_append]; simp at this ⊢; omega
                  have I5 : Hid (Its w5 A5 (nh + 1) c5 (([] : List Pr) ++ [(a, dd)])) := ⟨HLN5.out, by rw [List.flatMap_append]; rw [List.nil_append] at hown5; simpa using hown5⟩
                  clear hown5 hg5 hat5
                  go_wp2_with fail
                  refine (len_e _ (nh + 1) HLN5.out _ _ w5 O5.out).mono ?_; rintro e X9 ⟨rfl, rfl⟩
                  go_wp2_with fail
                  go_roundw
                  case rel => exact ⟨i + 1, A5, nh + 1, c5, by omega, by go_num, rfl, ([] : List Pr) ++ [(a, dd)], by rw [← HLN5.out]; omega, O5.out, (T3.out.trans H3.out.2.1).trans (Z5.out.mono (Nat.le_of_lt H3.out.1.len)), I5.out⟩
                  case measure => simp [intOf]; omega
            · have f1 : ((z : Int) == 1) = false := by simpa using z1
              have F1 := Lib.hid z1
              clear z1
              by_cases z2 : z = 2
              · subst z2
                as_aux_lemma =>
                  have hwb := heap_alloc_new Y (.cells #[.int .i64 0, .int .i64 0] 35)
                  have T2 := Lib.hid (own_alloc S2.out (.cells #[.int .i64 0, .int .i64 0] 35))
                  have HZ : Hid (Below Y.heap.size Y (Y.alloc (.cells #[.int .i64 0, .int .i64 0] 35))) := (Below.refl _ _).alloc (Nat.le_refl _) _
                  have T3 := Lib.hid (S3.out.trans (HZ.out.mono S3.out.size))
                  have T4 := Lib.hid (S4.out.below HZ.out)
                  have HWB := Lib.hid hwb
                  have TB := Lib.hid ((HZ.out.block wr.heap.size HSY.out).trans SB.out)
                  clear hwb
                  go_wp2_with fail
                  refine (pop_e _ _ _ T2.out).mono ?_; rintro e X3 ⟨rfl, rfl⟩
                  go_wp2_with fail
                  refine (len_e [] nh HNH.out _ _ _ T2.out).mono ?_; rintro e X9 ⟨rfl, rfl⟩
                  go_wp2_with fail
                  go_roundw
                  case rel => exact ⟨i + 1, Ah, nh, ch, by omega, by go_num, rfl, [], by simp, T2.out, T3.out, T4.out⟩
                  case measure => simp [intOf]; omega
              · have f2 : ((z : Int) == 2) = false := by simpa using z2
                have F2 := Lib.hid z2
                clear z2
                by_cases z3 : z = 3
                · subst z3
                  as_aux_lemma =>
                    have hwb := heap_alloc_new Y (.cells #[.int .i64 0, .int .i64 0] 35)
                    have T2 := Lib.hid (own_alloc S2.out (.cells #[.int .i64 0, .int .i64 0] 35))
                    have HZ : Hid (Below Y.heap.size Y (Y.alloc (.cells #[.int .i64 0, .int .i64 0] 35))) := (Below.refl _ _).alloc (Nat.le_refl _) _
                    have T3 := Lib.hid (S3.out.trans (HZ.out.mono S3.out.size))
                    have T4 := Lib.hid (S4.out.below HZ.out)
                    have HWB := Lib.hid hwb
                    have TB := Lib.hid ((HZ.out.block wr.heap.size HSY.out).trans SB.out)
                    clear hwb
                    go_wp2_with fail
                    refine (peek_e _ _ _ T2.out).mono ?_; rintro e X3 ⟨rfl, rfl⟩
                    go_wp2_with fail
                    refine (len_e [] nh HNH.out _ _ _ T2.out).mono ?_; rintro e X9 ⟨rfl, rfl⟩
                    go_wp2_with fail
                    go_roundw
                    case rel => exact ⟨i + 1, Ah, nh, ch, by omega, by go_num, rfl, [], by simp, T2.out, T3.out, T4.out⟩
                    case measure => simp [intOf]; omega
                · have f3 : ((z : Int) == 3) = false := by simpa using z3
                  have F3 := Lib.hid z3
                  clear z3
                  by_cases z4 : z = 4
                  · subst z4
                    as_aux_lemma =>
                      have hwb := heap_alloc_new Y (.cells #[.int .i64 0, .int .i64 0] 35)
                      have T2 := Lib.hid (own_alloc S2.out (.cells #[.int .i64 0, .int .i64 0] 35))
                      have HZ : Hid (Below Y.heap.size Y (Y.alloc (.cells #[.int .i64 0, .int .i64 0] 35))) := (Below.refl _ _).alloc (Nat.le_refl _) _
                      have T3 := Lib.hid (S3.out.trans (HZ.out.mono S3.out.size))
                      have T4 := Lib.hid (S4.out.below HZ.out)
                      have HWB := Lib.hid hwb
                      have TB := Lib.hid ((HZ.out.block wr.heap.size HSY.out).trans SB.out)
                      clear hwb
                      go_wp2_with fail
                      go_loopw [17, 143] (fun r x wr2 => x = .int .i64 0 ∧ r = .slice none 0 0 ∧ wr2 = Y.alloc (.cells #[.int .i64 0, .int .i64 0] 35)) (fun _ _ _ => 0)
                      case atStart => exact ⟨rfl, rfl, rfl⟩
                      case round =>
                        obtain ⟨rfl, rfl, rfl⟩ := hrel
                        have hn0 : nh = 0 := HNH.out
                        subst hn0
                        go_wp2_with fail
                        refine (drop_o _ _ [] dd _ T2.out).mono ?_; rintro e X3 ⟨rfl, hx⟩
                        have H3 := Lib.hid hx
                        clear hx
                        go_wp2_with fail
                        refine (len_e [] 0 rfl _ _ X3 H3.out.1).mono ?_; rintro e X9 ⟨rfl, rfl⟩
                        go_wp2_with fail
                        go_roundw
                        case rel => exact ⟨i + 1, none, 0, 0, by omega, by go_num, rfl, [], by simp, H3.out.1, T3.out.trans H3.out.2.1, its_nil _⟩
                        case measure => simp [intOf]; omega
                  · have f4 : ((z : Int) == 4) = false := by simpa using z4
                    have F4 := Lib.hid z4
                    clear z4
                    as_aux_lemma =>
                      have hwb := heap_alloc_new Y (.cells #[.int .i64 0, .int .i64 0] 35)
                      have T2 := Lib.hid (own_alloc S2.out (.cells #[.int .i64 0, .int .i64 0] 35))
                      have HZ : Hid (Below Y.heap.size Y (Y.alloc (.cells #[.int .i64 0, .int .i64 0] 35))) := (Below.refl _ _).alloc (Nat.le_refl _) _
                      have T3 := Lib.hid (S3.out.trans (HZ.out.mono S3.out.size))
                      have T4 := Lib.hid (S4.out.below HZ.out)
                      have HWB := Lib.hid hwb
                      have TB := Lib.hid ((HZ.out.block wr.heap.size HSY.out).trans SB.out)
                      clear hwb
                      go_wp2_with fail
                      refine (len_e [] nh HNH.out _ _ _ T2.out).mono ?_; rintro e X9 ⟨rfl, rfl⟩
                      go_wp2_with fail
                      go_roundw
                      case rel => exact ⟨i + 1, Ah, nh, ch, by omega, by go_num, rfl, [], by simp, T2.out, T3.out, T4.out⟩
                      case measure => simp [intOf]; omega
          · have hkn : k < nh := by rw [HNH.out]; exact hk
            obtain ⟨g, rfl, y0, y1⟩ := S4.out.at hkn
            have HBEST := Lib.hid hbest
            have hgx : g < Y.heap.size := World.block_lt_of_cell? Y _ y0
            have HPRM := Lib.hid (rest_perm H k hk)
            have HKN := Lib.hid hk
            generalize hx : H.getD k p0 = x at *
            clear hx hbest hk
            obtain ⟨x1, x2⟩ := x
            simp only at y0 y1
            have kb1 : (0 : Int) ≤ (k : Int) := by omega
            have kb2 : (k : Int) < (nh : Int) := by omega
            have kb3 : ¬ ((k : Int) < 0) := by omega
            clear hX
            by_cases z1 : z = 1
            · subst z1
              as_aux_lemma =>
                have hwb := heap_alloc_new Y (.cells #[.int .i64 x1, .int .i64 x2] 35)
                have T2 := Lib.hid (own_alloc S2.out (.cells #[.int .i64 x1, .int .i64 x2] 35))
                have HZ : Hid (Below Y.heap.size Y (Y.alloc (.cells #[.int .i64 x1, .int .i64 x2] 35))) := (Below.refl _ _).alloc (Nat.le_refl _) _
                have T3 := Lib.hid (S3.out.trans (HZ.out.mono S3.out.size))
                have T4 := Lib.hid (S4.out.below HZ.out)
                have HWB := Lib.hid hwb
                have TB := Lib.hid ((HZ.out.block wr.heap.size HSY.out).trans SB.out)
                clear hwb
                go_wp2_with fail
                refine (push_o _ _ H a dd _ T2.out (by have := HNH.out; simp at this ⊢; try omega)).mono ?_; rintro e X3 ⟨rfl, hx⟩
                have H3 := Lib.hid hx
                have ho := hx.2.2 _ _ TB.out (by have := HPL.out; omega) (by intro cs; simp)
                have o0_ : X3.cell? ⟨wr.heap.size, 0, none⟩ = some (.int .i64 1) := cell_of_row X3 _ 0 _ _ _ ho
                have o1_ : X3.cell? ⟨wr.heap.size, 1, none⟩ = some (.int .i64 a) := cell_of_row X3 _ 1 _ _ _ ho
                have o2_ : X3.cell? ⟨wr.heap.size, 2, none⟩ = some (.int .i64 dd) := cell_of_row X3 _ 2 _ _ _ ho
                clear hx ho
                have U4 := Lib.hid (T4.out.kept T2.out H3.out.2)
                have SRC1 := Lib.hid U4.out.src
                go_wp2_with fail
                have HBD : Hid (Below X3.heap.size X3 X3.drew) := ⟨rfl, rfl, rfl, Nat.le_refl _, fun _ _ => rfl⟩
                go_region_law (first
                  | (refine step_append_src _ (by rfl) (.const (.slice none 0 0)) (.tmp 71) 30 (by rfl) 35 i0 (.agg #[.int .i64 0, .int .i64 0]) 2 16 Tryz.underlying30 hi0 hz0 hz1 hz2 rfl (by decide) 0 (.slice none 0 0) 0 [] (by rfl) (World.ownsRow_nil _ _ _ _) (some ⟨g, 0, none⟩) nh ch ((H).flatMap pc) (by rfl) SRC1.out (its_ones _) (by unfold maxLen; omega) (by omega) (Nat.zero_le _) ?_; intro v4 w4 hown4 hg4 hat4; rw [Nat.zero_add] at hown4; obtain ⟨A4, c4, rfl⟩ := own_shape hown4; have r1_ : w4.cell? ⟨wr.heap.size, 1, none⟩ = some (.int .i64 a) := cell_none hg4 o1_; have r2_ : w4.cell? ⟨wr.heap.size, 2, none⟩ = some (.int .i64 dd) := cell_none hg4 o2_; have HB4 := Lib.hid (Below.grown HBD.out hg4 (Nat.le_refl _) (fun j hj => by cases hj)); have HL4 := Lib.hid (ge_of_at (Nat.le_refl X3.heap.size) hat4))
                  | (refine step_append_src _ (by rfl) (.const (.slice none 0 0)) (.tmp 71) 30 (by rfl) 35 i0 (.agg #[.int .i64 0, .int .i64 0]) 2 16 Tryz.underlying30 hi0 hz0 hz1 hz2 rfl (by decide) 0 (.slice none 0 0) 0 [] (by rfl) (World.ownsRow_nil _ _ _ _) (some ⟨g, 0, none⟩) nh ch ((H).flatMap pc) (by rfl) (src_alloc SRC1.out _) (its_ones _) (by unfold maxLen; omega) (by omega) (Nat.zero_le _) ?_; intro v4 w4 hown4 hg4 hat4; rw [Nat.zero_add] at hown4; obtain ⟨A4, c4, rfl⟩ := own_shape hown4; have HB4 := Lib.hid (Below.grown (HBD.out.alloc (Nat.le_refl _) _) hg4 ((HBD.out.alloc (Nat.le_refl _) _).size) (fun j hj => by cases hj)); have HL4 := Lib.hid (ge_of_at ((HBD.out.alloc (Nat.le_refl _) _).size) hat4); have HS4 := Lib.hid (src_none hg4 (src_pair X3.drew a dd 35)))
                  | (refine step_append_src _ (by rfl) (.tmp 72) (.tmp 78) 30 (by rfl) 35 i0 (.agg #[.int .i64 0, .int .i64 0]) 2 16 Tryz.underlying30 hi0 hz0 hz1 hz2 rfl (by decide) 0 (.slice A4 nh c4) nh ([] ++ (H).flatMap pc) (by rfl) (hown4.alloc _) (some ⟨w4.heap.size, 0, none⟩) 1 1 (pc (a, dd)) (by rfl) (src_pair w4 a dd 35) (its_ones [(a, dd)]) (by unfold maxLen; omega) (by omega) (Nat.zero_le _) ?_; intro v5 w5 hown5 hg5 hat5; obtain ⟨A5, c5, rfl⟩ := own_shape hown5; have Z5 := Lib.hid (Below.grown (HB4.out.alloc HB4.out.size _) hg5 ((HB4.out.alloc HB4.out.size _).size) HL4.out))
                  | (refine step_append_src _ (by rfl) (.tmp 72) (.tmp 78) 30 (by rfl) 35 i0 (.agg #[.int .i64 0, .int .i64 0]) 2 16 Tryz.underlying30 hi0 hz0 hz1 hz2 rfl (by decide) 0 (.slice A4 nh c4) nh ([] ++ (H).flatMap pc) (by rfl) hown4 (some ⟨X3.heap.size, 0, none⟩) 1 1 (pc (a, dd)) (by rfl) HS4.out (its_ones [(a, dd)]) (by unfold maxLen; omega) (by omega) (Nat.zero_le _) ?_; intro v5 w5 hown5 hg5 hat5; obtain ⟨A5, c5, rfl⟩ := own_shape hown5; have Z5 := Lib.hid (Below.grown HB4.out hg5 HB4.out.size HL4.out)))
                all_goals
                  have O5 := Lib.hid (H3.out.1.below Z5.out)
                  have HLN5 : Hid (nh + 1 = (H ++ [(a, dd)]).length) := by have := HNH.out; simp only [Hid, List.length_append]; simp at this ⊢; omega
                  have I5 : Hid (Its w5 A5 (nh + 1) c5 (H ++ [(a, dd)])) := ⟨HLN5.out, by rw [List.flatMap_append]; rw [List.nil_append] at hown5; simpa using hown5⟩
                  clear hown5 hg5 hat5
                  go_wp2_with fail
                  refine (len_e _ (nh + 1) HLN5.out _ _ w5 O5.out).mono ?_; rintro e X9 ⟨rfl, rfl⟩
                  go_wp2_with fail
                  go_roundw
                  case rel => exact ⟨i + 1, A5, nh + 1, c5, by omega, by go_num, rfl, H ++ [(a, dd)], by rw [← HLN5.out]; omega, O5.out, (T3.out.trans H3.out.2.1).trans (Z5.out.mono (Nat.le_of_lt H3.out.1.len)), I5.out⟩
                  case measure => simp [intOf]; omega
            · have f1 : ((z : Int) == 1) = false := by simpa using z1
              have F1 := Lib.hid z1
              clear z1
              by_cases z2 : z = 2
              · subst z2
                as_aux_lemma =>
                  have hwb := heap_alloc_new Y (.cells #[.int .i64 x1, .int .i64 x2] 35)
                  have T2 := Lib.hid (own_alloc S2.out (.cells #[.int .i64 x1, .int .i64 x2] 35))
                  have HZ : Hid (Below Y.heap.size Y (Y.alloc (.cells #[.int .i64 x1, .int .i64 x2] 35))) := (Below.refl _ _).alloc (Nat.le_refl _) _
                  have T3 := Lib.hid (S3.out.trans (HZ.out.mono S3.out.size))
                  have T4 := Lib.hid (S4.out.below HZ.out)
                  have HWB := Lib.hid hwb
                  have TB := Lib.hid ((HZ.out.block wr.heap.size HSY.out).trans SB.out)
                  clear hwb
                  go_wp2_with fail
                  refine (pop_o _ _ H (H.take k ++ H.drop (k + 1)) (x1, x2) _ T2.out HBEST.out HPRM.out).mono ?_; rintro e X3 ⟨rfl, hx⟩
                  have H3 := Lib.hid hx
                  have hw := hx.2.2 _ _ HWB.out (by have := HPL.out; have := HSY.out; omega) (by intro cs; simp)
                  have w0_ : X3.cell? ⟨Y.heap.size, 0, none⟩ = some (.int .i64 x1) := cell_of_row X3 _ 0 _ _ _ hw
                  have w1_ : X3.cell? ⟨Y.heap.size, 1, none⟩ = some (.int .i64 x2) := cell_of_row X3 _ 1 _ _ _ hw
                  clear hx hw
                  have U4 := Lib.hid (T4.out.kept T2.out H3.out.2)
                  have SRC1 := Lib.hid (its_take U4.out (show k ≤ nh by omega))
                  have SRC2 := Lib.hid (its_drop U4.out (show k + 1 ≤ nh by omega))
                  have hcap := its_cap U4.out
                  have kc1 : (k : Int) ≤ (ch : Int) := by omega
                  have kc2 : (k : Int) + 1 ≤ (nh : Int) := by omega
                  have kc3 : (k : Int) + 1 ≤ (ch : Int) := by omega
                  have kc4 : ((k : Int) + 1).toNat = k + 1 := by omega
                  have kc5 : (nh : Int) ≤ (ch : Int) := by omega
                  have kc6 : (0 : Int) ≤ (k : Int) + 1 := by omega
                  have kc7 : (k : Int) ≤ (k : Int) + 1 := by omega
                  have kc8 : IntKind.i64.wrap ((k : Int) + 1) = (k : Int) + 1 := IntWalk.i64_in _ (by omega)
                  have HLN : Hid (k + (nh - (k + 1)) = (H.take k ++ H.drop (k + 1)).length) := by
                    have := HNH.out
                    simp only [Hid, List.length_append, List.length_take, List.length_drop]
                    omega
                  by_cases hce : ch = k + 1
                  · as_aux_lemma =>
                      subst hce
                      have ED : Hid (H.drop (k + 1) = []) := List.drop_eq_nil_of_le (by have := HNH.out; omega)
                      clear SRC2
                      go_wp2_with fail
                      go_region_law (first
                        | (refine step_append_src _ (by rfl) (.const (.slice none 0 0)) (.tmp 108) 30 (by rfl) 35 i0 (.agg #[.int .i64 0, .int .i64 0]) 2 16 Tryz.underlying30 hi0 hz0 hz1 hz2 rfl (by decide) 0 (.slice none 0 0) 0 [] (by rfl) (World.ownsRow_nil _ _ _ _) (some ⟨g, 0, none⟩) k (k + 1) ((H.take k).flatMap pc) (by rfl) SRC1.out (its_ones _) (by unfold maxLen; omega) (by omega) (Nat.zero_le _) ?_; intro v4 w4 hown4 hg4 hat4; rw [Nat.zero_add] at hown4; obtain ⟨A4, c4, rfl⟩ := own_shape hown4)
                        | (refine step_append_src _ (by rfl) (.tmp 109) (.tmp 113) 30 (by rfl) 35 i0 (.agg #[.int .i64 0, .int .i64 0]) 2 16 Tryz.underlying30 hi0 hz0 hz1 hz2 rfl (by decide) 0 (.slice A4 k c4) k ([] ++ (H.take k).flatMap pc) (by rfl) hown4 (some ⟨g, 0, none⟩) 0 0 [] (by rfl) ⟨rfl, fun h => absurd h (Nat.lt_irrefl 0)⟩ (by intro u hu; cases hu) (by unfold maxLen; omega) (by omega) (Nat.zero_le _) ?_; intro v5 w5 hown5 hg5 hat5; rw [Nat.add_zero, List.append_nil] at hown5; obtain ⟨A5, c5, rfl⟩ := own_shape hown5))
                      have hbd : Below X3.heap.size X3 X3.drew := ⟨rfl, rfl, rfl, Nat.le_refl _, fun _ _ => rfl⟩
                      have hb4 : Below X3.heap.size X3 w4 := Below.grown hbd hg4 (Nat.le_refl _) (fun j hj => by cases hj)
                      have hb5 : Below X3.heap.size X3 w5 := Below.grown hb4 hg5 hb4.size (fun j hj => by
                        rcases hat4 with e | e
                        · rw [e] at hj; cases hj
                        · rw [e] at hj; injection hj with hj; rw [← hj]; exact Nat.le_refl _)
                      have Z5 := Lib.hid hb5
                      have O5 := Lib.hid (H3.out.1.below hb5)
                      have HLN5 : Hid (k = (H.take k ++ H.drop (k + 1)).length) := by have h3 := HLN.out; simp only [Hid]; omega
                      have I5 : Hid (Its w5 A5 k c5 (H.take k ++ H.drop (k + 1))) := ⟨HLN5.out, by rw [ED.out, List.append_nil]; simpa using hown5⟩
                      clear hbd hb4 hb5 hown4 hg4 hat4 hown5 hg5 hat5
                      have hle : k ≤ i := by omega
                      clear ED
                      go_wp2_with fail
                      refine (len_e _ k HLN5.out _ _ w5 O5.out).mono ?_; rintro e X9 ⟨rfl, rfl⟩
                      go_wp2_with fail
                      go_roundw
                      case rel => exact ⟨i + 1, A5, k, c5, by omega, by go_num, rfl, H.take k ++ H.drop (k + 1), by rw [← HLN5.out]; omega, O5.out, (T3.out.trans H3.out.2.1).trans (Z5.out.mono (Nat.le_of_lt H3.out.1.len)), I5.out⟩
                      case measure => simp [intOf]; omega
                  · as_aux_lemma =>
                      have hce2 : k + 1 < ch := by omega
                      go_wp2_with fail
                      go_region_law (first
                        | (refine step_append_src _ (by rfl) (.const (.slice none 0 0)) (.tmp 108) 30 (by rfl) 35 i0 (.agg #[.int .i64 0, .int .i64 0]) 2 16 Tryz.underlying30 hi0 hz0 hz1 hz2 rfl (by decide) 0 (.slice none 0 0) 0 [] (by rfl) (World.ownsRow_nil _ _ _ _) (some ⟨g, 0, none⟩) k ch ((H.take k).flatMap pc) (by rfl) SRC1.out (its_ones _) (by unfold maxLen; omega) (by omega) (Nat.zero_le _) ?_; intro v4 w4 hown4 hg4 hat4; rw [Nat.zero_add] at hown4; obtain ⟨A4, c4, rfl⟩ := own_shape hown4)
                        | (refine step_append_src _ (by rfl) (.tmp 109) (.tmp 113) 30 (by rfl) 35 i0 (.agg #[.int .i64 0, .int .i64 0]) 2 16 Tryz.underlying30 hi0 hz0 hz1 hz2 rfl (by decide) 0 (.slice A4 k c4) k ([] ++ (H.take k).flatMap pc) (by rfl) hown4 (some ⟨g, (k + 1) * 2, none⟩) (nh - (k + 1)) (ch - (k + 1)) ((H.drop (k + 1)).flatMap pc) (by rfl) (src_none hg4 SRC2.out) (its_ones _) (by unfold maxLen; omega) (by omega) (Nat.zero_le _) ?_; intro v5 w5 hown5 hg5 hat5; obtain ⟨A5, c5, rfl⟩ := own_shape hown5))
                      have hbd : Below X3.heap.size X3 X3.drew := ⟨rfl, rfl, rfl, Nat.le_refl _, fun _ _ => rfl⟩
                      have hb4 : Below X3.heap.size X3 w4 := Below.grown hbd hg4 (Nat.le_refl _) (fun j hj => by cases hj)
                      have hb5 : Below X3.heap.size X3 w5 := Below.grown hb4 hg5 hb4.size (fun j hj => by
                        rcases hat4 with e | e
                        · rw [e] at hj; cases hj
                        · rw [e] at hj; injection hj with hj; rw [← hj]; exact Nat.le_refl _)
                      have Z5 := Lib.hid hb5
                      have O5 := Lib.hid (H3.out.1.below hb5)
                      have I5 : Hid (Its w5 A5 (k + (nh - (k + 1))) c5 (H.take k ++ H.drop (k + 1))) := ⟨HLN.out, by rw [List.flatMap_append]; rw [List.nil_append] at hown5; exact hown5⟩
                      clear hbd hb4 hb5 hown4 hg4 hat4 hown5 hg5 hat5
                      have hle : k + (nh - (k + 1)) ≤ i := by omega
                      generalize k + (nh - (k + 1)) = n2 at *
                      go_wp2_with fail
                      refine (len_e _ n2 HLN.out _ _ w5 O5.out).mono ?_; rintro e X9 ⟨rfl, rfl⟩
                      go_wp2_with fail
                      go_roundw
                      case rel => exact ⟨i + 1, A5, n2, c5, by omega, by go_num, rfl, H.take k ++ H.drop (k + 1), by rw [← HLN.out]; omega, O5.out, (T3.out.trans H3.out.2.1).trans (Z5.out.mono (Nat.le_of_lt H3.out.1.len)), I5.out⟩
                      case measure => simp [intOf]; omega
              · have f2 : ((z : Int) == 2) = false := by simpa using z2
                have F2 := Lib.hid z2
                clear z2
                by_cases z3 : z = 3
                · subst z3
                  as_aux_lemma =>
                    have hwb := heap_alloc_new Y (.cells #[.int .i64 x1, .int .i64 x2] 35)
                    have T2 := Lib.hid (own_alloc S2.out (.cells #[.int .i64 x1, .int .i64 x2] 35))
                    have HZ : Hid (Below Y.heap.size Y (Y.alloc (.cells #[.int .i64 x1, .int .i64 x2] 35))) := (Below.refl _ _).alloc (Nat.le_refl _) _
                    have T3 := Lib.hid (S3.out.trans (HZ.out.mono S3.out.size))
                    have T4 := Lib.hid (S4.out.below HZ.out)
                    have HWB := Lib.hid hwb
                    have TB := Lib.hid ((HZ.out.block wr.heap.size HSY.out).trans SB.out)
                    clear hwb
                    go_wp2_with fail
                    refine (peek_o _ _ H (x1, x2) _ T2.out HBEST.out).mono ?_; rintro e X3 ⟨rfl, hx⟩
                    have H3 := Lib.hid hx
                    have hw := hx.2.2 _ _ HWB.out (by have := HPL.out; have := HSY.out; omega) (by intro cs; simp)
                    have w0_ : X3.cell? ⟨Y.heap.size, 0, none⟩ = some (.int .i64 x1) := cell_of_row X3 _ 0 _ _ _ hw
                    have w1_ : X3.cell? ⟨Y.heap.size, 1, none⟩ = some (.int .i64 x2) := cell_of_row X3 _ 1 _ _ _ hw
                    clear hx hw
                    go_wp2_with fail
                    refine (len_e H nh HNH.out _ _ X3 H3.out.1).mono ?_; rintro e X9 ⟨rfl, rfl⟩
                    go_wp2_with fail
                    go_roundw
                    case rel => exact ⟨i + 1, (some ⟨g, 0, none⟩), nh, ch, by omega, by go_num, rfl, H, by have := HNH.out; omega, H3.out.1, T3.out.trans H3.out.2.1, T4.out.kept T2.out H3.out.2⟩
                    case measure => simp [intOf]; omega
                · have f3 : ((z : Int) == 3) = false := by simpa using z3
                  have F3 := Lib.hid z3
                  clear z3
                  by_cases z4 : z = 4
                  · subst z4
                    as_aux_lemma =>
                      have hwb := heap_alloc_new Y (.cells #[.int .i64 x1, .int .i64 x2] 35)
                      have T2 := Lib.hid (own_alloc S2.out (.cells #[.int .i64 x1, .int .i64 x2] 35))
                      have HZ : Hid (Below Y.heap.size Y (Y.alloc (.cells #[.int .i64 x1, .int .i64 x2] 35))) := (Below.refl _ _).alloc (Nat.le_refl _) _
                      have T3 := Lib.hid (S3.out.trans (HZ.out.mono S3.out.size))
                      have T4 := Lib.hid (S4.out.below HZ.out)
                      have HWB := Lib.hid hwb
                      have TB := Lib.hid ((HZ.out.block wr.heap.size HSY.out).trans SB.out)
                      clear hwb
                      go_wp2_with fail
                      have hv0 : Y.heap.size < (Y.alloc (.cells #[.int .i64 x1, .int .i64 x2] 35)).heap.size := by rw [World.size_alloc]; omega
                      generalize hV : Y.alloc (.cells #[.int .i64 x1, .int .i64 x2] 35) = V at *
                      have hov : wr.heap.size < V.heap.size := by have := HSY.out; omega
                      clear hV
                      generalize hob : wr.heap.size = ob at *
                      have HOV := Lib.hid hov
                      clear hob hov hv0
                      go_loopw [17, 143] (fun r x wr2 => ∃ (j : Nat) (Ar : Option Addr) (nr cr : Nat), j ≤ nh ∧ x = .int .i64 j ∧ r = .slice Ar nr cr ∧ Hid (nr = ((H.take j).filter (fun x : Pr => !(x.2 == dd))).length ∧ wr2.ownsRow V.heap.size 35 2 (.slice Ar nr cr) nr (((H.take j).filter (fun x : Pr => !(x.2 == dd))).flatMap pc) ∧ Below V.heap.size V wr2)) (fun _ x _ => nh - (intOf x).toNat)
                      case atStart => exact ⟨0, none, 0, 0, Nat.zero_le _, rfl, rfl, rfl, World.ownsRow_nil _ _ _ _, Below.refl _ _⟩
                      case round =>
                        obtain ⟨j, Ar, nr, cr, hj, rfl, rfl, hq⟩ := hrel
                        have G4 := Lib.hid (T4.out.below hq.out.2.2)
                        have GB := Lib.hid ((hq.out.2.2.block ob HOV.out).trans TB.out)
                        have o2_ : wr.cell? ⟨ob, 2, none⟩ = some (.int .i64 dd) := cell_of_row wr _ 2 _ _ _ GB.out
                        have o3_ : ∀ o', (wr.alloc o').cell? ⟨ob, 2, none⟩ = some (.int .i64 dd) := fun o' => Lib.cell?_alloc_some o' o2_
                        by_cases hlt : j < nh
                        · obtain ⟨g', eg, c0, c1⟩ := G4.out.at (i := j) hlt
                          simp only [Option.some.injEq, Addr.mk.injEq, and_true] at eg
                          subst eg
                          have b1 : (0 : Int) ≤ (j : Int) := by omega
                          have b2 : (j : Int) < (nh : Int) := by omega
                          have hts : (H.take (j + 1)) = H.take j ++ [H.getD j p0] := take_more H j (by rw [← HNH.out]; exact hlt)
                          have HTS := Lib.hid hts
                          clear hts
                          generalize H.getD j p0 = y at *
                          obtain ⟨yy1, yy2⟩ := y
                          simp only at c0 c1
                          by_cases hd : yy2 = dd
                          · subst hd
                            have e1 : (H.take (j + 1)).filter (fun x : Pr => !(x.2 == yy2)) = (H.take j).filter (fun x : Pr => !(x.2 == yy2)) := by rw [HTS.out]; simp
                            have E1 := Lib.hid e1
                            clear e1
                            go_wp2_with fail
                            go_roundw
                            case rel => exact ⟨j + 1, Ar, nr, cr, by omega, by go_num, rfl, by rw [E1.out]; exact ⟨hq.out.1, hq.out.2.1.alloc _, hq.out.2.2.alloc hq.out.2.2.size _⟩⟩
                            case measure => simp [intOf]; omega
                          · have hd2 : ((yy2 : Int) == dd) = false := by simpa using hd
                            have HD := Lib.hid hd
                            clear hd
                            have e2 : (H.take (j + 1)).filter (fun x : Pr => !(x.2 == dd)) = (H.take j).filter (fun x : Pr => !(x.2 == dd)) ++ [(yy1, yy2)] := by
                              have h3 : (!(yy2 == dd)) = true := by simpa using HD.out
                              rw [HTS.out, List.filter_append]
                              simp [List.filter, h3]
                            have E2 := Lib.hid e2
                            have hnr : nr ≤ j := by
                              have h3 := hq.out.1
                              have h4 := List.length_filter_le (fun x : Pr => !(x.2 == dd)) (H.take j)
                              have h5 := List.length_take_le j H
                              omega
                            have HR := Lib.hid ((hq.out.2.1.alloc (.cells #[.int .i64 yy1, .int .i64 yy2] 35)).alloc (.cells #[.int .i64 yy1, .int .i64 yy2] 35))
                            have HB := Lib.hid ((hq.out.2.2.alloc hq.out.2.2.size (.cells #[.int .i64 yy1, .int .i64 yy2] 35)).alloc (hq.out.2.2.alloc hq.out.2.2.size _).size (.cells #[.int .i64 yy1, .int .i64 yy2] 35))
                            have hsp := src_pair (wr.alloc (.cells #[.int .i64 yy1, .int .i64 yy2] 35)) yy1 yy2 35
                            rw [World.size_alloc] at hsp
                            have HSP := Lib.hid hsp
                            have HQ1 := Lib.hid hq.out.1
                            have HQL := Lib.hid (fun g hg => (hq.out.2.1.lt g hg).1)
                            clear e2 hsp hq
                            go_wp2_with (at_builtin; refine wpList_append_src _ rfl (.tmp 152) (.tmp 154) 30 rfl 35 i0 (.agg #[.int .i64 0, .int .i64 0]) 2 16 Tryz.underlying30 hi0 hz0 hz1 hz2 rfl (by decide) V.heap.size (.slice Ar nr cr) nr (((H.take j).filter (fun x : Pr => !(x.2 == dd))).flatMap pc) rfl HR.out (some ⟨wr.heap.size + 1, 0, none⟩) 1 1 (pc (yy1, yy2)) (by first | rfl | (simp [World.size_alloc]; done)) HSP.out (its_ones [(yy1, yy2)]) (by unfold maxLen; omega) (by omega) HB.out.size ?_; intro v5 w5 hown5 hg5 hat5; obtain ⟨A5, c5, rfl⟩ := own_shape hown5)
                            have hb5 := Below.grown HB.out hg5 HB.out.size HQL.out
                            go_roundw
                            case rel => exact ⟨j + 1, A5, nr + 1, c5, by omega, by go_num, rfl, by
                              rw [E2.out, List.flatMap_append, List.length_append, ← HQ1.out]
                              exact ⟨rfl, by simpa using hown5, hb5⟩⟩
                            case measure => simp [intOf]; omega
                        · obtain rfl : j = nh := by omega
                          have htk : H.take j = H := List.take_of_length_le (by rw [← HNH.out]; exact Nat.le_refl _)
                          obtain ⟨hnr, hr, hb⟩ := hq.out
                          rw [htk] at hnr hr
                          have HB := Lib.hid hb
                          have ON := Lib.hid (T2.out.below hb)
                          have HNR := Lib.hid hnr
                          have IR : Hid (Its wr Ar nr cr (H.filter (fun x : Pr => !(x.2 == dd)))) := ⟨hnr, own_base hr⟩
                          have hnn : nr ≤ j := by
                            have h4 := List.length_filter_le (fun x : Pr => !(x.2 == dd)) H
                            have h5 := HNH.out
                            omega
                          have hdr := drop_o _ _ H dd wr ON.out
                          rw [← HNH.out, ← hnr] at hdr
                          have HDR := Lib.hid hdr
                          clear hdr hnr hr hb hq htk
                          have hs1 : IntKind.i64.wrap ((j : Int) - (nr : Int)) = (j : Int) - (nr : Int) := IntWalk.i64_in _ (by omega)
                          go_wp2_with fail
                          refine HDR.out.mono ?_; rintro e X3 ⟨rfl, hx⟩
                          have H3 := Lib.hid hx
                          clear hx
                          go_wp2_with fail
                          refine (len_e _ nr HNR.out _ _ X3 H3.out.1).mono ?_; rintro e X9 ⟨rfl, rfl⟩
                          go_wp2_with fail
                          go_roundw
                          case rel => exact ⟨i + 1, Ar, nr, cr, by omega, by go_num, rfl, H.filter (fun x : Pr => !(x.2 == dd)), by rw [← HNR.out]; omega, H3.out.1, (T3.out.trans (HB.out.mono (Nat.le_of_lt T2.out.len))).trans H3.out.2.1, IR.out.kept ON.out H3.out.2⟩
                          case measure => simp [intOf]; omega
                  · have f4 : ((z : Int) == 4) = false := by simpa using z4
                    have F4 := Lib.hid z4
                    clear z4
                    as_aux_lemma =>
                      have hwb := heap_alloc_new Y (.cells #[.int .i64 x1, .int .i64 x2] 35)
                      have T2 := Lib.hid (own_alloc S2.out (.cells #[.int .i64 x1, .int .i64 x2] 35))
                      have HZ : Hid (Below Y.heap.size Y (Y.alloc (.cells #[.int .i64 x1, .int .i64 x2] 35))) := (Below.refl _ _).alloc (Nat.le_refl _) _
                      have T3 := Lib.hid (S3.out.trans (HZ.out.mono S3.out.size))
                      have T4 := Lib.hid (S4.out.below HZ.out)
                      have HWB := Lib.hid hwb
                      have TB := Lib.hid ((HZ.out.block wr.heap.size HSY.out).trans SB.out)
                      clear hwb
                      go_wp2_with fail
                      refine (len_e H nh HNH.out _ _ _ T2.out).mono ?_; rintro e X9 ⟨rfl, rfl⟩
                      go_wp2_with fail
                      go_roundw
                      case rel => exact ⟨i + 1, (some ⟨g, 0, none⟩), nh, ch, by omega, by go_num, rfl, H, by have := HNH.out; omega, T2.out, T3.out, T4.out⟩
                      case measure => simp [intOf]; omega
        · obtain rfl : i = n := by omega
          as_aux_lemma =>
            have hsw : Below w.heap.size w wr := B1.out.trans (Q3.out.mono B1.out.size)
            have HSW := Lib.hid hsw
            have HLW := Lib.hid (lent_walk B m d s wr (HI.out.below hsw).nums (by omega))
            clear hsw Q2 Q3 Q4 HNH HPL hnh hin HL HO
            go_wp2_with fail
            refine HLW.out.mono ?_; rintro e wm ⟨g, cm, rfl, hlent, hge, hbm⟩
            have L1 := Lib.hid hlent
            have HMS : Hid (m = s.length) := hlent.1
            have M1 := Lib.hid (HSW.out.trans (hbm.mono HSW.out.size))
            have HMW := Lib.hid M1.out.size
            clear hlent hge hbm HLW
            have hbk := heap_alloc_new wm (.cells #[.slice none 0 0, .slice none 0 0, .slice none 0 0, .slice none 0 0, .slice none 0 0, .slice none 0 0, .slice none 0 0, .slice none 0 0, .slice none 0 0, .slice none 0 0, .slice none 0 0, .slice none 0 0, .slice none 0 0, .slice none 0 0, .slice none 0 0, .slice none 0 0, .slice none 0 0, .slice none 0 0] 53)
            have hal : Below wm.heap.size wm (wm.alloc (.cells #[.slice none 0 0, .slice none 0 0, .slice none 0 0, .slice none 0 0, .slice none 0 0, .slice none 0 0, .slice none 0 0, .slice none 0 0, .slice none 0 0, .slice none 0 0, .slice none 0 0, .slice none 0 0, .slice none 0 0, .slice none 0 0, .slice none 0 0, .slice none 0 0, .slice none 0 0, .slice none 0 0] 53)) := (Below.refl _ _).alloc (Nat.le_refl _) _
            have hvs : (wm.alloc (.cells #[.slice none 0 0, .slice none 0 0, .slice none 0 0, .slice none 0 0, .slice none 0 0, .slice none 0 0, .slice none 0 0, .slice none 0 0, .slice none 0 0, .slice none 0 0, .slice none 0 0, .slice none 0 0, .slice none 0 0, .slice none 0 0, .slice none 0 0, .slice none 0 0, .slice none 0 0, .slice none 0 0] 53)).heap.size = wm.heap.size + 1 := World.size_alloc _ _
            go_wp2_with fail
            generalize hV : wm.alloc (.cells #[.slice none 0 0, .slice none 0 0, .slice none 0 0, .slice none 0 0, .slice none 0 0, .slice none 0 0, .slice none 0 0, .slice none 0 0, .slice none 0 0, .slice none 0 0, .slice none 0 0, .slice none 0 0, .slice none 0 0, .slice none 0 0, .slice none 0 0, .slice none 0 0, .slice none 0 0, .slice none 0 0] 53) = V at *
            clear hV
            have BK1 : Hid (Book wm.heap.size V wm.heap.size [] [] [] []) := Book.new (Nat.le_refl _) hbk
            have L2 := Lib.hid (L1.out.keep (hal.block g L1.out.lt))
            have M2 := Lib.hid (M1.out.trans (hal.mono M1.out.size))
            have HVS := Lib.hid hvs
            have HGL := Lib.hid (show g < wm.heap.size from L1.out.lt)
            clear hbk hal hvs L1 M1
            have HS1 := Lib.hid (sorted_walk (some ⟨g, 0, none⟩) m cm s (by have := HMS.out; omega) V L2.out.row.nums)
            refine HS1.out.mono ?_; rintro e Va ⟨Aa, na, ca, rfl, hna, ha, hia, hba⟩
            obtain rfl : m = na := by have := HMS.out; omega
            have SA := Lib.hid ha
            have BA := Lib.hid hba
            have L3 := Lib.hid (L2.out.keep (hba.block g L2.out.lt))
            have M3 := Lib.hid (M2.out.trans (hba.mono M2.out.size))
            have BK2 := Lib.hid (book_below BK1.out hba)
            clear ha hia hba HS1 L2 M2 BK1 hna
            have HS2 := Lib.hid (sorted_walk (some ⟨g, 0, none⟩) m cm s (by have := HMS.out; omega) Va L3.out.row.nums)
            go_wp2_with fail
            refine HS2.out.mono ?_; rintro e Vb ⟨Ab, nb, cb, rfl, hnb, hb', hib, hbb⟩
            obtain rfl : m = nb := by have := HMS.out; omega
            have RA : Hid (Row Vb Aa m ca (desc s)) := Row.below ⟨by rw [(desc_perm s).length_eq]; exact HMS.out, own_base SA.out⟩ hbb
            have RB : Hid (Row Vb Ab m cb (desc s)) := ⟨by rw [(desc_perm s).length_eq]; exact HMS.out, own_base hb'⟩
            have OA : Hid (∀ q, (⟨Aa, m, ca⟩ : E).own = some q → wm.heap.size ≤ q ∧ q < Va.heap.size) := fun q hq => by
              have := SA.out.lt q hq
              have := HVS.out
              omega
            have OB : Hid (∀ q, (⟨Ab, m, cb⟩ : E).own = some q → Va.heap.size ≤ q ∧ q < Vb.heap.size) := fun q hq => hb'.lt q hq
            have HVV : Hid (V.heap.size ≤ Va.heap.size ∧ Va.heap.size ≤ Vb.heap.size) := ⟨BA.out.size, hbb.size⟩
            have L4 := Lib.hid (L3.out.keep (hbb.block g L3.out.lt))
            have M4 := Lib.hid (M3.out.trans (hbb.mono M3.out.size))
            have BK3 := Lib.hid (book_below BK2.out hbb)
            clear hb' hib hbb hnb HS2 L3 M3 BK2 SA BA
            have HCV : Hid (wm.heap.size ≤ Vb.heap.size) := by have h1 := HVV.out; have h2 := HVS.out; simp only [Hid]; omega
            have HAD := Lib.hid (add_walk wm.heap.size wm.heap.size [] [] [] [] Aa m ca (desc s) Vb BK3.out HCV.out RA.out (by omega) (by simp) (by simp) (by simp))
            go_wp2_with fail
            refine HAD.out.mono ?_; rintro e Vc ⟨rfl, fa, hbk, hkb, hfa⟩
            have BK4 := Lib.hid hbk
            obtain ⟨cs3, hc3⟩ := book_cell BK3.out
            have RB2 := Lib.hid (hkb.row RB.out hc3)
            have RA2 := Lib.hid (hkb.row RA.out hc3)
            have L5 := Lib.hid (lent_keptB L4.out hkb (by have := HGL.out; omega))
            have M5 := Lib.hid (M4.out.trans (hkb.1.mono HMW.out))
            have HCW := Lib.hid (Nat.le_trans HCV.out hkb.1.size)
            have HFAR : Hid (∀ x ∈ ([] ++ [(⟨Aa, m, ca⟩ : E)]) ++ ([] ++ [fa]), FarR x ⟨Ab, m, cb⟩) := by
              intro x hx q hq hq2
              have h1 := OB.out q hq2
              simp only [List.nil_append, List.cons_append, List.mem_cons, List.not_mem_nil, or_false] at hx
              rcases hx with hx | hx
              · rw [hx] at hq; have := OA.out q hq; omega
              · rw [hx] at hq; have := hfa q hq; omega
            clear hbk hkb hfa hc3 HAD L4 M4 RA RB BK3
            have HAD2 := Lib.hid (add_walk wm.heap.size wm.heap.size _ _ _ _ Ab m cb (desc s) Vc BK4.out HCW.out RB2.out (by omega) (by simp) (by simp) HFAR.out)
            go_wp2_with fail
            refine HAD2.out.mono ?_; rintro e Vd ⟨rfl, fb, hbk, hkb, hfb⟩
            have BK5 := Lib.hid hbk
            obtain ⟨cs4, hc4⟩ := book_cell BK4.out
            have RA3 := Lib.hid (hkb.row RA2.out hc4)
            have L6 := Lib.hid (lent_keptB L5.out hkb (by have := HGL.out; omega))
            have M6 := Lib.hid (M5.out.trans (hkb.1.mono HMW.out))
            have HCX := Lib.hid (Nat.le_trans HCW.out hkb.1.size)
            have HES : Hid (∀ x ∈ ([] ++ [(⟨Aa, m, ca⟩ : E)]) ++ [(⟨Ab, m, cb⟩ : E)], ∀ q, x.own = some q → wm.heap.size ≤ q) := by
              intro x hx q hq
              simp only [List.nil_append, List.cons_append, List.mem_cons, List.not_mem_nil, or_false] at hx
              rcases hx with hx | hx
              · rw [hx] at hq; exact (OA.out q hq).1
              · rw [hx] at hq; have h1 := OB.out q hq; have h2 := HVV.out; have h3 := HVS.out; omega
            clear hbk hkb hfb hc4 HAD2 L5 M5 RA2 RB2 BK4 HFAR
            go_wp2_with fail
            refine (push_nil 1 1 Vd).mono ?_; rintro e X1 ⟨rfl, rfl⟩
            go_wp2_with fail
            refine (pop_nil _).mono ?_; rintro e X1 ⟨rfl, rfl⟩
            go_wp2_with fail
            refine (peek_nil _).mono ?_; rintro e X1 ⟨rfl, rfl⟩
            go_wp2_with fail
            have HRS := Lib.hid (ref_sorted B m d s Vd (HI.out.below M6.out).nums (by omega))
            refine HRS.out.mono ?_; rintro e Ve ⟨A2, c2, rfl, hr, hbe⟩
            have R2 : Hid (Row Ve A2 m c2 (desc s)) := ⟨by rw [(desc_perm s).length_eq]; exact HMS.out, own_base hr⟩
            have RA4 := Lib.hid (RA3.out.below hbe)
            have L7 := Lib.hid (L6.out.keep (hbe.block g L6.out.lt))
            have M7 := Lib.hid (M6.out.trans (hbe.mono M6.out.size))
            have BK6 := Lib.hid (book_below BK5.out hbe)
            have HCY := Lib.hid (Nat.le_trans HCX.out hbe.size)
            clear hr hbe HRS L6 M6 BK5 RA3
            go_wp2_with fail
            refine (same_walk Ve.heap.size Aa A2 m ca c2 (desc s) Ve (by omega) RA4.out.nums R2.out.nums).mono ?_; rintro e Vf ⟨rfl, hq⟩
            have hbf : Below Ve.heap.size Ve Vf := by
              obtain ⟨q, hq⟩ := hq
              rw [hq]
              exact ⟨rfl, rfl, rfl, Nat.le_refl _, fun _ _ => rfl⟩
            have L8 := Lib.hid (L7.out.keep (hbf.block g L7.out.lt))
            have M8 := Lib.hid (M7.out.trans (hbf.mono M7.out.size))
            have BK7 := Lib.hid (book_below BK6.out hbf)
            have HCZ := Lib.hid (Nat.le_trans HCY.out hbf.size)
            clear hq hbf L7 M7 BK6 RA4 R2
            go_wp2_with fail
            refine (stays_walk g m cm B d s Vf L8.out (HI.out.below M8.out).nums (by omega)).mono ?_; rintro e Vg ⟨rfl, hq⟩
            have hbg : Below Vf.heap.size Vf Vg := by
              obtain ⟨q, hq⟩ := hq
              rw [hq]
              exact ⟨rfl, rfl, rfl, Nat.le_refl _, fun _ _ => rfl⟩
            have M9 := Lib.hid (M8.out.trans (hbg.mono M8.out.size))
            have BK8 := Lib.hid (book_below BK7.out hbg)
            have HCA := Lib.hid (Nat.le_trans HCZ.out hbg.size)
            clear hq hbg L8 M8 BK7
            go_wp2_with fail
            refine (len_nil Vg).mono ?_; rintro e X1 ⟨rfl, rfl⟩
            go_wp2_with fail
            refine (drop_nil 1 Vg).mono ?_; rintro e Vh ⟨rfl, hbh⟩
            have M10 := Lib.hid (M9.out.trans (hbh.mono M9.out.size))
            have BK9 := Lib.hid (book_below BK8.out hbh)
            have HCB := Lib.hid (Nat.le_trans HCA.out hbh.size)
            clear hbh M9 BK8
            have HSZ2 : Hid (∀ i, i < (([] : List E) ++ [(⟨Aa, m, ca⟩ : E)] ++ [(⟨Ab, m, cb⟩ : E)]).length → ((([] : List E) ++ [(⟨Aa, m, ca⟩ : E)] ++ [(⟨Ab, m, cb⟩ : E)]).getD i e0).n ≤ 90000) := by
              intro i hi
              have h3 : i = 0 ∨ i = 1 := by simp at hi; omega
              rcases h3 with rfl | rfl
              · show m ≤ 90000; omega
              · show m ≤ 90000; omega
            go_wp2_with fail
            refine (apart_walk wm.heap.size wm.heap.size _ _ _ Vh BK9.out HCB.out HES.out (by simp) HSZ2.out).mono ?_; rintro e Vi ⟨rfl, hbi⟩
            have M11 := Lib.hid (M10.out.trans (hbi.mono HMW.out))
            clear hbi
            go_wp2_with fail
            go_ret
            exact ⟨rfl, M11.out⟩
    · have n2 : 60 < m := by omega
      go_enter Tryz.func3, Tryz.ntmps3
      go_wp2_with fail
      refine (alive_yes _).mono ?_; rintro e w1 ⟨rfl, hb1⟩
      have B1 := Lib.hid hb1
      clear hb1
      go_wp2_with fail
      go_ret
      exact ⟨rfl, B1.out⟩
  · have n1 : 150 < n := by omega
    go_enter Tryz.func3, Tryz.ntmps3
    go_wp2_with fail
    refine (alive_yes _).mono ?_; rintro e w1 ⟨rfl, hb1⟩
    have B1 := Lib.hid hb1
    clear hb1
    go_wp2_with fail
    go_ret
    exact ⟨rfl, B1.out⟩

/-! The row's step. -/
set_option maxRecDepth 100000 in
theorem lifted (os : Os) (started : os.Started) (H : Type) (enc : TypeId × Value → H) :
    ReturnsInHanded {} Tryz.checked os 3 .any (Rows.prioPlaysSpec.pre6 enc Tryz.prog Tryz.f3 Rows.prioPlaysRow.domain false) (Rows.prioPlaysSpec.post enc Tryz.prog Tryz.f3 false true false false) := by
  refine returnsInHanded_of_change (C := Tryz.checked) own started (by kernel_rfl) Tryz.func3
    (ChangeSpec.witness6 (enc := enc) (C := Tryz.checked) false ⟨#[], #[.slice none 0 0, .slice none 0 0], []⟩ 8 (by kernel_rfl) (by kernel_rfl) (by kernel_rfl) (by kernel_rfl)) ?_
  intro W base args ds gs before hval0 hW hcnd _
  have hval : ∀ (j : Nat) t v, Tryz.f3.params[j]? = some t → args[j]? = some v → Value.okWide Tryz.prog W .any base t v := hval0
  have hW' := hW
  obtain ⟨p, q, hA0, hV, rfl, hfz, hnd⟩ := hW
  have hA : DataW.TrodAll enc Tryz.prog W 0 (fun _ => true) true Tryz.f3.params.toList args.toList ds p := hA0
  rw [Tryz.params3] at hA hval
  obtain ⟨v0, vs0, d0, ds0, p0, q0, hargs, rfl, rfl, h0, r0⟩ := trodAll_cons hA
  obtain ⟨v1, vs1, d1, ds1, p1, q1, rfl, rfl, rfl, h1, r1⟩ := trodAll_cons r0
  obtain ⟨rfl, rfl, rfl⟩ := trodAll_nil r1
  obtain rfl : args = #[v0, v1] := by cases args; simp_all
  obtain ⟨rfl, rfl⟩ := trodVars_none hV
  obtain ⟨A0, n0, c0, rfl⟩ := okWide_slice Tryz.underlying22 (hval 0 22 v0 rfl rfl)
  have k0 := h0
  have lt0 : ∀ x ∈ p0, x.block < W.heap.size := by obtain ⟨m, hm⟩ := k0; exact DataW.trod_lt m _ _ _ hm
  obtain ⟨l0, w0, e0, f0⟩ := (by obtain ⟨fuel, hf⟩ := h0; exact ops_read hf (fun _ => rfl) : ∃ l, Ops W A0 n0 l ∧ n0 ≤ c0 ∧ c0 ≤ maxLen)
  obtain ⟨A1, n1, c1, rfl⟩ := okWide_slice Tryz.underlying23 (hval 1 23 v1 rfl rfl)
  have k1 := h1
  have lt1 : ∀ x ∈ p1, x.block < W.heap.size := by obtain ⟨m, hm⟩ := k1; exact DataW.trod_lt m _ _ _ hm
  obtain ⟨l1, w1, e1, f1⟩ := (by obtain ⟨fuel, hf⟩ := h1; exact ints_read hf (fun _ => rfl) : ∃ l, Ints W A1 n1 l ∧ n1 ≤ c1 ∧ c1 ≤ maxLen)
  clear hA0 hval0
  refine (walk A0 n0 c0 l0 A1 n1 c1 l1 W w0 (Nat.le_trans e0 f0) w1 (Nat.le_trans e1 f1)).mono fun e W' ⟨he, bel⟩ => ?_
  subst he
  exact ⟨_, rfl, _, _, _, [], _, [], hW', trodAll_mk1 (shut_bool Tryz.underlying4 _), (trodAll_cons_mk (Below.trod laidOut (by kernel_rfl) (of_decide_eq_true (by kernel_rfl)) k0 bel lt0) (trodAll_cons_mk (Below.trod laidOut (by kernel_rfl) (of_decide_eq_true (by kernel_rfl)) k1 bel lt1) trodAll_mk0)), rfl, bel.frame _, fun h => by cases h⟩

theorem over : Rows.prioPlaysRow.holds Tryz.pinned (OpenSpec.ofChange Rows.prioPlaysSpec) :=
  OpenClaim.holds_of_wide 3 Tryz.f3 rfl rfl rfl rfl rfl rfl rfl ⟨rfl, rfl, rfl, rfl, rfl⟩ rfl rfl rfl rfl rfl (by kernel_rfl) Tryz.func3 (by kernel_rfl)
    (of_decide_eq_true (by kernel_rfl)) (by unfold Func.isWrapper; first | (rw [if_pos (by decide +kernel)]; kernel_rfl) | (rw [if_neg (by decide +kernel)]; exact ⟨rfl, rfl⟩))
    (fun os started H enc _ => lifted os started H enc)

/-- The statement. -/
theorem proved : Rows.PrioPlaysSaid := over
end Go.Proofs.YtfelhepdcnckhaaGreat.prioPlays
