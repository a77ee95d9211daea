/- The law's own first call 'alive' returns true; and the row's last step where nothing that existed has changed. -/
import Derived.Test.YtfggdcebeopidaaReaders
import Derived.ChangeSame
namespace Go.Proofs.Ytfggdcebeopidaa
open Go.ChangeShapes Go.WideShapes Go.ChangeAt Go.RowKit
set_option linter.unusedVariables false

theorem num_fits (C p : Nat) (v : Int) (l : List UInt8) (w : World) (h0 : 0 ≤ v) (h1 : v ≤ 65535) (hl : l.length ≤ 998000) (hw : Wr C w p l false) :
    Calls Try.prog 11 #[ptr p, .int .i64 v] w fun e w' => e = .returned (ptr p) ∧ Wrote C p w (l ++ w2 v) false w' := by
  have h := num_any C p v l false w (by omega) (by omega) hl hw
  rw [show after 65535 w2 l false v = (l ++ w2 v, false) by unfold after; rw [if_pos ⟨h0, h1⟩]; rfl] at h
  exact h
theorem long_fits (C p : Nat) (v : Int) (l : List UInt8) (w : World) (h0 : 0 ≤ v) (h1 : v ≤ 4294967295) (hl : l.length ≤ 998000) (hw : Wr C w p l false) :
    Calls Try.prog 13 #[ptr p, .int .i64 v] w fun e w' => e = .returned (ptr p) ∧ Wrote C p w (l ++ w4 v) false w' := by
  have h := long_any C p v l false w (by omega) (by omega) hl hw
  rw [show after 4294967295 w4 l false v = (l ++ w4 v, false) by unfold after; rw [if_pos ⟨h0, h1⟩]; rfl] at h
  exact h

set_option maxHeartbeats 800000 in
theorem alive_yes (w : World) : Calls Try.prog 10 #[] w fun e w' => e = .returned (.bool true) ∧ Below w.heap.size w w' := by
  go_enter Try.func10, Try.ntmps10
  go_wp2_with fail
  refine (num_fits w.heap.size _ 258 [] _ (by omega) (by omega) (by simp) (Wr.new _ w (by omega))).mono ?_; rintro e w1 ⟨rfl, hw1⟩
  have B1 := Lib.hid (((Below.refl w.heap.size w).alloc (Nat.le_refl _) (.cells #[.slice none 0 0, .bool false] 27)).trans (hw1.2.below (Nat.le_refl _)))
  have H1 := Lib.hid hw1.1
  clear hw1
  go_wp2_with fail
  refine (text_ok w.heap.size _ (str [97]) _ _ (by decide) (by simp [w2_length]) H1.out).mono ?_; rintro e w2' ⟨rfl, hw2⟩
  have B2 := Lib.hid (B1.out.trans (hw2.2.below (Nat.le_refl _)))
  have H2 := Lib.hid hw2.1
  clear hw2 B1 H1
  go_wp2_with fail
  refine (done_good _ _ _ _ H2.out).mono ?_; rintro e w3 ⟨rfl, rfl⟩
  rw [show str ([] ++ w2 258 ++ (w2 ((str [97]).size : Int) ++ (str [97]).data.toList)) = ⟨#[1, 2, 0, 1, 97]⟩ by rfl]
  go_wp2_with fail
  refine (from_any [1, 2, 0, 1, 97] _).mono ?_; rintro e w3 ⟨rfl, hw3⟩
  have hz := B2.out.size
  have B3 := Lib.hid (show Below w.heap.size w w3 by rw [← hw3]; exact B2.out.alloc hz _)
  have R3 := Lib.hid (show Rd w3 w2'.heap.size [1, 2, 0, 1, 97] true by rw [← hw3]; exact Rd.new _ _)
  have Hz := Lib.hid hz
  have Z3 := Lib.hid (show w.heap.size ≤ w3.heap.size from B3.out.size)
  generalize w2'.heap.size = q at *
  clear hz hw3 B2 H2
  go_wp2_with fail
  refine (rnum_ok w.heap.size q 258 [0, 1, 97] _ (by omega) (by omega) (by simp) Z3.out R3.out).mono ?_; rintro e w4 ⟨rfl, hr4⟩
  have H4 := Lib.hid hr4
  have Z4 := Lib.hid (Nat.le_trans Z3.out hr4.2.size)
  clear hr4
  go_wp2_with fail
  refine (rtext_ok w.heap.size q (str [97]) [] _ (by decide) (by simp) Z4.out H4.out.1).mono ?_; rintro e w5 ⟨rfl, hr5⟩
  have H5 := Lib.hid (H4.out.then hr5)
  clear hr5
  have hs : (str [97]).toList = [97] := str_toList _
  generalize str [97] = x at *
  go_wp2_with fail
  refine (end_yes q _ H5.out.1).mono ?_; rintro e w6 ⟨rfl, rfl⟩
  go_wp2_with fail
  refine (bad_no q [] _ H5.out.1).mono ?_; rintro e w6 ⟨rfl, rfl⟩
  go_wp2_with fail
  go_ret
  exact ⟨rfl, B3.out.trans (H5.out.2.below Hz.out)⟩

theorem Wr.nil {C p : Nat} {w : World} (h : w.heap[p]? = some (.cells #[.slice none 0 0, .bool false] 27 (0, 0))) (hC : C ≤ w.heap.size) : Wr C w p [] false :=
  ⟨hC, _, h, World.ownsRow_nil _ _ _ _⟩
theorem num_out (C p : Nat) (v : Int) (l : List UInt8) (b : Bool) (w : World) (h : v < 0 ∨ 65535 < v) (h1 : -9223372036854775808 ≤ v) (h2 : v ≤ 9223372036854775807) (hl : l.length ≤ 998000) (hw : Wr C w p l b) :
    Calls Try.prog 11 #[ptr p, .int .i64 v] w fun e w' => e = .returned (ptr p) ∧ Wrote C p w l true w' := by
  have h := num_any C p v l b w h1 h2 hl hw
  rw [show after 65535 w2 l b v = (l, true) by unfold after; rw [if_neg (by omega)]] at h
  exact h
theorem num_stuck (C p : Nat) (v : Int) (l : List UInt8) (w : World) (h1 : -9223372036854775808 ≤ v) (h2 : v ≤ 9223372036854775807) (hl : l.length ≤ 998000) (hw : Wr C w p l true) :
    Calls Try.prog 11 #[ptr p, .int .i64 v] w fun e w' => e = .returned (ptr p) ∧ Wrote C p w l true w' := by
  have h := num_any C p v l true w h1 h2 hl hw
  rw [show after 65535 w2 l true v = (l, true) by simp [after]] at h
  exact h
theorem long_out (C p : Nat) (v : Int) (l : List UInt8) (b : Bool) (w : World) (h : v < 0 ∨ 4294967295 < v) (h1 : -9223372036854775808 ≤ v) (h2 : v ≤ 9223372036854775807) (hl : l.length ≤ 998000) (hw : Wr C w p l b) :
    Calls Try.prog 13 #[ptr p, .int .i64 v] w fun e w' => e = .returned (ptr p) ∧ Wrote C p w l true w' := by
  have h := long_any C p v l b w h1 h2 hl hw
  rw [show after 4294967295 w4 l b v = (l, true) by unfold after; rw [if_neg (by omega)]] at h
  exact h
abbrev newW : Obj := .cells #[.slice none 0 0, .bool false] 27
theorem two_new (w1 : World) (o : Obj) : (((w1.alloc o).alloc newW).alloc newW).heap[w1.heap.size + 1]? = some newW ∧ (((w1.alloc o).alloc newW).alloc newW).heap[w1.heap.size + 1 + 1]? = some newW ∧
    Below w1.heap.size w1 (((w1.alloc o).alloc newW).alloc newW) ∧ w1.heap.size + 1 + 1 < (((w1.alloc o).alloc newW).alloc newW).heap.size := by
  have h1 := heap_alloc_new (w1.alloc o) newW
  have h2 := heap_alloc_new ((w1.alloc o).alloc newW) newW
  have e1 : (w1.alloc o).heap.size = w1.heap.size + 1 := by simp
  have e2 : ((w1.alloc o).alloc newW).heap.size = w1.heap.size + 1 + 1 := by simp
  rw [e1] at h1
  rw [e2] at h2
  refine ⟨(Below.heap_alloc _ _ _ (by simp)).trans h1, h2, ((((Below.refl _ _).alloc (Nat.le_refl _) _).alloc (by simp) _).alloc (by simp; omega) _), by simp⟩
theorem Wr.stays {C D p q : Nat} {w w' : World} {l : List UInt8} {b : Bool} (h : Wr C w p l b) (ho : Only D q w w') (hD : w.heap.size ≤ D) (hq : p ≠ q)
    (hr : w.heap[q]? = some newW) : Wr C w' p l b := h.kept ho hD hq fun cs n e => by rw [hr] at e; simp at e
theorem Only.to_below {C p : Nat} {a b : World} (h : Only C p a b) (D : Nat) (hp : D ≤ p) (hC : D ≤ C) : Below D a b :=
  ⟨h.os, h.tape, h.output, h.size, fun i hi => h.block i (by omega) (by omega)⟩

section
variable {H : Type} {enc : TypeId × Value → H} {P : Program}
theorem post_of_below {f : Func} {s : ChangeSpec} {apart fresh handsOn again : Bool} {W W' : World} {args : Array Value} {v : Value} {ds gs : List (DataW H)} {before pa pv : List MemPlace}
    (hW : DataW.Whole enc P f.params.toList s.vars apart W args.toList ds gs before)
    (hres : ∀ (b : Nat) (sp : Nat → Bool) (hd : Bool), DataW.TrodAll enc P W' b sp hd f.resultTypes.toList (v.resultList f.resultTypes.size) (s.fn H (ds ++ gs)).results [])
    (hargs : ∀ sp : Nat → Bool, (∀ p ∈ before, sp p.block = true) → DataW.TrodAll enc P W' 0 sp true f.params.toList args.toList (s.fn H (ds ++ gs)).args pa)
    (hvars : ∀ sp : Nat → Bool, (∀ p ∈ before, sp p.block = true) → DataW.TrodVars enc P W' sp s.vars (s.fn H (ds ++ gs)).vars pv)
    (hps : before = pa ++ pv) (hb : Below W.heap.size W W')
    (hok : ∀ (j : Nat) (t : TypeId) (r : Value), f.resultTypes[j]? = some t → (v.resultList f.resultTypes.size)[j]? = some r → Value.okWide P W' .any 0 t r) :
    s.post enc P f apart fresh handsOn again W args v W' := by
  have hlt : ∀ p ∈ before, p.block < W.heap.size := fun p hp => hW.lt p hp
  have hold : ∀ p ∈ before, (fun b => decide (b < W.heap.size)) p.block = true := fun p hp => by simpa using hlt p hp
  refine ⟨ds, gs, before, [], pa, pv, hW, hres _ _ _, hargs _ hold, hvars _ hold, World.keptBut_mono (fun p hp => ⟨hp, ?_⟩) (hb.frame (· ∈ before)), fun _ => ?_⟩
  · rw [hps, List.mem_append] at hp
    exact Or.inr hp
  · obtain ⟨_, _, _, _, _, hz, hn⟩ := hW
    refine ⟨hok, _, _, ([] ++ pa) ++ pv, ⟨[] ++ pa, pv, trodAll_append (hargs _ (fun _ _ => rfl)) (hres _ _ _), hvars _ (fun _ _ => rfl), rfl, ?_, ?_⟩, ?_⟩
    · intro b off hp
      have hin : MemPlace.cell b off ∈ before := by rw [hps]; simpa using hp
      rw [hb.frozen (hlt _ hin)]
      exact hz b off hin
    · intro ha
      have := hn ha
      rw [hps] at this
      simpa using this
    · intro p hp _
      rw [hps]
      simpa using hp
end

end Go.Proofs.Ytfggdcebeopidaa
