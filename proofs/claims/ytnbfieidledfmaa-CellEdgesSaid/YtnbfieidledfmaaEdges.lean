/- Which cells there may be: for every size of key and value, every page, every size elsewhere. -/
import Derived.Test.YtnbfieidledfmaaRows
import Derived.Test.YtnbfieidledfmaaTurn
import Derived.Deep.RegionHeld3
import Derived.StillTailTactics
import Derived.BigQuiet
import Derived.Laws.MakeOwn
import Derived.Deep.DeepCutAuto
import Derived.Deep.RegionLaw
import Derived.Lib.Hide
import Derived.WalkKit
import Derived.ProofKit
import Derived.OpenShut
import Derived.ChangeOld
import Derived.Below
import Derived.Carry
namespace Go.Proofs.Ytnbfieidledfmaa.cellEdges
open Go.ChangeShapes Go.WideShapes Go.ChangeAt Go.RowKit
set_option linter.unusedVariables false

theorem own : ownKnob Try.prog.godebug = none := by kernel_rfl
theorem laidOut : laidOutB Try.prog = true := by kernel_rfl


/-- All below is as it was; these blocks hold this. -/
def KS (B : Nat) (w : World) (L : List (Nat × Obj)) (w' : World) : Prop := Below B w w' ∧ ∀ p ∈ L, w'.heap[p.1]? = some p.2
theorem KS.tail {B : Nat} {w w' : World} {p : Nat × Obj} {L : List (Nat × Obj)} (h : KS B w (p :: L) w') : KS B w L w' := ⟨h.1, fun q hq => h.2 q (List.mem_cons_of_mem _ hq)⟩
theorem KS.step {B : Nat} {w w1 w2 : World} {L : List (Nat × Obj)} (h : KS B w L w1) (hb : Below w1.heap.size w1 w2) (hB : B ≤ w.heap.size := by exact Nat.le_refl _) : KS B w L w2 :=
  ⟨h.1.trans (hb.mono (Nat.le_trans hB h.1.size)), fun p hp => (hb.block p.1 (Array.getElem?_eq_some_iff.1 (h.2 p hp)).1).trans (h.2 p hp)⟩
theorem KS.new {B : Nat} {w X : World} {L : List (Nat × Obj)} (h : KS B w L X) (o : Obj) (n : Nat) (hn : X.heap.size = n) (ho : (X.alloc o).heap[X.heap.size]? = some o) (hB : B ≤ w.heap.size := by exact Nat.le_refl _) : KS B w ((n, o) :: L) (X.alloc o) := by
  have h1 := KS.step h ((Below.refl _ _).alloc (Nat.le_refl _) o) hB
  refine ⟨h1.1, fun p hp => ?_⟩
  rw [List.mem_cons] at hp
  rcases hp with rfl | hp
  · subst hn; exact ho
  · exact h1.2 p hp
theorem KS.more {B : Nat} {w X : World} {L : List (Nat × Obj)} (h : KS B w L X) (n : Nat) (o : Obj) (ho : X.heap[n]? = some o) : KS B w ((n, o) :: L) X := by
  refine ⟨h.1, fun p hp => ?_⟩
  rw [List.mem_cons] at hp
  rcases hp with rfl | hp
  · exact ho
  · exact h.2 p hp
theorem heap_at (X : World) (n : Nat) (hn : X.heap.size = n) (cs : Array Value) (t : TypeId) : (X.alloc (.cells cs t)).heap[n]? = some (.cells cs t) := by
  subst hn; exact heap_alloc_new X _
theorem three (X : World) (c1 c2 c3 : Array Value) (t1 t2 t3 : TypeId) : (((X.alloc (.cells c1 t1)).alloc (.cells c2 t2)).alloc (.cells c3 t3)).drew.heap[X.heap.size]? = some (.cells c1 t1) ∧ (((X.alloc (.cells c1 t1)).alloc (.cells c2 t2)).alloc (.cells c3 t3)).drew.heap[X.heap.size + 1]? = some (.cells c2 t2) ∧ (((X.alloc (.cells c1 t1)).alloc (.cells c2 t2)).alloc (.cells c3 t3)).drew.heap[X.heap.size + 2]? = some (.cells c3 t3) := by
  have s1 : (X.alloc (.cells c1 t1)).heap.size = X.heap.size + 1 := by simp
  have s2 : ((X.alloc (.cells c1 t1)).alloc (.cells c2 t2)).heap.size = X.heap.size + 2 := by simp
  refine ⟨?_, ?_, ?_⟩
  · exact (Below.heap_alloc _ _ _ (by omega)).trans ((Below.heap_alloc _ _ _ (by omega)).trans (heap_at X _ rfl c1 t1))
  · exact (Below.heap_alloc _ _ _ (by omega)).trans (heap_at _ _ s1 c2 t2)
  · exact heap_at _ _ s2 c3 t3
theorem three_below {B : Nat} {w X : World} (h : Below B w X) (c1 c2 c3 : Array Value) (t1 t2 t3 : TypeId) (hB : B ≤ w.heap.size := by exact Nat.le_refl _) : Below B w (((X.alloc (.cells c1 t1)).alloc (.cells c2 t2)).alloc (.cells c3 t3)).drew := by
  have h0 := Nat.le_trans hB h.size
  exact Below.drew (((h.alloc h0 _).alloc (by simp; omega) _).alloc (by simp; omega) _)
theorem two_mem {Y : World} {a b : Nat × Obj} (h1 : Y.heap[a.1]? = some a.2) (h2 : Y.heap[b.1]? = some b.2) : ∀ p ∈ [a, b], Y.heap[p.1]? = some p.2 := by
  intro p hp
  simp only [List.mem_cons, List.not_mem_nil, or_false] at hp
  rcases hp with rfl | rfl
  · exact h1
  · exact h2
theorem KS.conv {B : Nat} {w w' : World} {L : List (Nat × Obj)} (h : KS B w L w') (b n : Nat) (hm : (b, zRow n) ∈ L) : (convert 34 9 (.slice (some ⟨b, 0, none⟩) n n)).run Try.prog w' = .ok (.string (str (zs n))) w' := by
  rw [← strOfNums_bytes]
  refine run_convert_bytes_arg w' 34 5 Try.underlying34 Try.underlying5 b 0 n n _ (by simp [zs]) (fun i hi => ?_) 9 Try.underlying9
  rw [getD_bytes, cell_of_row _ _ _ _ _ _ (h.2 _ hm), Nat.zero_add, zrow_get n i hi, zs, List.getD_eq_getElem?_getD, List.getElem?_replicate, if_pos hi]
  rfl
theorem KS.set4 {B b : Nat} {w w' : World} {L : List (Nat × Obj)} (h : KS B w L w') (hB : B ≤ b) (hne : ∀ p ∈ L, p.1 ≠ b) (v0 v1 v2 v3 : Value) : KS B w L ((((w'.setCell ⟨b, 0, none⟩ v0).setCell ⟨b, 1, none⟩ v1).setCell ⟨b, 2, none⟩ v2).setCell ⟨b, 3, none⟩ v3) := by
  refine ⟨(((h.1.setCell hB _).setCell hB _).setCell hB _).setCell hB _, fun p hp => ?_⟩
  have := hne p hp
  rw [Below.heap_setCell _ _ _ _ this, Below.heap_setCell _ _ _ _ this, Below.heap_setCell _ _ _ _ this, Below.heap_setCell _ _ _ _ this]
  exact h.2 p hp
theorem Box.set4 {w : World} {g : Nat} {a0 a1 a2 a3 : Value} (h : Box w g a0 a1 a2 a3) (v0 v1 v2 v3 : Value) : Box ((((w.setCell ⟨g, 0, none⟩ v0).setCell ⟨g, 1, none⟩ v1).setCell ⟨g, 2, none⟩ v2).setCell ⟨g, 3, none⟩ v3) g v0 v1 v2 v3 := by
  unfold Box at *
  simp [World.setCell, Array.getElem?_modify, h]
theorem box_at (X : World) (n : Nat) (hn : X.heap.size = n) (v0 v1 v2 v3 : Value) : Box (X.alloc (.cells #[v0, v1, v2, v3] 29)) n v0 v1 v2 v3 := by
  subst hn; exact Box.new X _ _ _ _
theorem one_fits {c : Ce} : fitsB [c] = okC c := by
  cases g : okC c with
  | true =>
    have := size_ok (okC_iff.1 g)
    refine fits_iff.2 ⟨fun d hd => ?_, ?_, by simp [keysOf]⟩
    · rw [List.mem_singleton] at hd; subst hd; exact okC_iff.1 g
    · rw [sums_cons, sums_nil]; omega
  | false => exact fits_no fun h => okC_no.1 g (h.1 c (List.mem_singleton.2 rfl))
theorem one_ok {c : Ce} : putOk [c] = okC c := by
  unfold putOk
  rw [one_fits, show risesB [c] = true from rfl, Bool.and_true]
theorem ces_one (c : Ce) (hs : c.key.size ≤ maxLen ∧ c.val.size ≤ maxLen) (w : World) : Ces (w.heap.size + 1) (w.alloc (.cells #[.string c.key, .string c.val, .int .i64 c.blob, .int .i64 c.size] 29)) (some ⟨w.heap.size, 0, none⟩) [c] := by
  have h := fun j => cell_of_row _ _ j _ _ _ (heap_alloc_new w (.cells #[.string c.key, .string c.val, .int .i64 c.blob, .int .i64 c.size] 29))
  refine ⟨fun k hk => ⟨w.heap.size, 0, rfl, by omega, ?_⟩, fun p hp => ?_, max_small (by simp)⟩
  · obtain rfl : k = 0 := by simpa using hk
    exact ⟨h 0, h 1, h 2, h 3⟩
  · rw [List.mem_singleton] at hp; subst hp; exact hs
theorem put_one (c : Ce) (hs : c.key.size ≤ maxLen ∧ c.val.size ≤ maxLen) (w : World) : Calls Try.prog 10 #[.slice (some ⟨w.heap.size, 0, none⟩) 1 1] (w.alloc (.cells #[.string c.key, .string c.val, .int .i64 c.blob, .int .i64 c.size] 29)) fun e w' => e = .returned (.tuple #[.string (str (putS [c])), .bool (putOk [c])]) ∧ Below (w.alloc (.cells #[.string c.key, .string c.val, .int .i64 c.blob, .int .i64 c.size] 29)).heap.size (w.alloc (.cells #[.string c.key, .string c.val, .int .i64 c.blob, .int .i64 c.size] 29)) w' :=
  put_any (c := 1) (n := 1) _ (ces_one c hs w) rfl (by omega) (by simp)
theorem fits_one (c : Ce) (hs : c.key.size ≤ maxLen ∧ c.val.size ≤ maxLen) (w : World) : Calls Try.prog 14 #[.slice (some ⟨w.heap.size, 0, none⟩) 1 1] (w.alloc (.cells #[.string c.key, .string c.val, .int .i64 c.blob, .int .i64 c.size] 29)) fun e w' => e = .returned (.bool (fitsB [c])) ∧ Below (w.alloc (.cells #[.string c.key, .string c.val, .int .i64 c.blob, .int .i64 c.size] 29)).heap.size (w.alloc (.cells #[.string c.key, .string c.val, .int .i64 c.blob, .int .i64 c.size] 29)) w' :=
  fits_walk (c := 1) (n := 1) _ (ces_one c hs w) rfl (by omega) (by simp)
set_option maxRecDepth 100000 in
set_option maxHeartbeats 16000000 in
theorem walk (a0 a1 blob size : Int) (w : World) (w0 : (Lit.int .i64 a0).wf = true) (w1 : (Lit.int .i64 a1).wf = true) (w2 : (Lit.int .i64 blob).wf = true) (w3 : (Lit.int .i64 size).wf = true) :
    Calls Try.prog 7 #[.int .i64 a0, .int .i64 a1, .int .i64 blob, .int .i64 size] w fun e w' => e = .returned (.bool true) ∧ Below w.heap.size w w' := by
  by_cases c0 : a0 < 0
  · as_aux_lemma =>
      have HB0 := Lib.hid (Below.refl w.heap.size w)
      have AL := Lib.hid alive_yes
      go_enter Try.func7, Try.ntmps7
      go_wp2_with fail
      refine (AL.out _).mono ?_; rintro e w1 ⟨rfl, hb⟩
      have HB1 := Lib.hid (HB0.out.trans (hb.mono (Below.size HB0.out)))
      clear hb HB0 
      go_wp2_with fail
      go_ret
      exact ⟨rfl, HB1.out⟩
  · by_cases c1 : 40 < a0
    · as_aux_lemma =>
        have HB0 := Lib.hid (Below.refl w.heap.size w)
        have AL := Lib.hid alive_yes
        go_enter Try.func7, Try.ntmps7
        go_wp2_with fail
        refine (AL.out _).mono ?_; rintro e w1 ⟨rfl, hb⟩
        have HB1 := Lib.hid (HB0.out.trans (hb.mono (Below.size HB0.out)))
        clear hb HB0 
        go_wp2_with fail
        go_ret
        exact ⟨rfl, HB1.out⟩
    · by_cases c2 : a1 < 0
      · as_aux_lemma =>
          have HB0 := Lib.hid (Below.refl w.heap.size w)
          have AL := Lib.hid alive_yes
          go_enter Try.func7, Try.ntmps7
          go_wp2_with fail
          refine (AL.out _).mono ?_; rintro e w1 ⟨rfl, hb⟩
          have HB1 := Lib.hid (HB0.out.trans (hb.mono (Below.size HB0.out)))
          clear hb HB0 
          go_wp2_with fail
          go_ret
          exact ⟨rfl, HB1.out⟩
      · by_cases c3 : 100 < a1
        · as_aux_lemma =>
            have HB0 := Lib.hid (Below.refl w.heap.size w)
            have AL := Lib.hid alive_yes
            go_enter Try.func7, Try.ntmps7
            go_wp2_with fail
            refine (AL.out _).mono ?_; rintro e w1 ⟨rfl, hb⟩
            have HB1 := Lib.hid (HB0.out.trans (hb.mono (Below.size HB0.out)))
            clear hb HB0 
            go_wp2_with fail
            go_ret
            exact ⟨rfl, HB1.out⟩
        · obtain ⟨key, rfl⟩ : ∃ n : Nat, a0 = (n : Int) := ⟨a0.toNat, by omega⟩
          obtain ⟨val, rfl⟩ : ∃ n : Nat, a1 = (n : Int) := ⟨a1.toNat, by omega⟩
          have hkey : key ≤ 40 := by omega
          have hval : val ≤ 100 := by omega
          clear w0 w1 w2 w3 c0 c1 c2 c3
          have k0 : (0 : Int) ≤ (key : Int) := by omega
          have k1 : (key : Int) ≤ 40 := by omega
          have v0 : (0 : Int) ≤ (val : Int) := by omega
          have v1 : (val : Int) ≤ 100 := by omega
          obtain ⟨i0, hi, hz0, hz1, hz2⟩ := info_parts info_u
          have hmk := fun (n : Nat) (hn : n ≤ 1000) (w : World) => run_make (P := Try.prog) w 34 5 i0 _ Try.underlying34 hi hz0 .i64 .i64 (n : Int) (n : Int) (by omega) (Int.le_refl _) (by rw [hz2]; omega) (by omega)
          rw [hz1] at hmk
          simp only [Int.toNat_natCast, Value.cells, Nat.mul_one] at hmk
          have HMK := Lib.hid (hmk key (by omega))
          have HMV := Lib.hid (hmk val (by omega))
          clear hmk hi hz0 hz1 hz2
          obtain ⟨kz, hkz⟩ : ∃ kz, kz = str (zs key) := ⟨_, rfl⟩
          obtain ⟨vz, hvz⟩ : ∃ vz, vz = str (zs val) := ⟨_, rfl⟩
          have hks : kz.size = key := by rw [hkz, str_size, zs_length]
          have hvs : vz.size = val := by rw [hvz, str_size, zs_length]
          have HKZ := Lib.hid hkz.symm
          have HVZ := Lib.hid hvz.symm
          clear hkz hvz
          have hsz : kz.size ≤ maxLen ∧ vz.size ≤ maxLen := ⟨max_small (by omega), max_small (by omega)⟩
          obtain ⟨m, hm⟩ : ∃ m, m = okC ⟨kz, vz, blob, size⟩ := ⟨_, rfl⟩
          obtain ⟨kB, hkB⟩ : ∃ kB, kB = decide (1 ≤ key ∧ key ≤ 16) := ⟨_, rfl⟩
          have HKB := Lib.hid hkB
          have HMT := Lib.hid (fun (h : (1 ≤ key ∧ key ≤ 16) ∧ ((blob = 0 ∧ val ≤ 40 ∧ size = 0) ∨ ((2 ≤ blob ∧ blob ≤ 63) ∧ val = 0 ∧ 41 ≤ size ∧ size ≤ 400))) => show m = true from by rw [hm, okC_iff]; unfold Ce.Ok; dsimp only; rw [hks, hvs]; exact h)
          have HMF := Lib.hid (fun (h : ¬ ((1 ≤ key ∧ key ≤ 16) ∧ ((blob = 0 ∧ val ≤ 40 ∧ size = 0) ∨ ((2 ≤ blob ∧ blob ≤ 63) ∧ val = 0 ∧ 41 ≤ size ∧ size ≤ 400)))) => show m = false from by rw [hm, okC_no]; unfold Ce.Ok; dsimp only; rw [hks, hvs]; exact h)
          have P1 := Lib.hid (put_one ⟨kz, vz, blob, size⟩ hsz)
          have F1 := Lib.hid (fits_one ⟨kz, vz, blob, size⟩ hsz)
          have RI := Lib.hid (fun r => right_any kz vz blob size r)
          rw [one_ok] at P1
          rw [one_fits] at F1
          rw [← hm] at P1 F1 RI
          unfold cv at RI
          dsimp only at P1 F1
          generalize str (putS [⟨kz, vz, blob, size⟩]) = X1 at P1
          clear hm hkB hsz hks hvs hkey hval
          have HB0 := Lib.hid (Below.refl w.heap.size w)
          have AL := Lib.hid alive_yes
          go_enter Try.func7, Try.ntmps7
          go_wp2_with fail
          refine (AL.out _).mono ?_; rintro e w1 ⟨rfl, hb⟩
          have HB1 := Lib.hid (HB0.out.trans (hb.mono (Below.size HB0.out)))
          clear hb HB0 
          go_upto_region 3 with fail
          go_cut [9] (fun s9 wx => ∃ B, s9 = .pointer (some ⟨B, 0, none⟩) ∧ Hid (Box wx B (.string kz) (.string vz) (.int .i64 blob) (.int .i64 size) ∧ Below w.heap.size w wx))
          case first =>
            refine wp_region_noPanic ?_
            refine wp_region_held_drew (S := KS w.heap.size w []) (by kernel_rfl) ?_ (fun hHeld => ?_)
            · exact ⟨Below.drew HB1.out, by simp⟩
            refine wpAnyH_take (i := 0) (oi := { dst := some 32, op := Op.move (Operand.tmp 0), type := 3, pos := "more2.go:16", after := #[], guard := none }) (v := .int .i64 key) rfl (by kernel_rfl) (by kernel_rfl) (by kernel_rfl) (fun _ _ _ h => h) (Or.inl ⟨by rfl, fun w' hSw => by ((try dsimp only at hSw); go_simp)⟩) (by assumption) ?_
            (try simp only [Act.put, List.setIfInBounds_toArray, List.set_cons_zero, List.set_cons_succ])
            refine wpAnyH_take (i := 3) (oi := { dst := some 35, op := Op.move (Operand.tmp 1), type := 3, pos := "more2.go:16", after := #[], guard := none }) (v := .int .i64 val) rfl (by kernel_rfl) (by kernel_rfl) (by kernel_rfl) (fun _ _ _ h => h) (Or.inl ⟨by rfl, fun w' hSw => by ((try dsimp only at hSw); go_simp)⟩) (by assumption) ?_
            (try simp only [Act.put, List.setIfInBounds_toArray, List.set_cons_zero, List.set_cons_succ])
            refine wpAnyH_take (i := 6) (oi := { dst := some 38, op := Op.move (Operand.tmp 2), type := 3, pos := "more2.go:16", after := #[], guard := none }) (v := .int .i64 blob) rfl (by kernel_rfl) (by kernel_rfl) (by kernel_rfl) (fun _ _ _ h => h) (Or.inl ⟨by rfl, fun w' hSw => by ((try dsimp only at hSw); go_simp)⟩) (by assumption) ?_
            (try simp only [Act.put, List.setIfInBounds_toArray, List.set_cons_zero, List.set_cons_succ])
            refine wpAnyH_take (i := 7) (oi := { dst := some 39, op := Op.move (Operand.tmp 3), type := 3, pos := "more2.go:16", after := #[], guard := none }) (v := .int .i64 size) rfl (by kernel_rfl) (by kernel_rfl) (by kernel_rfl) (fun _ _ _ h => h) (Or.inl ⟨by rfl, fun w' hSw => by ((try dsimp only at hSw); go_simp)⟩) (by assumption) ?_
            (try simp only [Act.put, List.setIfInBounds_toArray, List.set_cons_zero, List.set_cons_succ])
            refine wpAnyH_ready (rs := [1, 4, 9]) (by kernel_rfl) (by simp) ?_
            refine AllReadyH.cons (o := { dst := some 33, op := Op.makeSlice 34 (Operand.tmp 32) (Operand.tmp 32), type := 34, pos := "more2.go:16", after := #[{ on := 0, ground := Ground.data }, { on := 0, ground := Ground.data }], guard := none }) rfl (fun K hK => ?_) ?_
            · have hmm := HMK.out; go_simp
              refine hK.out _ _ ?_ (fun hHeld => ?_)
              · exact KS.step hHeld ((Below.refl _ _).alloc (Nat.le_refl _) _)
              clear hK K
              (try simp only [Act.put, List.setIfInBounds_toArray, List.set_cons_zero, List.set_cons_succ])
              have hNew := KS.more hHeld (w1.heap.size) (zRow key) (heap_at w1.drew (w1.heap.size) (by simp) _ 5)
              refine wpAnyH_mono (S' := KS w.heap.size w ([(w1.heap.size, zRow key)])) (fun r h => h.tail) ?_
              replace hHeld : KS w.heap.size w ([(w1.heap.size, zRow key)]) _ := hNew
              clear hNew
              refine wpAnyH_take (i := 2) (oi := { dst := some 34, op := Op.convert 34 9 (Operand.tmp 33), type := 9, pos := "more2.go:16", after := #[{ on := 1, ground := Ground.data }], guard := none }) (v := .string kz) rfl (by kernel_rfl) (by kernel_rfl) (by kernel_rfl) (fun _ _ _ h => h) (Or.inl ⟨by rfl, fun w' hSw => by ((try dsimp only at hSw); have := KS.conv hSw (w1.heap.size) key (by simp); rw [HKZ.out] at this; go_simp)⟩) (by assumption) ?_
              (try simp only [Act.put, List.setIfInBounds_toArray, List.set_cons_zero, List.set_cons_succ])
              refine wpAnyH_ready (rs := [4, 9]) (by kernel_rfl) (by simp) ?_
              refine AllReadyH.cons (o := { dst := some 36, op := Op.makeSlice 34 (Operand.tmp 35) (Operand.tmp 35), type := 34, pos := "more2.go:16", after := #[{ on := 3, ground := Ground.data }, { on := 3, ground := Ground.data }], guard := none }) rfl (fun K hK => ?_) ?_
              · have hmm := HMV.out; go_simp
                refine hK.out _ _ ?_ (fun hHeld => ?_)
                · exact KS.step hHeld ((Below.refl _ _).alloc (Nat.le_refl _) _)
                clear hK K
                (try simp only [Act.put, List.setIfInBounds_toArray, List.set_cons_zero, List.set_cons_succ])
                have hNew := KS.more hHeld (w1.heap.size + 1) (zRow val) (heap_at (w1.drew.alloc (zRow key)) (w1.heap.size + 1) (by simp) _ 5)
                refine wpAnyH_mono (S' := KS w.heap.size w ([(w1.heap.size + 1, zRow val), (w1.heap.size, zRow key)])) (fun r h => h.tail) ?_
                replace hHeld : KS w.heap.size w ([(w1.heap.size + 1, zRow val), (w1.heap.size, zRow key)]) _ := hNew
                clear hNew
                refine wpAnyH_take (i := 5) (oi := { dst := some 37, op := Op.convert 34 9 (Operand.tmp 36), type := 9, pos := "more2.go:16", after := #[{ on := 4, ground := Ground.data }], guard := none }) (v := .string vz) rfl (by kernel_rfl) (by kernel_rfl) (by kernel_rfl) (fun _ _ _ h => h) (Or.inl ⟨by rfl, fun w' hSw => by ((try dsimp only at hSw); have := KS.conv hSw (w1.heap.size + 1) val (by simp); rw [HVZ.out] at this; go_simp)⟩) (by assumption) ?_
                (try simp only [Act.put, List.setIfInBounds_toArray, List.set_cons_zero, List.set_cons_succ])
                refine wpAnyH_take (i := 8) (oi := { dst := some 40, op := Op.build 29 #[(0, Operand.tmp 34), (1, Operand.tmp 37), (2, Operand.tmp 38), (3, Operand.tmp 39)], type := 29, pos := "more2.go:16", after := #[{ on := 2, ground := Ground.data }, { on := 5, ground := Ground.data }, { on := 6, ground := Ground.data }, { on := 7, ground := Ground.data }], guard := none }) (v := .agg #[.string kz, .string vz, .int .i64 blob, .int .i64 size]) rfl (by kernel_rfl) (by kernel_rfl) (by kernel_rfl) (fun _ _ _ h => h) (Or.inl ⟨by rfl, fun w' hSw => by ((try dsimp only at hSw); go_simp)⟩) (by assumption) ?_
                (try simp only [Act.put, List.setIfInBounds_toArray, List.set_cons_zero, List.set_cons_succ])
                refine wpAnyH_ready (rs := [9]) (by kernel_rfl) (by simp) ?_
                refine AllReadyH.cons (o := { dst := some 9, op := Op.alloc 29, type := 0, pos := "more2.go:16", after := #[], guard := none }) rfl (fun K hK => ?_) ?_
                · go_simp
                  refine hK.out _ _ ?_ (fun hHeld => ?_)
                  · exact KS.step hHeld ((Below.refl _ _).alloc (Nat.le_refl _) _)
                  clear hK K
                  (try simp only [Act.put, List.setIfInBounds_toArray, List.set_cons_zero, List.set_cons_succ])
                  have hBX : Box (((w1.drew.alloc (zRow key)).alloc (zRow val)).alloc (.cells #[.string ⟨#[]⟩, .string ⟨#[]⟩, .int .i64 0, .int .i64 0] 29)) (w1.heap.size + 2) (.string ⟨#[]⟩) (.string ⟨#[]⟩) (.int .i64 0) (.int .i64 0) := box_at ((w1.drew.alloc (zRow key)).alloc (zRow val)) (w1.heap.size + 2) (by simp) _ _ _ _
                  obtain ⟨⟨z0, z1, z2, z3⟩, g0, g1, g2, g3⟩ := And.intro hBX.cells hBX.free
                  have H3 := three w1 (madeCells #[.int .u8 0] key) (madeCells #[.int .u8 0] val) #[.string kz, .string vz, .int .i64 blob, .int .i64 size] 5 5 29
                  have HBF := three_below HB1.out (madeCells #[.int .u8 0] key) (madeCells #[.int .u8 0] val) #[.string kz, .string vz, .int .i64 blob, .int .i64 size] 5 5 29
                  refine wpAnyH_ready (rs := [10]) (by kernel_rfl) (by simp) ?_
                  refine AllReadyH.cons (o := { dst := none, op := Op.store 29 (Operand.tmp 9) (Operand.tmp 40), type := 0, pos := "more2.go:16", after := #[{ on := 9, ground := Ground.data }, { on := 8, ground := Ground.data }, { on := 0, ground := Ground.phase }, { on := 1, ground := Ground.phase }, { on := 2, ground := Ground.phase }, { on := 3, ground := Ground.phase }, { on := 4, ground := Ground.phase }, { on := 5, ground := Ground.phase }, { on := 6, ground := Ground.phase }, { on := 7, ground := Ground.phase }, { on := 8, ground := Ground.phase }, { on := 9, ground := Ground.phase }], guard := none }) rfl (fun K hK => ?_) ?_
                  · go_simp
                    refine hK.out _ _ ?_ (fun hHeld => ?_)
                    · exact ⟨HBF, two_mem H3.2.1 H3.1⟩
                    clear hK K
                    (try simp only [Act.put, List.setIfInBounds_toArray, List.set_cons_zero, List.set_cons_succ])
                    clear z0 z1 z2 z3 g0 g1 g2 g3 hBX hHeld
                    refine wpAnyH_done (by kernel_rfl) ?_ _
                    refine NoPanic.normal ?_
                    have hBW : Box (((w1.alloc (.cells (madeCells #[.int .u8 0] key) 5)).alloc (.cells (madeCells #[.int .u8 0] val) 5)).alloc (.cells #[.string kz, .string vz, .int .i64 blob, .int .i64 size] 29)).drew (w1.heap.size + 2) (.string kz) (.string vz) (.int .i64 blob) (.int .i64 size) := H3.2.2
                    clear H3
                    generalize (((w1.alloc (.cells (madeCells #[.int .u8 0] key) 5)).alloc (.cells (madeCells #[.int .u8 0] val) 5)).alloc (.cells #[.string kz, .string vz, .int .i64 blob, .int .i64 size] 29)).drew = W at *
                    generalize w1.heap.size + 2 = B at *
                    have HBW := Lib.hid HBF
                    clear HBF
                    go_wp2_with fail
                    go_meet
                    exact ⟨B, rfl, hBW, HBW.out⟩
                  exact AllReadyH.nil
                exact AllReadyH.nil
              refine AllReadyH.cons (o := { dst := some 9, op := Op.alloc 29, type := 0, pos := "more2.go:16", after := #[], guard := none }) rfl (fun K hK => ?_) ?_
              · go_simp
                refine hK.out _ _ ?_ (fun hHeld => ?_)
                · exact KS.step hHeld ((Below.refl _ _).alloc (Nat.le_refl _) _)
                clear hK K
                (try simp only [Act.put, List.setIfInBounds_toArray, List.set_cons_zero, List.set_cons_succ])
                have hBX : Box ((w1.drew.alloc (zRow key)).alloc (.cells #[.string ⟨#[]⟩, .string ⟨#[]⟩, .int .i64 0, .int .i64 0] 29)) (w1.heap.size + 1) (.string ⟨#[]⟩) (.string ⟨#[]⟩) (.int .i64 0) (.int .i64 0) := box_at (w1.drew.alloc (zRow key)) (w1.heap.size + 1) (by simp) _ _ _ _
                refine wpAnyH_ready (rs := [4]) (by kernel_rfl) (by simp) ?_
                refine AllReadyH.cons (o := { dst := some 36, op := Op.makeSlice 34 (Operand.tmp 35) (Operand.tmp 35), type := 34, pos := "more2.go:16", after := #[{ on := 3, ground := Ground.data }, { on := 3, ground := Ground.data }], guard := none }) rfl (fun K hK => ?_) ?_
                · have hmm := HMV.out; go_simp
                  refine hK.out _ _ ?_ (fun hHeld => ?_)
                  · exact KS.step hHeld ((Below.refl _ _).alloc (Nat.le_refl _) _)
                  clear hK K
                  (try simp only [Act.put, List.setIfInBounds_toArray, List.set_cons_zero, List.set_cons_succ])
                  have hNew := KS.more hHeld (w1.heap.size + 2) (zRow val) (heap_at ((w1.drew.alloc (zRow key)).alloc (.cells #[.string ⟨#[]⟩, .string ⟨#[]⟩, .int .i64 0, .int .i64 0] 29)) (w1.heap.size + 2) (by simp) _ 5)
                  refine wpAnyH_mono (S' := KS w.heap.size w ([(w1.heap.size + 2, zRow val), (w1.heap.size, zRow key)])) (fun r h => h.tail) ?_
                  replace hHeld : KS w.heap.size w ([(w1.heap.size + 2, zRow val), (w1.heap.size, zRow key)]) _ := hNew
                  clear hNew
                  replace hBX : Box _ (w1.heap.size + 1) (.string ⟨#[]⟩) (.string ⟨#[]⟩) (.int .i64 0) (.int .i64 0) := hBX.kept ((Below.refl _ _).alloc (Nat.le_refl _) (zRow val))
                  refine wpAnyH_take (i := 5) (oi := { dst := some 37, op := Op.convert 34 9 (Operand.tmp 36), type := 9, pos := "more2.go:16", after := #[{ on := 4, ground := Ground.data }], guard := none }) (v := .string vz) rfl (by kernel_rfl) (by kernel_rfl) (by kernel_rfl) (fun _ _ _ h => h) (Or.inl ⟨by rfl, fun w' hSw => by ((try dsimp only at hSw); have := KS.conv hSw (w1.heap.size + 2) val (by simp); rw [HVZ.out] at this; go_simp)⟩) (by assumption) ?_
                  (try simp only [Act.put, List.setIfInBounds_toArray, List.set_cons_zero, List.set_cons_succ])
                  refine wpAnyH_take (i := 8) (oi := { dst := some 40, op := Op.build 29 #[(0, Operand.tmp 34), (1, Operand.tmp 37), (2, Operand.tmp 38), (3, Operand.tmp 39)], type := 29, pos := "more2.go:16", after := #[{ on := 2, ground := Ground.data }, { on := 5, ground := Ground.data }, { on := 6, ground := Ground.data }, { on := 7, ground := Ground.data }], guard := none }) (v := .agg #[.string kz, .string vz, .int .i64 blob, .int .i64 size]) rfl (by kernel_rfl) (by kernel_rfl) (by kernel_rfl) (fun _ _ _ h => h) (Or.inl ⟨by rfl, fun w' hSw => by ((try dsimp only at hSw); go_simp)⟩) (by assumption) ?_
                  (try simp only [Act.put, List.setIfInBounds_toArray, List.set_cons_zero, List.set_cons_succ])
                  obtain ⟨⟨z0, z1, z2, z3⟩, g0, g1, g2, g3⟩ := And.intro hBX.cells hBX.free
                  have H3 := three w1 (madeCells #[.int .u8 0] key) #[.string kz, .string vz, .int .i64 blob, .int .i64 size] (madeCells #[.int .u8 0] val) 5 29 5
                  have HBF := three_below HB1.out (madeCells #[.int .u8 0] key) #[.string kz, .string vz, .int .i64 blob, .int .i64 size] (madeCells #[.int .u8 0] val) 5 29 5
                  refine wpAnyH_ready (rs := [10]) (by kernel_rfl) (by simp) ?_
                  refine AllReadyH.cons (o := { dst := none, op := Op.store 29 (Operand.tmp 9) (Operand.tmp 40), type := 0, pos := "more2.go:16", after := #[{ on := 9, ground := Ground.data }, { on := 8, ground := Ground.data }, { on := 0, ground := Ground.phase }, { on := 1, ground := Ground.phase }, { on := 2, ground := Ground.phase }, { on := 3, ground := Ground.phase }, { on := 4, ground := Ground.phase }, { on := 5, ground := Ground.phase }, { on := 6, ground := Ground.phase }, { on := 7, ground := Ground.phase }, { on := 8, ground := Ground.phase }, { on := 9, ground := Ground.phase }], guard := none }) rfl (fun K hK => ?_) ?_
                  · go_simp
                    refine hK.out _ _ ?_ (fun hHeld => ?_)
                    · exact ⟨HBF, two_mem H3.2.2 H3.1⟩
                    clear hK K
                    (try simp only [Act.put, List.setIfInBounds_toArray, List.set_cons_zero, List.set_cons_succ])
                    clear z0 z1 z2 z3 g0 g1 g2 g3 hBX hHeld
                    refine wpAnyH_done (by kernel_rfl) ?_ _
                    refine NoPanic.normal ?_
                    have hBW : Box (((w1.alloc (.cells (madeCells #[.int .u8 0] key) 5)).alloc (.cells #[.string kz, .string vz, .int .i64 blob, .int .i64 size] 29)).alloc (.cells (madeCells #[.int .u8 0] val) 5)).drew (w1.heap.size + 1) (.string kz) (.string vz) (.int .i64 blob) (.int .i64 size) := H3.2.1
                    clear H3
                    generalize (((w1.alloc (.cells (madeCells #[.int .u8 0] key) 5)).alloc (.cells #[.string kz, .string vz, .int .i64 blob, .int .i64 size] 29)).alloc (.cells (madeCells #[.int .u8 0] val) 5)).drew = W at *
                    generalize w1.heap.size + 1 = B at *
                    have HBW := Lib.hid HBF
                    clear HBF
                    go_wp2_with fail
                    go_meet
                    exact ⟨B, rfl, hBW, HBW.out⟩
                  exact AllReadyH.nil
                exact AllReadyH.nil
              exact AllReadyH.nil
            refine AllReadyH.cons (o := { dst := some 36, op := Op.makeSlice 34 (Operand.tmp 35) (Operand.tmp 35), type := 34, pos := "more2.go:16", after := #[{ on := 3, ground := Ground.data }, { on := 3, ground := Ground.data }], guard := none }) rfl (fun K hK => ?_) ?_
            · have hmm := HMV.out; go_simp
              refine hK.out _ _ ?_ (fun hHeld => ?_)
              · exact KS.step hHeld ((Below.refl _ _).alloc (Nat.le_refl _) _)
              clear hK K
              (try simp only [Act.put, List.setIfInBounds_toArray, List.set_cons_zero, List.set_cons_succ])
              have hNew := KS.more hHeld (w1.heap.size) (zRow val) (heap_at w1.drew (w1.heap.size) (by simp) _ 5)
              refine wpAnyH_mono (S' := KS w.heap.size w ([(w1.heap.size, zRow val)])) (fun r h => h.tail) ?_
              replace hHeld : KS w.heap.size w ([(w1.heap.size, zRow val)]) _ := hNew
              clear hNew
              refine wpAnyH_take (i := 5) (oi := { dst := some 37, op := Op.convert 34 9 (Operand.tmp 36), type := 9, pos := "more2.go:16", after := #[{ on := 4, ground := Ground.data }], guard := none }) (v := .string vz) rfl (by kernel_rfl) (by kernel_rfl) (by kernel_rfl) (fun _ _ _ h => h) (Or.inl ⟨by rfl, fun w' hSw => by ((try dsimp only at hSw); have := KS.conv hSw (w1.heap.size) val (by simp); rw [HVZ.out] at this; go_simp)⟩) (by assumption) ?_
              (try simp only [Act.put, List.setIfInBounds_toArray, List.set_cons_zero, List.set_cons_succ])
              refine wpAnyH_ready (rs := [1, 9]) (by kernel_rfl) (by simp) ?_
              refine AllReadyH.cons (o := { dst := some 33, op := Op.makeSlice 34 (Operand.tmp 32) (Operand.tmp 32), type := 34, pos := "more2.go:16", after := #[{ on := 0, ground := Ground.data }, { on := 0, ground := Ground.data }], guard := none }) rfl (fun K hK => ?_) ?_
              · have hmm := HMK.out; go_simp
                refine hK.out _ _ ?_ (fun hHeld => ?_)
                · exact KS.step hHeld ((Below.refl _ _).alloc (Nat.le_refl _) _)
                clear hK K
                (try simp only [Act.put, List.setIfInBounds_toArray, List.set_cons_zero, List.set_cons_succ])
                have hNew := KS.more hHeld (w1.heap.size + 1) (zRow key) (heap_at (w1.drew.alloc (zRow val)) (w1.heap.size + 1) (by simp) _ 5)
                refine wpAnyH_mono (S' := KS w.heap.size w ([(w1.heap.size + 1, zRow key), (w1.heap.size, zRow val)])) (fun r h => h.tail) ?_
                replace hHeld : KS w.heap.size w ([(w1.heap.size + 1, zRow key), (w1.heap.size, zRow val)]) _ := hNew
                clear hNew
                refine wpAnyH_take (i := 2) (oi := { dst := some 34, op := Op.convert 34 9 (Operand.tmp 33), type := 9, pos := "more2.go:16", after := #[{ on := 1, ground := Ground.data }], guard := none }) (v := .string kz) rfl (by kernel_rfl) (by kernel_rfl) (by kernel_rfl) (fun _ _ _ h => h) (Or.inl ⟨by rfl, fun w' hSw => by ((try dsimp only at hSw); have := KS.conv hSw (w1.heap.size + 1) key (by simp); rw [HKZ.out] at this; go_simp)⟩) (by assumption) ?_
                (try simp only [Act.put, List.setIfInBounds_toArray, List.set_cons_zero, List.set_cons_succ])
                refine wpAnyH_take (i := 8) (oi := { dst := some 40, op := Op.build 29 #[(0, Operand.tmp 34), (1, Operand.tmp 37), (2, Operand.tmp 38), (3, Operand.tmp 39)], type := 29, pos := "more2.go:16", after := #[{ on := 2, ground := Ground.data }, { on := 5, ground := Ground.data }, { on := 6, ground := Ground.data }, { on := 7, ground := Ground.data }], guard := none }) (v := .agg #[.string kz, .string vz, .int .i64 blob, .int .i64 size]) rfl (by kernel_rfl) (by kernel_rfl) (by kernel_rfl) (fun _ _ _ h => h) (Or.inl ⟨by rfl, fun w' hSw => by ((try dsimp only at hSw); go_simp)⟩) (by assumption) ?_
                (try simp only [Act.put, List.setIfInBounds_toArray, List.set_cons_zero, List.set_cons_succ])
                refine wpAnyH_ready (rs := [9]) (by kernel_rfl) (by simp) ?_
                refine AllReadyH.cons (o := { dst := some 9, op := Op.alloc 29, type := 0, pos := "more2.go:16", after := #[], guard := none }) rfl (fun K hK => ?_) ?_
                · go_simp
                  refine hK.out _ _ ?_ (fun hHeld => ?_)
                  · exact KS.step hHeld ((Below.refl _ _).alloc (Nat.le_refl _) _)
                  clear hK K
                  (try simp only [Act.put, List.setIfInBounds_toArray, List.set_cons_zero, List.set_cons_succ])
                  have hBX : Box (((w1.drew.alloc (zRow val)).alloc (zRow key)).alloc (.cells #[.string ⟨#[]⟩, .string ⟨#[]⟩, .int .i64 0, .int .i64 0] 29)) (w1.heap.size + 2) (.string ⟨#[]⟩) (.string ⟨#[]⟩) (.int .i64 0) (.int .i64 0) := box_at ((w1.drew.alloc (zRow val)).alloc (zRow key)) (w1.heap.size + 2) (by simp) _ _ _ _
                  obtain ⟨⟨z0, z1, z2, z3⟩, g0, g1, g2, g3⟩ := And.intro hBX.cells hBX.free
                  have H3 := three w1 (madeCells #[.int .u8 0] val) (madeCells #[.int .u8 0] key) #[.string kz, .string vz, .int .i64 blob, .int .i64 size] 5 5 29
                  have HBF := three_below HB1.out (madeCells #[.int .u8 0] val) (madeCells #[.int .u8 0] key) #[.string kz, .string vz, .int .i64 blob, .int .i64 size] 5 5 29
                  refine wpAnyH_ready (rs := [10]) (by kernel_rfl) (by simp) ?_
                  refine AllReadyH.cons (o := { dst := none, op := Op.store 29 (Operand.tmp 9) (Operand.tmp 40), type := 0, pos := "more2.go:16", after := #[{ on := 9, ground := Ground.data }, { on := 8, ground := Ground.data }, { on := 0, ground := Ground.phase }, { on := 1, ground := Ground.phase }, { on := 2, ground := Ground.phase }, { on := 3, ground := Ground.phase }, { on := 4, ground := Ground.phase }, { on := 5, ground := Ground.phase }, { on := 6, ground := Ground.phase }, { on := 7, ground := Ground.phase }, { on := 8, ground := Ground.phase }, { on := 9, ground := Ground.phase }], guard := none }) rfl (fun K hK => ?_) ?_
                  · go_simp
                    refine hK.out _ _ ?_ (fun hHeld => ?_)
                    · exact ⟨HBF, two_mem H3.2.1 H3.1⟩
                    clear hK K
                    (try simp only [Act.put, List.setIfInBounds_toArray, List.set_cons_zero, List.set_cons_succ])
                    clear z0 z1 z2 z3 g0 g1 g2 g3 hBX hHeld
                    refine wpAnyH_done (by kernel_rfl) ?_ _
                    refine NoPanic.normal ?_
                    have hBW : Box (((w1.alloc (.cells (madeCells #[.int .u8 0] val) 5)).alloc (.cells (madeCells #[.int .u8 0] key) 5)).alloc (.cells #[.string kz, .string vz, .int .i64 blob, .int .i64 size] 29)).drew (w1.heap.size + 2) (.string kz) (.string vz) (.int .i64 blob) (.int .i64 size) := H3.2.2
                    clear H3
                    generalize (((w1.alloc (.cells (madeCells #[.int .u8 0] val) 5)).alloc (.cells (madeCells #[.int .u8 0] key) 5)).alloc (.cells #[.string kz, .string vz, .int .i64 blob, .int .i64 size] 29)).drew = W at *
                    generalize w1.heap.size + 2 = B at *
                    have HBW := Lib.hid HBF
                    clear HBF
                    go_wp2_with fail
                    go_meet
                    exact ⟨B, rfl, hBW, HBW.out⟩
                  exact AllReadyH.nil
                exact AllReadyH.nil
              refine AllReadyH.cons (o := { dst := some 9, op := Op.alloc 29, type := 0, pos := "more2.go:16", after := #[], guard := none }) rfl (fun K hK => ?_) ?_
              · go_simp
                refine hK.out _ _ ?_ (fun hHeld => ?_)
                · exact KS.step hHeld ((Below.refl _ _).alloc (Nat.le_refl _) _)
                clear hK K
                (try simp only [Act.put, List.setIfInBounds_toArray, List.set_cons_zero, List.set_cons_succ])
                have hBX : Box ((w1.drew.alloc (zRow val)).alloc (.cells #[.string ⟨#[]⟩, .string ⟨#[]⟩, .int .i64 0, .int .i64 0] 29)) (w1.heap.size + 1) (.string ⟨#[]⟩) (.string ⟨#[]⟩) (.int .i64 0) (.int .i64 0) := box_at (w1.drew.alloc (zRow val)) (w1.heap.size + 1) (by simp) _ _ _ _
                refine wpAnyH_ready (rs := [1]) (by kernel_rfl) (by simp) ?_
                refine AllReadyH.cons (o := { dst := some 33, op := Op.makeSlice 34 (Operand.tmp 32) (Operand.tmp 32), type := 34, pos := "more2.go:16", after := #[{ on := 0, ground := Ground.data }, { on := 0, ground := Ground.data }], guard := none }) rfl (fun K hK => ?_) ?_
                · have hmm := HMK.out; go_simp
                  refine hK.out _ _ ?_ (fun hHeld => ?_)
                  · exact KS.step hHeld ((Below.refl _ _).alloc (Nat.le_refl _) _)
                  clear hK K
                  (try simp only [Act.put, List.setIfInBounds_toArray, List.set_cons_zero, List.set_cons_succ])
                  have hNew := KS.more hHeld (w1.heap.size + 2) (zRow key) (heap_at ((w1.drew.alloc (zRow val)).alloc (.cells #[.string ⟨#[]⟩, .string ⟨#[]⟩, .int .i64 0, .int .i64 0] 29)) (w1.heap.size + 2) (by simp) _ 5)
                  refine wpAnyH_mono (S' := KS w.heap.size w ([(w1.heap.size + 2, zRow key), (w1.heap.size, zRow val)])) (fun r h => h.tail) ?_
                  replace hHeld : KS w.heap.size w ([(w1.heap.size + 2, zRow key), (w1.heap.size, zRow val)]) _ := hNew
                  clear hNew
                  replace hBX : Box _ (w1.heap.size + 1) (.string ⟨#[]⟩) (.string ⟨#[]⟩) (.int .i64 0) (.int .i64 0) := hBX.kept ((Below.refl _ _).alloc (Nat.le_refl _) (zRow key))
                  refine wpAnyH_take (i := 2) (oi := { dst := some 34, op := Op.convert 34 9 (Operand.tmp 33), type := 9, pos := "more2.go:16", after := #[{ on := 1, ground := Ground.data }], guard := none }) (v := .string kz) rfl (by kernel_rfl) (by kernel_rfl) (by kernel_rfl) (fun _ _ _ h => h) (Or.inl ⟨by rfl, fun w' hSw => by ((try dsimp only at hSw); have := KS.conv hSw (w1.heap.size + 2) key (by simp); rw [HKZ.out] at this; go_simp)⟩) (by assumption) ?_
                  (try simp only [Act.put, List.setIfInBounds_toArray, List.set_cons_zero, List.set_cons_succ])
                  refine wpAnyH_take (i := 8) (oi := { dst := some 40, op := Op.build 29 #[(0, Operand.tmp 34), (1, Operand.tmp 37), (2, Operand.tmp 38), (3, Operand.tmp 39)], type := 29, pos := "more2.go:16", after := #[{ on := 2, ground := Ground.data }, { on := 5, ground := Ground.data }, { on := 6, ground := Ground.data }, { on := 7, ground := Ground.data }], guard := none }) (v := .agg #[.string kz, .string vz, .int .i64 blob, .int .i64 size]) rfl (by kernel_rfl) (by kernel_rfl) (by kernel_rfl) (fun _ _ _ h => h) (Or.inl ⟨by rfl, fun w' hSw => by ((try dsimp only at hSw); go_simp)⟩) (by assumption) ?_
                  (try simp only [Act.put, List.setIfInBounds_toArray, List.set_cons_zero, List.set_cons_succ])
                  obtain ⟨⟨z0, z1, z2, z3⟩, g0, g1, g2, g3⟩ := And.intro hBX.cells hBX.free
                  have H3 := three w1 (madeCells #[.int .u8 0] val) #[.string kz, .string vz, .int .i64 blob, .int .i64 size] (madeCells #[.int .u8 0] key) 5 29 5
                  have HBF := three_below HB1.out (madeCells #[.int .u8 0] val) #[.string kz, .string vz, .int .i64 blob, .int .i64 size] (madeCells #[.int .u8 0] key) 5 29 5
                  refine wpAnyH_ready (rs := [10]) (by kernel_rfl) (by simp) ?_
                  refine AllReadyH.cons (o := { dst := none, op := Op.store 29 (Operand.tmp 9) (Operand.tmp 40), type := 0, pos := "more2.go:16", after := #[{ on := 9, ground := Ground.data }, { on := 8, ground := Ground.data }, { on := 0, ground := Ground.phase }, { on := 1, ground := Ground.phase }, { on := 2, ground := Ground.phase }, { on := 3, ground := Ground.phase }, { on := 4, ground := Ground.phase }, { on := 5, ground := Ground.phase }, { on := 6, ground := Ground.phase }, { on := 7, ground := Ground.phase }, { on := 8, ground := Ground.phase }, { on := 9, ground := Ground.phase }], guard := none }) rfl (fun K hK => ?_) ?_
                  · go_simp
                    refine hK.out _ _ ?_ (fun hHeld => ?_)
                    · exact ⟨HBF, two_mem H3.2.2 H3.1⟩
                    clear hK K
                    (try simp only [Act.put, List.setIfInBounds_toArray, List.set_cons_zero, List.set_cons_succ])
                    clear z0 z1 z2 z3 g0 g1 g2 g3 hBX hHeld
                    refine wpAnyH_done (by kernel_rfl) ?_ _
                    refine NoPanic.normal ?_
                    have hBW : Box (((w1.alloc (.cells (madeCells #[.int .u8 0] val) 5)).alloc (.cells #[.string kz, .string vz, .int .i64 blob, .int .i64 size] 29)).alloc (.cells (madeCells #[.int .u8 0] key) 5)).drew (w1.heap.size + 1) (.string kz) (.string vz) (.int .i64 blob) (.int .i64 size) := H3.2.1
                    clear H3
                    generalize (((w1.alloc (.cells (madeCells #[.int .u8 0] val) 5)).alloc (.cells #[.string kz, .string vz, .int .i64 blob, .int .i64 size] 29)).alloc (.cells (madeCells #[.int .u8 0] key) 5)).drew = W at *
                    generalize w1.heap.size + 1 = B at *
                    have HBW := Lib.hid HBF
                    clear HBF
                    go_wp2_with fail
                    go_meet
                    exact ⟨B, rfl, hBW, HBW.out⟩
                  exact AllReadyH.nil
                exact AllReadyH.nil
              exact AllReadyH.nil
            refine AllReadyH.cons (o := { dst := some 9, op := Op.alloc 29, type := 0, pos := "more2.go:16", after := #[], guard := none }) rfl (fun K hK => ?_) ?_
            · go_simp
              refine hK.out _ _ ?_ (fun hHeld => ?_)
              · exact KS.step hHeld ((Below.refl _ _).alloc (Nat.le_refl _) _)
              clear hK K
              (try simp only [Act.put, List.setIfInBounds_toArray, List.set_cons_zero, List.set_cons_succ])
              have hBX : Box (w1.drew.alloc (.cells #[.string ⟨#[]⟩, .string ⟨#[]⟩, .int .i64 0, .int .i64 0] 29)) (w1.heap.size) (.string ⟨#[]⟩) (.string ⟨#[]⟩) (.int .i64 0) (.int .i64 0) := box_at w1.drew (w1.heap.size) (by simp) _ _ _ _
              refine wpAnyH_ready (rs := [1, 4]) (by kernel_rfl) (by simp) ?_
              refine AllReadyH.cons (o := { dst := some 33, op := Op.makeSlice 34 (Operand.tmp 32) (Operand.tmp 32), type := 34, pos := "more2.go:16", after := #[{ on := 0, ground := Ground.data }, { on := 0, ground := Ground.data }], guard := none }) rfl (fun K hK => ?_) ?_
              · have hmm := HMK.out; go_simp
                refine hK.out _ _ ?_ (fun hHeld => ?_)
                · exact KS.step hHeld ((Below.refl _ _).alloc (Nat.le_refl _) _)
                clear hK K
                (try simp only [Act.put, List.setIfInBounds_toArray, List.set_cons_zero, List.set_cons_succ])
                have hNew := KS.more hHeld (w1.heap.size + 1) (zRow key) (heap_at (w1.drew.alloc (.cells #[.string ⟨#[]⟩, .string ⟨#[]⟩, .int .i64 0, .int .i64 0] 29)) (w1.heap.size + 1) (by simp) _ 5)
                refine wpAnyH_mono (S' := KS w.heap.size w ([(w1.heap.size + 1, zRow key)])) (fun r h => h.tail) ?_
                replace hHeld : KS w.heap.size w ([(w1.heap.size + 1, zRow key)]) _ := hNew
                clear hNew
                replace hBX : Box _ (w1.heap.size) (.string ⟨#[]⟩) (.string ⟨#[]⟩) (.int .i64 0) (.int .i64 0) := hBX.kept ((Below.refl _ _).alloc (Nat.le_refl _) (zRow key))
                refine wpAnyH_take (i := 2) (oi := { dst := some 34, op := Op.convert 34 9 (Operand.tmp 33), type := 9, pos := "more2.go:16", after := #[{ on := 1, ground := Ground.data }], guard := none }) (v := .string kz) rfl (by kernel_rfl) (by kernel_rfl) (by kernel_rfl) (fun _ _ _ h => h) (Or.inl ⟨by rfl, fun w' hSw => by ((try dsimp only at hSw); have := KS.conv hSw (w1.heap.size + 1) key (by simp); rw [HKZ.out] at this; go_simp)⟩) (by assumption) ?_
                (try simp only [Act.put, List.setIfInBounds_toArray, List.set_cons_zero, List.set_cons_succ])
                refine wpAnyH_ready (rs := [4]) (by kernel_rfl) (by simp) ?_
                refine AllReadyH.cons (o := { dst := some 36, op := Op.makeSlice 34 (Operand.tmp 35) (Operand.tmp 35), type := 34, pos := "more2.go:16", after := #[{ on := 3, ground := Ground.data }, { on := 3, ground := Ground.data }], guard := none }) rfl (fun K hK => ?_) ?_
                · have hmm := HMV.out; go_simp
                  refine hK.out _ _ ?_ (fun hHeld => ?_)
                  · exact KS.step hHeld ((Below.refl _ _).alloc (Nat.le_refl _) _)
                  clear hK K
                  (try simp only [Act.put, List.setIfInBounds_toArray, List.set_cons_zero, List.set_cons_succ])
                  have hNew := KS.more hHeld (w1.heap.size + 2) (zRow val) (heap_at ((w1.drew.alloc (.cells #[.string ⟨#[]⟩, .string ⟨#[]⟩, .int .i64 0, .int .i64 0] 29)).alloc (zRow key)) (w1.heap.size + 2) (by simp) _ 5)
                  refine wpAnyH_mono (S' := KS w.heap.size w ([(w1.heap.size + 2, zRow val), (w1.heap.size + 1, zRow key)])) (fun r h => h.tail) ?_
                  replace hHeld : KS w.heap.size w ([(w1.heap.size + 2, zRow val), (w1.heap.size + 1, zRow key)]) _ := hNew
                  clear hNew
                  replace hBX : Box _ (w1.heap.size) (.string ⟨#[]⟩) (.string ⟨#[]⟩) (.int .i64 0) (.int .i64 0) := hBX.kept ((Below.refl _ _).alloc (Nat.le_refl _) (zRow val))
                  refine wpAnyH_take (i := 5) (oi := { dst := some 37, op := Op.convert 34 9 (Operand.tmp 36), type := 9, pos := "more2.go:16", after := #[{ on := 4, ground := Ground.data }], guard := none }) (v := .string vz) rfl (by kernel_rfl) (by kernel_rfl) (by kernel_rfl) (fun _ _ _ h => h) (Or.inl ⟨by rfl, fun w' hSw => by ((try dsimp only at hSw); have := KS.conv hSw (w1.heap.size + 2) val (by simp); rw [HVZ.out] at this; go_simp)⟩) (by assumption) ?_
                  (try simp only [Act.put, List.setIfInBounds_toArray, List.set_cons_zero, List.set_cons_succ])
                  refine wpAnyH_take (i := 8) (oi := { dst := some 40, op := Op.build 29 #[(0, Operand.tmp 34), (1, Operand.tmp 37), (2, Operand.tmp 38), (3, Operand.tmp 39)], type := 29, pos := "more2.go:16", after := #[{ on := 2, ground := Ground.data }, { on := 5, ground := Ground.data }, { on := 6, ground := Ground.data }, { on := 7, ground := Ground.data }], guard := none }) (v := .agg #[.string kz, .string vz, .int .i64 blob, .int .i64 size]) rfl (by kernel_rfl) (by kernel_rfl) (by kernel_rfl) (fun _ _ _ h => h) (Or.inl ⟨by rfl, fun w' hSw => by ((try dsimp only at hSw); go_simp)⟩) (by assumption) ?_
                  (try simp only [Act.put, List.setIfInBounds_toArray, List.set_cons_zero, List.set_cons_succ])
                  obtain ⟨⟨z0, z1, z2, z3⟩, g0, g1, g2, g3⟩ := And.intro hBX.cells hBX.free
                  have H3 := three w1 #[.string kz, .string vz, .int .i64 blob, .int .i64 size] (madeCells #[.int .u8 0] key) (madeCells #[.int .u8 0] val) 29 5 5
                  have HBF := three_below HB1.out #[.string kz, .string vz, .int .i64 blob, .int .i64 size] (madeCells #[.int .u8 0] key) (madeCells #[.int .u8 0] val) 29 5 5
                  refine wpAnyH_ready (rs := [10]) (by kernel_rfl) (by simp) ?_
                  refine AllReadyH.cons (o := { dst := none, op := Op.store 29 (Operand.tmp 9) (Operand.tmp 40), type := 0, pos := "more2.go:16", after := #[{ on := 9, ground := Ground.data }, { on := 8, ground := Ground.data }, { on := 0, ground := Ground.phase }, { on := 1, ground := Ground.phase }, { on := 2, ground := Ground.phase }, { on := 3, ground := Ground.phase }, { on := 4, ground := Ground.phase }, { on := 5, ground := Ground.phase }, { on := 6, ground := Ground.phase }, { on := 7, ground := Ground.phase }, { on := 8, ground := Ground.phase }, { on := 9, ground := Ground.phase }], guard := none }) rfl (fun K hK => ?_) ?_
                  · go_simp
                    refine hK.out _ _ ?_ (fun hHeld => ?_)
                    · exact ⟨HBF, two_mem H3.2.2 H3.2.1⟩
                    clear hK K
                    (try simp only [Act.put, List.setIfInBounds_toArray, List.set_cons_zero, List.set_cons_succ])
                    clear z0 z1 z2 z3 g0 g1 g2 g3 hBX hHeld
                    refine wpAnyH_done (by kernel_rfl) ?_ _
                    refine NoPanic.normal ?_
                    have hBW : Box (((w1.alloc (.cells #[.string kz, .string vz, .int .i64 blob, .int .i64 size] 29)).alloc (.cells (madeCells #[.int .u8 0] key) 5)).alloc (.cells (madeCells #[.int .u8 0] val) 5)).drew (w1.heap.size) (.string kz) (.string vz) (.int .i64 blob) (.int .i64 size) := H3.1
                    clear H3
                    generalize (((w1.alloc (.cells #[.string kz, .string vz, .int .i64 blob, .int .i64 size] 29)).alloc (.cells (madeCells #[.int .u8 0] key) 5)).alloc (.cells (madeCells #[.int .u8 0] val) 5)).drew = W at *
                    generalize w1.heap.size = B at *
                    have HBW := Lib.hid HBF
                    clear HBF
                    go_wp2_with fail
                    go_meet
                    exact ⟨B, rfl, hBW, HBW.out⟩
                  exact AllReadyH.nil
                exact AllReadyH.nil
              refine AllReadyH.cons (o := { dst := some 36, op := Op.makeSlice 34 (Operand.tmp 35) (Operand.tmp 35), type := 34, pos := "more2.go:16", after := #[{ on := 3, ground := Ground.data }, { on := 3, ground := Ground.data }], guard := none }) rfl (fun K hK => ?_) ?_
              · have hmm := HMV.out; go_simp
                refine hK.out _ _ ?_ (fun hHeld => ?_)
                · exact KS.step hHeld ((Below.refl _ _).alloc (Nat.le_refl _) _)
                clear hK K
                (try simp only [Act.put, List.setIfInBounds_toArray, List.set_cons_zero, List.set_cons_succ])
                have hNew := KS.more hHeld (w1.heap.size + 1) (zRow val) (heap_at (w1.drew.alloc (.cells #[.string ⟨#[]⟩, .string ⟨#[]⟩, .int .i64 0, .int .i64 0] 29)) (w1.heap.size + 1) (by simp) _ 5)
                refine wpAnyH_mono (S' := KS w.heap.size w ([(w1.heap.size + 1, zRow val)])) (fun r h => h.tail) ?_
                replace hHeld : KS w.heap.size w ([(w1.heap.size + 1, zRow val)]) _ := hNew
                clear hNew
                replace hBX : Box _ (w1.heap.size) (.string ⟨#[]⟩) (.string ⟨#[]⟩) (.int .i64 0) (.int .i64 0) := hBX.kept ((Below.refl _ _).alloc (Nat.le_refl _) (zRow val))
                refine wpAnyH_take (i := 5) (oi := { dst := some 37, op := Op.convert 34 9 (Operand.tmp 36), type := 9, pos := "more2.go:16", after := #[{ on := 4, ground := Ground.data }], guard := none }) (v := .string vz) rfl (by kernel_rfl) (by kernel_rfl) (by kernel_rfl) (fun _ _ _ h => h) (Or.inl ⟨by rfl, fun w' hSw => by ((try dsimp only at hSw); have := KS.conv hSw (w1.heap.size + 1) val (by simp); rw [HVZ.out] at this; go_simp)⟩) (by assumption) ?_
                (try simp only [Act.put, List.setIfInBounds_toArray, List.set_cons_zero, List.set_cons_succ])
                refine wpAnyH_ready (rs := [1]) (by kernel_rfl) (by simp) ?_
                refine AllReadyH.cons (o := { dst := some 33, op := Op.makeSlice 34 (Operand.tmp 32) (Operand.tmp 32), type := 34, pos := "more2.go:16", after := #[{ on := 0, ground := Ground.data }, { on := 0, ground := Ground.data }], guard := none }) rfl (fun K hK => ?_) ?_
                · have hmm := HMK.out; go_simp
                  refine hK.out _ _ ?_ (fun hHeld => ?_)
                  · exact KS.step hHeld ((Below.refl _ _).alloc (Nat.le_refl _) _)
                  clear hK K
                  (try simp only [Act.put, List.setIfInBounds_toArray, List.set_cons_zero, List.set_cons_succ])
                  have hNew := KS.more hHeld (w1.heap.size + 2) (zRow key) (heap_at ((w1.drew.alloc (.cells #[.string ⟨#[]⟩, .string ⟨#[]⟩, .int .i64 0, .int .i64 0] 29)).alloc (zRow val)) (w1.heap.size + 2) (by simp) _ 5)
                  refine wpAnyH_mono (S' := KS w.heap.size w ([(w1.heap.size + 2, zRow key), (w1.heap.size + 1, zRow val)])) (fun r h => h.tail) ?_
                  replace hHeld : KS w.heap.size w ([(w1.heap.size + 2, zRow key), (w1.heap.size + 1, zRow val)]) _ := hNew
                  clear hNew
                  replace hBX : Box _ (w1.heap.size) (.string ⟨#[]⟩) (.string ⟨#[]⟩) (.int .i64 0) (.int .i64 0) := hBX.kept ((Below.refl _ _).alloc (Nat.le_refl _) (zRow key))
                  refine wpAnyH_take (i := 2) (oi := { dst := some 34, op := Op.convert 34 9 (Operand.tmp 33), type := 9, pos := "more2.go:16", after := #[{ on := 1, ground := Ground.data }], guard := none }) (v := .string kz) rfl (by kernel_rfl) (by kernel_rfl) (by kernel_rfl) (fun _ _ _ h => h) (Or.inl ⟨by rfl, fun w' hSw => by ((try dsimp only at hSw); have := KS.conv hSw (w1.heap.size + 2) key (by simp); rw [HKZ.out] at this; go_simp)⟩) (by assumption) ?_
                  (try simp only [Act.put, List.setIfInBounds_toArray, List.set_cons_zero, List.set_cons_succ])
                  refine wpAnyH_take (i := 8) (oi := { dst := some 40, op := Op.build 29 #[(0, Operand.tmp 34), (1, Operand.tmp 37), (2, Operand.tmp 38), (3, Operand.tmp 39)], type := 29, pos := "more2.go:16", after := #[{ on := 2, ground := Ground.data }, { on := 5, ground := Ground.data }, { on := 6, ground := Ground.data }, { on := 7, ground := Ground.data }], guard := none }) (v := .agg #[.string kz, .string vz, .int .i64 blob, .int .i64 size]) rfl (by kernel_rfl) (by kernel_rfl) (by kernel_rfl) (fun _ _ _ h => h) (Or.inl ⟨by rfl, fun w' hSw => by ((try dsimp only at hSw); go_simp)⟩) (by assumption) ?_
                  (try simp only [Act.put, List.setIfInBounds_toArray, List.set_cons_zero, List.set_cons_succ])
                  obtain ⟨⟨z0, z1, z2, z3⟩, g0, g1, g2, g3⟩ := And.intro hBX.cells hBX.free
                  have H3 := three w1 #[.string kz, .string vz, .int .i64 blob, .int .i64 size] (madeCells #[.int .u8 0] val) (madeCells #[.int .u8 0] key) 29 5 5
                  have HBF := three_below HB1.out #[.string kz, .string vz, .int .i64 blob, .int .i64 size] (madeCells #[.int .u8 0] val) (madeCells #[.int .u8 0] key) 29 5 5
                  refine wpAnyH_ready (rs := [10]) (by kernel_rfl) (by simp) ?_
                  refine AllReadyH.cons (o := { dst := none, op := Op.store 29 (Operand.tmp 9) (Operand.tmp 40), type := 0, pos := "more2.go:16", after := #[{ on := 9, ground := Ground.data }, { on := 8, ground := Ground.data }, { on := 0, ground := Ground.phase }, { on := 1, ground := Ground.phase }, { on := 2, ground := Ground.phase }, { on := 3, ground := Ground.phase }, { on := 4, ground := Ground.phase }, { on := 5, ground := Ground.phase }, { on := 6, ground := Ground.phase }, { on := 7, ground := Ground.phase }, { on := 8, ground := Ground.phase }, { on := 9, ground := Ground.phase }], guard := none }) rfl (fun K hK => ?_) ?_
                  · go_simp
                    refine hK.out _ _ ?_ (fun hHeld => ?_)
                    · exact ⟨HBF, two_mem H3.2.2 H3.2.1⟩
                    clear hK K
                    (try simp only [Act.put, List.setIfInBounds_toArray, List.set_cons_zero, List.set_cons_succ])
                    clear z0 z1 z2 z3 g0 g1 g2 g3 hBX hHeld
                    refine wpAnyH_done (by kernel_rfl) ?_ _
                    refine NoPanic.normal ?_
                    have hBW : Box (((w1.alloc (.cells #[.string kz, .string vz, .int .i64 blob, .int .i64 size] 29)).alloc (.cells (madeCells #[.int .u8 0] val) 5)).alloc (.cells (madeCells #[.int .u8 0] key) 5)).drew (w1.heap.size) (.string kz) (.string vz) (.int .i64 blob) (.int .i64 size) := H3.1
                    clear H3
                    generalize (((w1.alloc (.cells #[.string kz, .string vz, .int .i64 blob, .int .i64 size] 29)).alloc (.cells (madeCells #[.int .u8 0] val) 5)).alloc (.cells (madeCells #[.int .u8 0] key) 5)).drew = W at *
                    generalize w1.heap.size = B at *
                    have HBW := Lib.hid HBF
                    clear HBF
                    go_wp2_with fail
                    go_meet
                    exact ⟨B, rfl, hBW, HBW.out⟩
                  exact AllReadyH.nil
                exact AllReadyH.nil
              exact AllReadyH.nil
            exact AllReadyH.nil
          case rest =>
            obtain ⟨B, rfl, hq⟩ := hcut
            have hBW := hq.out.1
            have HBW := Lib.hid hq.out.2
            clear hq HMK HMV HB1
            generalize wc = W at *
            have HX := Lib.hid hBW
            clear hBW
            go_upto_region 4 with fail
            go_cut [10] (fun s10 wx => s10 = .bool kB ∧ wx = W)
            case first =>
              by_cases j0 : (1 : Int) ≤ (key : Int)
              · by_cases j1 : (key : Int) ≤ 16
                · go_wp2_with fail
                  go_meet
                  exact ⟨congrArg Value.bool (HKB.out.trans (decide_eq_true (by omega))).symm, rfl⟩
                · go_wp2_with fail
                  go_meet
                  exact ⟨congrArg Value.bool (HKB.out.trans (decide_eq_false (by omega))).symm, rfl⟩
              · go_wp2_with fail
                go_meet
                exact ⟨congrArg Value.bool (HKB.out.trans (decide_eq_false (by omega))).symm, rfl⟩
            case rest =>
              obtain ⟨rfl, hW⟩ := hcut
              replace hW := hW.symm
              subst hW
              go_upto_if 48 with fail
              go_cut [10] (fun s10 wx => s10 = .bool m ∧ wx = W)
              case first =>
                by_cases hb : blob = 0
                · have Hhb := Lib.hid hb
                  have hqhb : (blob == 0) = true := by rw [hb]; rfl
                  clear hb
                  cases kB with
                  | false =>
                    have hk := of_decide_eq_false (HKB.out).symm
                    go_wp2_with fail
                    go_meet
                    exact ⟨congrArg Value.bool (HMF.out (by skip; have := Hhb.out; omega)).symm, rfl⟩
                  | true =>
                    have hk := of_decide_eq_true (HKB.out).symm
                    by_cases hv : (val : Int) ≤ 40
                    · by_cases hs : size = 0
                      · have Hhs := Lib.hid hs
                        have hqhs : (size == 0) = true := by rw [hs]; rfl
                        clear hs
                        go_wp2_with fail
                        go_meet
                        exact ⟨congrArg Value.bool (HMT.out (by skip; have := Hhb.out; have := Hhs.out; omega)).symm, rfl⟩
                      · have hqsize : (size == 0) = false := by rw [beq_eq_false_iff_ne]; omega
                        go_wp2_with fail
                        go_meet
                        exact ⟨congrArg Value.bool (HMF.out (by skip; have := Hhb.out; omega)).symm, rfl⟩
                    · go_wp2_with fail
                      go_meet
                      exact ⟨congrArg Value.bool (HMF.out (by skip; have := Hhb.out; omega)).symm, rfl⟩
                · have hbb : (blob == 0) = false := by rw [beq_eq_false_iff_ne]; exact hb
                  cases kB with
                  | false =>
                    have hk := of_decide_eq_false (HKB.out).symm
                    go_wp2_with fail
                    go_meet
                    exact ⟨congrArg Value.bool (HMF.out (by skip; omega)).symm, rfl⟩
                  | true =>
                    have hk := of_decide_eq_true (HKB.out).symm
                    by_cases hv : (val : Int) = 0
                    · have Hhv := Lib.hid hv
                      have hqhv : ((val : Int) == 0) = true := by rw [hv]; rfl
                      clear hv
                      by_cases h2 : 2 ≤ blob
                      · by_cases h3 : blob < 64
                        · by_cases h4 : 40 < size
                          · by_cases h5 : size ≤ 400
                            · go_wp2_with fail
                              go_meet
                              exact ⟨congrArg Value.bool (HMT.out (by skip; have := Hhv.out; omega)).symm, rfl⟩
                            · go_wp2_with fail
                              go_meet
                              exact ⟨congrArg Value.bool (HMF.out (by skip; have := Hhv.out; omega)).symm, rfl⟩
                          · go_wp2_with fail
                            go_meet
                            exact ⟨congrArg Value.bool (HMF.out (by skip; have := Hhv.out; omega)).symm, rfl⟩
                        · go_wp2_with fail
                          go_meet
                          exact ⟨congrArg Value.bool (HMF.out (by skip; have := Hhv.out; omega)).symm, rfl⟩
                      · go_wp2_with fail
                        go_meet
                        exact ⟨congrArg Value.bool (HMF.out (by skip; have := Hhv.out; omega)).symm, rfl⟩
                    · have hqv : ((val : Int) == 0) = false := by rw [beq_eq_false_iff_ne]; exact hv
                      go_wp2_with fail
                      go_meet
                      exact ⟨congrArg Value.bool (HMF.out (by skip; omega)).symm, rfl⟩
              case rest =>
                obtain ⟨rfl, hW⟩ := hcut
                replace hW := hW.symm
                subst hW
                clear HMT HMF HKB
                obtain ⟨x0, x1, x2, x3⟩ := HX.out.cells
                have HPU := Lib.hid (P1.out W)
                have hal := (Below.refl W.heap.size W).alloc (Nat.le_refl _) (.cells #[.string kz, .string vz, .int .i64 blob, .int .i64 size] 29)
                have HA := Lib.hid (HX.out.kept hal)
                have HC := Lib.hid (HBW.out.trans (hal.mono HBW.out.size))
                clear hal HX HBW
                go_wp2_with fail
                generalize W.alloc (.cells #[.string kz, .string vz, .int .i64 blob, .int .i64 size] 29) = V at *
                clear x0 x1 x2 x3
                refine (HPU.out).mono ?_; rintro e w4 ⟨rfl, hb⟩
                have HA4 := Lib.hid (HA.out.kept hb)
                have HC4 := Lib.hid (HC.out.trans (hb.mono HC.out.size))
                clear hb HA HC HPU
                obtain ⟨x0, x1, x2, x3⟩ := HA4.out.cells
                go_wp2_with fail
                refine (RI.out _).mono ?_; rintro e w5 ⟨rfl, hb⟩
                have HA5 := Lib.hid (HA4.out.kept hb)
                have HC5 := Lib.hid (HC4.out.trans (hb.mono HC4.out.size))
                clear hb HA4 HC4 x0 x1 x2 x3
                have HFI := Lib.hid (F1.out w5)
                have hal := (Below.refl w5.heap.size w5).alloc (Nat.le_refl _) (.cells #[.string kz, .string vz, .int .i64 blob, .int .i64 size] 29)
                have HC6 := Lib.hid (HC5.out.trans (hal.mono HC5.out.size))
                obtain ⟨x0, x1, x2, x3⟩ := HA5.out.cells
                clear hal
                cases m with
                | true =>
                  go_wp2_with fail
                  generalize w5.alloc (.cells #[.string kz, .string vz, .int .i64 blob, .int .i64 size] 29) = V at *
                  refine (HFI.out).mono ?_; rintro e w7 ⟨rfl, hb⟩
                  have HC7 := Lib.hid (HC6.out.trans (hb.mono HC6.out.size))
                  clear hb
                  go_wp2_with fail
                  go_ret
                  exact ⟨rfl, HC7.out⟩
                | false =>
                  go_wp2_with fail
                  generalize w5.alloc (.cells #[.string kz, .string vz, .int .i64 blob, .int .i64 size] 29) = V at *
                  refine (HFI.out).mono ?_; rintro e w7 ⟨rfl, hb⟩
                  have HC7 := Lib.hid (HC6.out.trans (hb.mono HC6.out.size))
                  clear hb
                  go_wp2_with fail
                  go_ret
                  exact ⟨rfl, HC7.out⟩

/-! The row's step. -/
set_option maxRecDepth 100000 in
theorem lifted (os : Os) (started : os.Started) (H : Type) (enc : TypeId × Value → H) :
    ReturnsInHanded {} Try.checked os 7 .any (Rows.cellEdgesSpec.pre6 enc Try.prog Try.f7 Rows.cellEdgesRow.domain false) (Rows.cellEdgesSpec.post enc Try.prog Try.f7 false true false false) := by
  refine returnsInHanded_of_change (C := Try.checked) own started (by kernel_rfl) Try.func7
    (ChangeSpec.witness6 (enc := enc) (C := Try.checked) false ⟨#[], #[.int .i64 0, .int .i64 0, .int .i64 0, .int .i64 0], []⟩ 8 (by kernel_rfl) (by kernel_rfl) (by kernel_rfl) (by kernel_rfl)) ?_
  intro W base args ds gs before hval0 hW hcnd _
  have hval : ∀ (j : Nat) t v, Try.f7.params[j]? = some t → args[j]? = some v → Value.okWide Try.prog W .any base t v := hval0
  have hW' := hW
  obtain ⟨p, q, hA0, hV, rfl, hfz, hnd⟩ := hW
  have hA : DataW.TrodAll enc Try.prog W 0 (fun _ => true) true Try.f7.params.toList args.toList ds p := hA0
  rw [Try.params7] at hA hval
  obtain ⟨v0, vs0, d0, ds0, p0, q0, hargs, rfl, rfl, h0, r0⟩ := trodAll_cons hA
  obtain ⟨v1, vs1, d1, ds1, p1, q1, rfl, rfl, rfl, h1, r1⟩ := trodAll_cons r0
  obtain ⟨v2, vs2, d2, ds2, p2, q2, rfl, rfl, rfl, h2, r2⟩ := trodAll_cons r1
  obtain ⟨v3, vs3, d3, ds3, p3, q3, rfl, rfl, rfl, h3, r3⟩ := trodAll_cons r2
  obtain ⟨rfl, rfl, rfl⟩ := trodAll_nil r3
  obtain rfl : args = #[v0, v1, v2, v3] := by cases args; simp_all
  obtain ⟨rfl, rfl⟩ := trodVars_none hV
  obtain ⟨a0, rfl, rfl, rfl, w0⟩ := open_int Try.underlying3 (hval 0 3 v0 rfl rfl) h0
  obtain ⟨a1, rfl, rfl, rfl, w1⟩ := open_int Try.underlying3 (hval 1 3 v1 rfl rfl) h1
  obtain ⟨a2, rfl, rfl, rfl, w2⟩ := open_int Try.underlying3 (hval 2 3 v2 rfl rfl) h2
  obtain ⟨a3, rfl, rfl, rfl, w3⟩ := open_int Try.underlying3 (hval 3 3 v3 rfl rfl) h3
  clear hA0 hval0
  refine (walk a0 a1 a2 a3 W w0 w1 w2 w3).mono fun e W' ⟨he, bel⟩ => ?_
  subst he
  exact ⟨_, rfl, _, _, _, [], _, [], hW', trodAll_mk1 (shut_bool Try.underlying4 _), (trodAll_cons_mk (shut_int Try.underlying3 w0) (trodAll_cons_mk (shut_int Try.underlying3 w1) (trodAll_cons_mk (shut_int Try.underlying3 w2) (trodAll_cons_mk (shut_int Try.underlying3 w3) trodAll_mk0)))), rfl, bel.frame _, fun h => by cases h⟩

theorem over : Rows.cellEdgesRow.holds Try.pinned (OpenSpec.ofChange Rows.cellEdgesSpec) :=
  OpenClaim.holds_of_wide 7 Try.f7 rfl rfl rfl rfl rfl rfl rfl ⟨rfl, rfl, rfl, rfl, rfl⟩ rfl rfl rfl rfl rfl (by kernel_rfl) Try.func7 (by kernel_rfl)
    (of_decide_eq_true (by kernel_rfl)) (by unfold Func.isWrapper; first | (rw [if_pos (by decide +kernel)]; kernel_rfl) | (rw [if_neg (by decide +kernel)]; exact ⟨rfl, rfl⟩))
    (fun os started H enc _ => lifted os started H enc)

/-- The statement. -/
theorem proved : Rows.CellEdgesSaid := over
end Go.Proofs.Ytnbfieidledfmaa.cellEdges
