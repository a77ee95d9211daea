/- The document's own Key, CellRight, CellSize. -/
import Derived.Test.YtljegjcajlkgiaaGreatBase
import Derived.StillTailTactics
import Derived.BigQuiet
namespace Go.Proofs.YtljegjcajlkgiaaGreat
open Go.ChangeShapes Go.WideShapes Go.ChangeAt Go.RowKit
set_option linter.unusedVariables false
set_option linter.unusedSimpArgs false
set_option maxRecDepth 100000
theorem rkey_any (s : ByteArray) (w : World) : Calls Tryz.prog 29 #[.string s] w fun e w' => e = .returned (.bool (keyB s.size)) ∧ w = w' := by
  unfold keyB
  by_cases h1 : 1 ≤ s.size
  · have h1' : (1 : Int) ≤ (s.size : Int) := by omega
    by_cases h2 : s.size ≤ 16
    · have h2' : (s.size : Int) ≤ 16 := by omega
      rw [decide_eq_true (show 1 ≤ s.size ∧ s.size ≤ 16 from ⟨h1, h2⟩)]
      go_enter Tryz.func29, Tryz.ntmps29
      go_wp2_with fail
      go_ret
      exact ⟨rfl, rfl⟩
    · have h2' : ¬ (s.size : Int) ≤ 16 := by omega
      rw [decide_eq_false (show ¬ (1 ≤ s.size ∧ s.size ≤ 16) from fun h => h2 h.2)]
      go_enter Tryz.func29, Tryz.ntmps29
      go_wp2_with fail
      go_ret
      exact ⟨rfl, rfl⟩
  · have h1' : ¬ (1 : Int) ≤ (s.size : Int) := by omega
    rw [decide_eq_false (show ¬ (1 ≤ s.size ∧ s.size ≤ 16) from fun h => h1 h.1)]
    go_enter Tryz.func29, Tryz.ntmps29
    go_wp2_with fail
    go_ret
    exact ⟨rfl, rfl⟩
theorem rright_any (k v : ByteArray) (b s : Int) (w : World) : Calls Tryz.prog 8 #[cv k v b s] w fun e w' => e = .returned (.bool (okC ⟨k, v, b, s⟩)) ∧ Below w.heap.size w w' := by
  unfold cv
  have K := Lib.hid (rkey_any k)
  by_cases hk : 1 ≤ k.size ∧ k.size ≤ 16
  · rw [show keyB k.size = true from decide_eq_true hk] at K
    by_cases hb : b = 0
    · subst hb
      by_cases hv : (v.size : Int) ≤ 40
      · by_cases hs : s = 0
        · rw [show okC ⟨k, v, 0, s⟩ = true from okC_iff.2 ⟨hk, .inl ⟨rfl, by show v.size ≤ 40; omega, hs⟩⟩]
          clear hk
          subst hs
          have HB := Lib.hid ((Below.refl w.heap.size w).alloc (Nat.le_refl _) (.cells #[.string k, .string v, .int .i64 0, .int .i64 0] 42))
          go_enter Tryz.func8, Tryz.ntmps8
          go_wp2_with fail
          refine (K.out _).mono ?_; rintro e w0 ⟨rfl, rfl⟩
          go_wp2_with fail
          go_ret
          exact ⟨rfl, HB.out⟩
        · have hno : ¬ (Ce.mk k v 0 s).Ok := by
            rintro ⟨_, h | h⟩
            · exact hs h.2.2
            · have := h.1; dsimp only at this; omega
          rw [show okC ⟨k, v, 0, s⟩ = false from okC_no.2 hno]
          clear hno
          have hs' : (s == 0) = false := by rw [beq_eq_false_iff_ne]; exact hs
          clear hk
          have HB := Lib.hid ((Below.refl w.heap.size w).alloc (Nat.le_refl _) (.cells #[.string k, .string v, .int .i64 0, .int .i64 s] 42))
          go_enter Tryz.func8, Tryz.ntmps8
          go_wp2_with fail
          refine (K.out _).mono ?_; rintro e w0 ⟨rfl, rfl⟩
          go_wp2_with fail
          go_ret
          exact ⟨rfl, HB.out⟩
      · have hno : ¬ (Ce.mk k v 0 s).Ok := by
          rintro ⟨_, h | h⟩
          · have := h.2.1; dsimp only at this; omega
          · have := h.1; dsimp only at this; omega
        rw [show okC ⟨k, v, 0, s⟩ = false from okC_no.2 hno]
        clear hno
        clear hk
        have HB := Lib.hid ((Below.refl w.heap.size w).alloc (Nat.le_refl _) (.cells #[.string k, .string v, .int .i64 0, .int .i64 s] 42))
        go_enter Tryz.func8, Tryz.ntmps8
        go_wp2_with fail
        refine (K.out _).mono ?_; rintro e w0 ⟨rfl, rfl⟩
        go_wp2_with fail
        go_ret
        exact ⟨rfl, HB.out⟩
    · have hb' : (b == 0) = false := by rw [beq_eq_false_iff_ne]; exact hb
      by_cases h2 : 2 ≤ b
      · by_cases h3 : b < 64
        · by_cases hv : v.size = 0
          · have hv' : v.toList.isEmpty = true := emptyL_yes (by omega)
            have hv'' : v.toList = [] := List.isEmpty_iff.1 hv'
            by_cases h4 : 40 < s
            · by_cases h5 : s ≤ 400
              · rw [show okC ⟨k, v, b, s⟩ = true from okC_iff.2 ⟨hk, .inr ⟨⟨h2, by show b ≤ 63; omega⟩, by show v.size = 0; omega, by show 41 ≤ s; omega, h5⟩⟩]
                clear hk
                have HB := Lib.hid ((Below.refl w.heap.size w).alloc (Nat.le_refl _) (.cells #[.string k, .string v, .int .i64 b, .int .i64 s] 42))
                go_enter Tryz.func8, Tryz.ntmps8
                go_wp2_with fail
                refine (K.out _).mono ?_; rintro e w0 ⟨rfl, rfl⟩
                go_wp2_with fail
                go_ret
                exact ⟨rfl, HB.out⟩
              · have hno : ¬ (Ce.mk k v b s).Ok := by
                  rintro ⟨_, h | h⟩
                  · exact hb h.1
                  · exact absurd h (by dsimp only; omega)
                rw [show okC ⟨k, v, b, s⟩ = false from okC_no.2 hno]
                clear hno
                clear hk
                have HB := Lib.hid ((Below.refl w.heap.size w).alloc (Nat.le_refl _) (.cells #[.string k, .string v, .int .i64 b, .int .i64 s] 42))
                go_enter Tryz.func8, Tryz.ntmps8
                go_wp2_with fail
                refine (K.out _).mono ?_; rintro e w0 ⟨rfl, rfl⟩
                go_wp2_with fail
                go_ret
                exact ⟨congrArg (fun v => Ending.returned (Value.bool v)) (decide_eq_false (by omega)), HB.out⟩
            · have hno : ¬ (Ce.mk k v b s).Ok := by
                rintro ⟨_, h | h⟩
                · exact hb h.1
                · exact absurd h (by dsimp only; omega)
              rw [show okC ⟨k, v, b, s⟩ = false from okC_no.2 hno]
              clear hno
              clear hk
              have HB := Lib.hid ((Below.refl w.heap.size w).alloc (Nat.le_refl _) (.cells #[.string k, .string v, .int .i64 b, .int .i64 s] 42))
              go_enter Tryz.func8, Tryz.ntmps8
              go_wp2_with fail
              refine (K.out _).mono ?_; rintro e w0 ⟨rfl, rfl⟩
              go_wp2_with fail
              go_ret
              exact ⟨rfl, HB.out⟩
          · have hv' : v.toList.isEmpty = false := emptyL_no (by omega)
            have hv'' : (v.toList = []) = False := eq_false (fun h => by rw [h] at hv'; cases hv')
            have hno : ¬ (Ce.mk k v b s).Ok := by
              rintro ⟨_, h | h⟩
              · exact hb h.1
              · exact absurd h.2.1 hv
            rw [show okC ⟨k, v, b, s⟩ = false from okC_no.2 hno]
            clear hno
            clear hk
            have HB := Lib.hid ((Below.refl w.heap.size w).alloc (Nat.le_refl _) (.cells #[.string k, .string v, .int .i64 b, .int .i64 s] 42))
            go_enter Tryz.func8, Tryz.ntmps8
            go_wp2_with fail
            refine (K.out _).mono ?_; rintro e w0 ⟨rfl, rfl⟩
            go_wp2_with fail
            go_ret
            exact ⟨rfl, HB.out⟩
        · have hno : ¬ (Ce.mk k v b s).Ok := by
            rintro ⟨_, h | h⟩
            · exact hb h.1
            · exact absurd h (by dsimp only; omega)
          rw [show okC ⟨k, v, b, s⟩ = false from okC_no.2 hno]
          clear hno
          clear hk
          have HB := Lib.hid ((Below.refl w.heap.size w).alloc (Nat.le_refl _) (.cells #[.string k, .string v, .int .i64 b, .int .i64 s] 42))
          go_enter Tryz.func8, Tryz.ntmps8
          go_wp2_with fail
          refine (K.out _).mono ?_; rintro e w0 ⟨rfl, rfl⟩
          go_wp2_with fail
          go_ret
          exact ⟨rfl, HB.out⟩
      · have hno : ¬ (Ce.mk k v b s).Ok := by
          rintro ⟨_, h | h⟩
          · exact hb h.1
          · exact absurd h (by dsimp only; omega)
        rw [show okC ⟨k, v, b, s⟩ = false from okC_no.2 hno]
        clear hno
        clear hk
        have HB := Lib.hid ((Below.refl w.heap.size w).alloc (Nat.le_refl _) (.cells #[.string k, .string v, .int .i64 b, .int .i64 s] 42))
        go_enter Tryz.func8, Tryz.ntmps8
        go_wp2_with fail
        refine (K.out _).mono ?_; rintro e w0 ⟨rfl, rfl⟩
        go_wp2_with fail
        go_ret
        exact ⟨rfl, HB.out⟩
  · have hno : ¬ (Ce.mk k v b s).Ok := fun h => hk h.1
    rw [show okC ⟨k, v, b, s⟩ = false from okC_no.2 hno]
    clear hno
    rw [show keyB k.size = false from decide_eq_false hk] at K
    clear hk
    have HB := Lib.hid ((Below.refl w.heap.size w).alloc (Nat.le_refl _) (.cells #[.string k, .string v, .int .i64 b, .int .i64 s] 42))
    go_enter Tryz.func8, Tryz.ntmps8
    go_wp2_with fail
    refine (K.out _).mono ?_; rintro e w0 ⟨rfl, rfl⟩
    go_wp2_with fail
    go_ret
    exact ⟨rfl, HB.out⟩
theorem rsize_any (k v : ByteArray) (b s : Int) (hk : k.size ≤ maxLen / 4) (hv : v.size ≤ maxLen / 4) (w : World) : Calls Tryz.prog 16 #[cv k v b s] w fun e w' => e = .returned (.int .i64 (sizeC ⟨k, v, b, s⟩)) ∧ Below w.heap.size w w' := by
  unfold maxLen at hk hv
  unfold cv
  have e1 : IntKind.i64.wrap (4 + (k.size : Int)) = 4 + (k.size : Int) := IntWalk.i64_in _ (by omega)
  have e2 : IntKind.i64.wrap (4 + (k.size : Int) + (v.size : Int)) = 4 + (k.size : Int) + (v.size : Int) := IntWalk.i64_in _ (by omega)
  have e3 : IntKind.i64.wrap (4 + (k.size : Int) + 2) = 4 + (k.size : Int) + 2 := IntWalk.i64_in _ (by omega)
  clear hk hv
  by_cases hb : b = 0
  · subst hb
    rw [show ((sizeC ⟨k, v, 0, s⟩ : Nat) : Int) = 4 + (k.size : Int) + (v.size : Int) by unfold sizeC; rw [if_pos rfl]; dsimp only; omega]
    have HB := Lib.hid ((Below.refl w.heap.size w).alloc (Nat.le_refl _) (.cells #[.string k, .string v, .int .i64 0, .int .i64 s] 42))
    go_enter Tryz.func16, Tryz.ntmps16
    go_wp2_with fail
    go_ret
    exact ⟨rfl, HB.out⟩
  · have hb' : (b == 0) = false := by rw [beq_eq_false_iff_ne]; exact hb
    rw [show ((sizeC ⟨k, v, b, s⟩ : Nat) : Int) = 4 + (k.size : Int) + 2 by unfold sizeC; rw [if_neg hb]; dsimp only; omega]
    have HB := Lib.hid ((Below.refl w.heap.size w).alloc (Nat.le_refl _) (.cells #[.string k, .string v, .int .i64 b, .int .i64 s] 42))
    go_enter Tryz.func16, Tryz.ntmps16
    go_wp2_with fail
    go_ret
    exact ⟨rfl, HB.out⟩
/-! Fits. -/
def keyAt (l : List Ce) (k : Nat) : BA := (l.getD k nilC).key.data.toList
def DK (l : List Ce) (i : Nat) : Prop := ∀ a b, a < b → b < i → keyAt l a ≠ keyAt l b
theorem dk_nodup (l : List Ce) : DK l l.length ↔ (keysOf l).Nodup := by
  unfold keysOf List.Nodup
  rw [List.pairwise_map, List.pairwise_iff_getElem]
  constructor
  · intro h i j hi hj hij
    have := h i j hij hj
    unfold keyAt at this
    rwa [getD_at hi, getD_at hj] at this
  · intro h a b hab hb
    unfold keyAt
    rw [getD_at (by omega : a < l.length), getD_at hb]
    exact h a b (by omega) hb hab
theorem dk_step {l : List Ce} {i : Nat} (h : DK l i) (k : ∀ j, j < i → keyAt l j ≠ keyAt l i) : DK l (i + 1) := by
  intro a b hab hb
  by_cases e : b < i
  · exact h a b hab e
  · obtain rfl : b = i := by omega
    exact k a hab
theorem dk_no {l : List Ce} {i j : Nat} (hi : i < l.length) (hj : j < i) (h : keyAt l j = keyAt l i) : fitsB l = false :=
  fits_no fun hf => (dk_nodup l).2 hf.2.2 j i hj hi h
set_option maxHeartbeats 2000000 in
theorem rfits_walk {C n c : Nat} {A : Option Addr} {l : List Ce} (w : World) (h : Ces C w A l) (hn : l.length = n) (hm : n ≤ 1000) (hC : C ≤ w.heap.size) :
    Calls Tryz.prog 9 #[.slice A n c] w fun e w' => e = .returned (.bool (fitsB l)) ∧ Below w.heap.size w w' := by
  have HP := Lib.hid h
  have HN := Lib.hid hn
  have HC := Lib.hid hC
  have hN : (n : Int) ≤ 1000 := by omega
  clear h hn hC
  go_enter Tryz.func9, Tryz.ntmps9
  go_wp2_with fail
  go_loopw [3, 4] (fun v x wr => ∃ i : Nat, i ≤ n ∧ x = .int .i64 i ∧ ∃ s : Nat, v = .int .i64 (1 + (s : Int)) ∧ Hid (s = sums (l.take i)) ∧ s ≤ i * 60 ∧ Hid (Below w.heap.size w wr ∧ (∀ c ∈ l.take i, c.Ok) ∧ DK l i)) (fun _ x _ => n - (intOf x).toNat)
  case atStart => exact ⟨0, Nat.zero_le _, rfl, 0, rfl, rfl, by omega, Below.refl _ _, fun c hc => by simp at hc, fun a b h1 h2 => by omega⟩
  case round =>
    obtain ⟨i, hi, rfl, s, rfl, hs, hs60, hq⟩ := hrel
    have HQ := Lib.hid hq
    have HS := Lib.hid hs
    clear hq hs
    have i0 : (0 : Int) ≤ (i : Int) := by omega
    by_cases hlt : i < n
    · have hbel := HQ.out.out.1
      have i1 : (i : Int) < (n : Int) := by omega
      obtain ⟨b, off, rfl, hb, hp⟩ := HP.out.1 i (by rw [HN.out]; exact hlt)
      obtain ⟨c0, c1, c2, c3⟩ := hp.kept (w' := wr) (Nat.lt_of_lt_of_le hb HC.out) hbel
      have HCE := Lib.hid (fun w' (hb2 : Below w.heap.size w w') => hp.kept (w' := w') hb (hb2.mono HC.out))
      clear hbel hb hp
      have HCJ := Lib.hid (fun j (hj : j < i) w' (hb2 : Below w.heap.size w w') => show CeAt w' b (off + j * 4) (l.getD j nilC) from by
        obtain ⟨b', off', e1, h2, h3⟩ := HP.out.1 j (by rw [HN.out]; omega)
        simp only [Option.some.injEq, Addr.mk.injEq, and_true] at e1
        obtain ⟨rfl, rfl⟩ := e1
        exact h3.kept h2 (hb2.mono HC.out))
      have RI := Lib.hid (fun r => rright_any (l.getD i nilC).key (l.getD i nilC).val (l.getD i nilC).blob (l.getD i nilC).size r)
      have SI := Lib.hid (fun hk hv r => rsize_any (l.getD i nilC).key (l.getD i nilC).val (l.getD i nilC).blob (l.getD i nilC).size hk hv r)
      have HT := Lib.hid (sums_take l i (by rw [HN.out]; exact hlt))
      have HA := Lib.hid (fun ho => all_step (l := l) (k := i) (by rw [HN.out]; exact hlt) HQ.out.out.2.1 ho)
      have HNO := Lib.hid (fun (ho : ¬ (l.getD i nilC).Ok) => fits_no (l := l) fun h => ho (h.1 _ (getD_mem (by rw [HN.out]; exact hlt))))
      have HKI := Lib.hid (show keyAt l i = (l.getD i nilC).key.toList by unfold keyAt; rw [ByteArray.toList_eq])
      unfold cv at RI SI
      generalize l.getD i nilC = x at *
      cases g : okC x with
      | false =>
        change Hid (∀ r, Calls _ _ _ _ (fun e w' => e = .returned (.bool (okC x)) ∧ _)) at RI
        rw [g] at RI
        have HG := Lib.hid (HNO.out (okC_no.1 g))
        clear HNO HA HT g SI HCJ HCE
        go_wp2_with fail
        refine (RI.out _).mono ?_; rintro e w1 ⟨rfl, hb⟩
        have HB3 := Lib.hid (HQ.out.out.1.trans (hb.mono HQ.out.out.1.size))
        clear hb
        go_wp2_with fail
        go_ret
        exact ⟨by rw [HG.out]; rfl, HB3.out⟩
      | true =>
        change Hid (∀ r, Calls _ _ _ _ (fun e w' => e = .returned (.bool (okC x)) ∧ _)) at RI
        rw [g] at RI
        have ho := okC_iff.1 g
        have HO := Lib.hid (HA.out ho)
        have hz := size_ok ho
        have hkz : x.key.size ≤ maxLen / 4 := by have := ho.1; unfold maxLen; omega
        have hvz : x.val.size ≤ maxLen / 4 := by obtain ⟨_, h | h⟩ := ho <;> (unfold maxLen; omega)
        have SI2 := Lib.hid (SI.out hkz hvz)
        clear SI hkz hvz ho g HA HNO
        change Hid (∀ r, Calls _ _ _ _ (fun e w' => e = .returned (.int .i64 (sizeC x : Nat)) ∧ _)) at SI2
        generalize sizeC x = z at *
        go_wp2_with fail
        refine (RI.out _).mono ?_; rintro e w1 ⟨rfl, hb⟩
        have HB3 := Lib.hid (HQ.out.out.1.trans (hb.mono HQ.out.out.1.size))
        clear hb c0 c1 c2 c3
        go_wp2_with fail
        go_loopw [5] (fun y wq => ∃ k : Nat, k ≤ i ∧ y = .int .i64 k ∧ (∃ q, wq = w1.drewN q) ∧ Hid (∀ j, j < k → keyAt l j ≠ keyAt l i)) (fun y _ => i - (intOf y).toNat)
        case atStart => exact ⟨0, Nat.zero_le _, rfl, ⟨0, rfl⟩, fun j hj => by omega⟩
        case round =>
          obtain ⟨k, hk, rfl, ⟨q, rfl⟩, hq2⟩ := hrel
          have HQ2 := Lib.hid hq2
          clear hq2
          have k0 : (0 : Int) ≤ (k : Int) := by omega
          have HBQ := Lib.hid (show Below w.heap.size w (w1.drewN q) from ⟨HB3.out.os, HB3.out.tape, HB3.out.output, HB3.out.size, HB3.out.block⟩)
          by_cases hlk : k < i
          · have k1 : (k : Int) < (i : Int) := by omega
            have k2 : (k : Int) < (n : Int) := by omega
            obtain ⟨c0, _, _, _⟩ := HCE.out _ HB3.out
            obtain ⟨d0, _, _, _⟩ := HCJ.out k hlk _ HB3.out
            have HKK := Lib.hid (show keyAt l k = (l.getD k nilC).key.toList by unfold keyAt; rw [ByteArray.toList_eq])
            generalize l.getD k nilC = y at *
            by_cases hke : y.key.toList = x.key.toList
            · have hke' : (y.key.toList == x.key.toList) = true := by simp [hke]
              have HG := Lib.hid (dk_no (l := l) (i := i) (j := k) (by rw [HN.out]; exact hlt) hlk (by rw [HKK.out, HKI.out]; exact hke))
              clear hke
              go_wp2_with fail
              go_quiet (fail)
              go_wp2_with fail
              go_ret
              exact ⟨by rw [HG.out]; rfl, HBQ.out.os, HBQ.out.tape, HBQ.out.output, HBQ.out.size, HBQ.out.block⟩
            · have hke' : (y.key.toList == x.key.toList) = false := by rw [beq_eq_false_iff_ne]; exact hke
              have HG := Lib.hid (show ∀ j, j < k + 1 → keyAt l j ≠ keyAt l i from fun j hj => by
                by_cases e : j < k
                · exact HQ2.out.out j e
                · obtain rfl : j = k := by omega
                  rw [HKK.out, HKI.out]; exact hke)
              go_wp2_with fail
              go_quiet (fail)
              go_wp2_with fail
              go_roundw
              case rel => exact ⟨k + 1, by omega, by go_num, ⟨_, rfl⟩, HG.out⟩
              case measure => simp [intOf]; omega
          · obtain rfl : i = k := by omega
            have k1 : ¬ (i : Int) < (i : Int) := by omega
            obtain ⟨c0, c1, c2, c3⟩ := HCE.out _ HBQ.out
            have HD := Lib.hid (dk_step HQ.out.out.2.2 HQ2.out.out)
            have e1 : IntKind.i64.wrap (1 + (s : Int) + (z : Int)) = 1 + (s : Int) + (z : Int) := IntWalk.i64_in _ (by omega)
            generalize w1.drewN q = wd at *
            go_wp2_with fail
            refine (SI2.out _).mono ?_; rintro e w4 ⟨rfl, hb⟩
            have HB4 := Lib.hid (HBQ.out.trans (hb.mono HBQ.out.size))
            clear hb c0 c1 c2 c3
            go_wp2_with fail
            go_roundw
            case rel => exact ⟨i + 1, by omega, by go_num, s + z, by congr 1; omega, by rw [HT.out, HS.out]; rfl, by omega, HB4.out, HO.out, HD.out⟩
            case measure => simp [intOf]; omega
    · obtain rfl : i = n := by omega
      have i1 : ¬ (i : Int) < (i : Int) := by omega
      have hall : l.take i = l := List.take_of_length_le (by rw [HN.out]; exact Nat.le_refl _)
      have hok : ∀ c ∈ l, c.Ok := by have := HQ.out.out.2.1; rwa [hall] at this
      have hsum : s = sums l := by have : s = sums (l.take i) := HS.out; rwa [hall] at this
      have hdk := HQ.out.out.2.2
      rw [← HN.out] at hdk
      have HF := Lib.hid (show fitsB l = decide (1 + (s : Int) ≤ 240) from by
        unfold fitsB
        rw [List.all_eq_true.2 (fun c hc => okC_iff.2 (hok c hc)), decide_eq_true ((dk_nodup l).1 hdk), ← hsum, Bool.and_true, Bool.true_and]
        by_cases e : 1 + s ≤ 240
        · rw [decide_eq_true e, decide_eq_true (by omega)]
        · rw [decide_eq_false e, decide_eq_false (by omega)])
      clear hall hok hsum hdk
      go_wp2_with fail
      go_ret
      exact ⟨by rw [HF.out]; rfl, HQ.out.out.1⟩
end Go.Proofs.YtljegjcajlkgiaaGreat
