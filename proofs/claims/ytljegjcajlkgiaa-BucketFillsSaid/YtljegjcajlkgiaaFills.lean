/- Cells that do not fit any more are refused, and change nothing; a smaller one in place of its key's fits. -/
import Derived.Test.YtljegjcajlkgiaaRows
import Derived.Test.YtljegjcajlkgiaaLawsr
import Derived.Deep.RegionHeld3
import Derived.StillTailTactics
import Derived.BigQuiet
import Derived.Laws.MakeOwn
import Derived.Deep.DeepCutAuto
import Derived.Deep.RegionLaw
import Derived.Lib.Hide
import Derived.WalkKit
import Derived.ProofKit
import Derived.OpenShut
import Derived.ChangeOld
import Derived.Below
import Derived.Carry
namespace Go.Proofs.Ytljegjcajlkgiaa.bucketFills
open Go.ChangeShapes Go.WideShapes Go.ChangeAt Go.RowKit
set_option linter.unusedVariables false

theorem own : ownKnob Try.prog.godebug = none := by kernel_rfl
theorem laidOut : laidOutB Try.prog = true := by kernel_rfl

theorem room_body {k : Int} (hk : isBk k = true) {m : List Ce} (hm : putOk m = true) : roomP k (bodyOf m) = 239 - (sums m : Int) := by
  obtain ⟨g, e⟩ := goodP_body hk hm
  unfold roomP
  rw [g, e, if_pos rfl]
theorem sums_split (p : Ce → Bool) : ∀ l : List Ce, sums l = sums (l.filter p) + sums (l.filter fun x => !p x)
  | [] => rfl
  | x :: l => by
    have ih := sums_split p l
    rw [sums_cons, List.filter_cons, List.filter_cons]
    cases p x with
    | true => simp only [if_true, Bool.not_true, Bool.false_eq_true, if_false]; rw [sums_cons]; omega
    | false => simp only [Bool.false_eq_true, if_false, Bool.not_false, if_true]; rw [sums_cons]; omega
theorem filter_is {q : ByteArray} {y : Ce} : ∀ {l : List Ce}, Rise l → findS l q = some y → l.filter (isB q) = [y]
  | [], _, hf => by simp [findS] at hf
  | x :: l, h, hf => by
    obtain ⟨hx, hl⟩ := List.pairwise_cons.1 h
    unfold findS at hf
    rw [List.find?_cons] at hf
    rw [List.filter_cons]
    cases g : isB q x with
    | true =>
      rw [g] at hf
      simp only [Option.some.injEq] at hf
      subst hf
      rw [if_pos rfl, filter_none fun z hz => isB_no.2 fun e => ltK_key (hx z hz) (by rw [← isB_iff.1 g, e])]
    | false =>
      rw [g] at hf
      rw [if_neg (by simp)]
      exact filter_is hl hf
theorem sums_find {l : List Ce} (h : Rise l) {q : ByteArray} {y : Ce} (hf : findS l q = some y) : sums l = sizeC y + sums (cutS l q) := by
  have := sums_split (isB q) l
  rw [filter_is h hf, sums_cons, sums_nil] at this
  unfold cutS otherB
  omega
theorem fills_none {m : List Ce} (hm : putOk m = true) {c : Ce} (hc : c.Ok) (hf : findS m c.key = none) : putOk (setS m c) = decide ((sizeC c : Int) ≤ 239 - (sums m : Int)) ∧ (239 : Int) - (sums (setS m c) : Int) = 239 - (sums m : Int) - (sizeC c : Int) := by
  have hs := sums_set (putOk_rise hm) c
  rw [cut_none (find_none hf)] at hs
  refine ⟨?_, by omega⟩
  rw [putOk_set hm hc, hs]
  exact decide_eq_decide.2 (by omega)
theorem fills_some {m : List Ce} (hm : putOk m = true) {c y : Ce} (hc : c.Ok) (hf : findS m c.key = some y) : putOk (setS m c) = decide ((sizeC c : Int) - (sizeC y : Int) ≤ 239 - (sums m : Int)) ∧ (239 : Int) - (sums (setS m c) : Int) = 239 - (sums m : Int) - ((sizeC c : Int) - (sizeC y : Int)) := by
  have hs := sums_set (putOk_rise hm) c
  have h2 := sums_find (putOk_rise hm) hf
  refine ⟨?_, by omega⟩
  rw [putOk_set hm hc, hs]
  exact decide_eq_decide.2 (by omega)
/-- A smaller cell in place of its key's. -/
theorem set_small {m : List Ce} (hm : putOk m = true) {y : Ce} (hy : y ∈ m) {k : ByteArray} (hk : y.key = k) : okC ⟨k, ⟨#[]⟩, 0, 0⟩ = true ∧ putOk (setS m ⟨k, ⟨#[]⟩, 0, 0⟩) = true := by
  subst hk
  have hyo := (putOk_iff.1 hm).1 y hy
  have ho : (⟨y.key, ⟨#[]⟩, 0, 0⟩ : Ce).Ok := ⟨hyo.1, .inl ⟨rfl, by show (0 : Nat) ≤ 40; omega, rfl⟩⟩
  refine ⟨okC_iff.2 ho, ?_⟩
  have hf := find_is (putOk_rise hm) hy
  rw [(fills_some (c := ⟨y.key, ⟨#[]⟩, 0, 0⟩) hm ho hf).1]
  have h1 : sizeC (⟨y.key, ⟨#[]⟩, 0, 0⟩ : Ce) = 4 + y.key.size := by unfold sizeC; rw [if_pos rfl]; rfl
  have h2 : 4 + y.key.size ≤ sizeC y := by unfold sizeC; omega
  have h3 := (putOk_iff.1 hm).2.1
  exact decide_eq_true (by omega)
theorem keys_kept {m m0 : List Ce} (hm : Rise m) (h : ∀ x ∈ m0, ∃ y ∈ m, y.key = x.key) (c : Ce) : ∀ x ∈ m0, ∃ y ∈ setS m c, y.key = x.key := by
  intro x hx
  obtain ⟨y, hy, e⟩ := h x hx
  by_cases hk : y.key = c.key
  · exact ⟨c, (mem_set hm).2 (.inl rfl), by rw [← hk, e]⟩
  · exact ⟨y, (mem_set hm).2 (.inr (mem_cut.2 ⟨hy, hk⟩)), e⟩
theorem set_yes {k d x : Int} (hk : isBk k = true) {m : List Ce} (hm : putOk m = true) {c : Ce} (h1 : okC c = true) (h2 : putOk (setS m c) = true) : resV (setP ⟨k, d, x, bodyOf m⟩ c) = .tuple #[.agg #[.int .i64 k, .int .i64 d, .int .i64 x, .string (str (bodyOf (setS m c)))], .int .i64 0] := by
  rcases setP_body (d := d) (x := x) hk hm c with h | ⟨ev, _, _, _, h | h⟩
  · exact h.1
  · rw [h.1] at h1; cases h1
  · rw [h.2.1] at h2; cases h2
theorem set_full {k d x : Int} (hk : isBk k = true) {m : List Ce} (hm : putOk m = true) {c : Ce} (h1 : okC c = true) (h2 : putOk (setS m c) = false) : resV (setP ⟨k, d, x, bodyOf m⟩ c) = .tuple #[.agg #[.int .i64 0, .int .i64 0, .int .i64 0, .string ⟨#[]⟩], .int .i64 13] := by
  rcases setP_body (d := d) (x := x) hk hm c with h | ⟨ev, _, _, h0, h | h⟩
  · rw [h.2.2] at h2; cases h2
  · rw [h.1] at h1; cases h1
  · rw [h0, h.2.2]
theorem own_at {B n c k : Nat} {w : World} {A : Option Addr} {l : List Ce} (h : w.ownsRow B 31 4 (.slice A n c) n (ccs l)) (hn : l.length = n) (hk : k < n) : ∃ g, A = some ⟨g, 0, none⟩ ∧ B ≤ g ∧ g < w.heap.size ∧ CeAt w g (k * 4) (l.getD k nilC) := by
  rcases h.2 with ⟨_, h2⟩ | ⟨g, cap, cur, h1, hb, h3, _⟩
  · omega
  · simp only [Value.slice.injEq] at h1
    obtain ⟨rfl, _, rfl⟩ := h1
    have hc := h.cells (g := g) rfl
    obtain ⟨g0, g1, g2, g3⟩ := ccs_get l k (by omega)
    have e0 := hc (k * 4) _ g0
    have e1 := hc (k * 4 + 1) _ g1
    have e2 := hc (k * 4 + 2) _ g2
    have e3 := hc (k * 4 + 3) _ g3
    rw [add_plain, Nat.zero_add] at e0 e1 e2 e3
    exact ⟨g, rfl, hb, (Array.getElem?_eq_some_iff.1 h3).1, e0, e1, e2, e3⟩
theorem CeAt.heap {w w' : World} {b off : Nat} {c : Ce} (h : CeAt w b off c) (hh : w'.heap[b]? = w.heap[b]?) : CeAt w' b off c :=
  ⟨(World.cell?_of_block (w := w) (w' := w') (a := ⟨b, off, none⟩) hh).trans h.1, (World.cell?_of_block (w := w) (w' := w') (a := ⟨b, off + 1, none⟩) hh).trans h.2.1, (World.cell?_of_block (w := w) (w' := w') (a := ⟨b, off + 2, none⟩) hh).trans h.2.2.1, (World.cell?_of_block (w := w) (w' := w') (a := ⟨b, off + 3, none⟩) hh).trans h.2.2.2⟩

set_option maxRecDepth 100000 in
set_option maxHeartbeats 8000000 in
theorem walk (A0 : Option Addr) (n0 c0 : Nat) (l0 : List ByteArray) (a1 : Int) (w : World) (w0 : Strs w A0 n0 l0) (e0 : n0 ≤ maxLen) (w1 : (Lit.int .i64 a1).wf = true) :
    Calls Try.prog 3 #[.slice A0 n0 c0, .int .i64 a1] w fun e w' => e = .returned (.bool true) ∧ Below w.heap.size w w' := by
  have AL := Lib.hid alive_yes
  by_cases cc : 60 < (n0 : Int)
  · as_aux_lemma =>
      have g0 : decide (60 < (n0 : Int)) = true := decide_eq_true cc
      have HB0 := Lib.hid (Below.refl w.heap.size w)
      go_enter Try.func3, Try.ntmps3
      go_wp2_with fail
      refine (AL.out _).mono ?_; rintro e w1 ⟨rfl, hb⟩
      have HB1 := Lib.hid (HB0.out.trans (hb.mono (Below.size HB0.out)))
      clear hb HB0 
      go_wp2_with fail
      go_ret
      exact ⟨rfl, HB1.out⟩
  · have g0 : decide (60 < (n0 : Int)) = false := decide_eq_false cc
    by_cases cd : a1 < 0
    · as_aux_lemma =>
        have g1 : decide (a1 < 0) = true := decide_eq_true cd
        have HB0 := Lib.hid (Below.refl w.heap.size w)
        go_enter Try.func3, Try.ntmps3
        go_wp2_with fail
        refine (AL.out _).mono ?_; rintro e w1 ⟨rfl, hb⟩
        have HB1 := Lib.hid (HB0.out.trans (hb.mono (Below.size HB0.out)))
        clear hb HB0 
        go_wp2_with fail
        go_ret
        exact ⟨rfl, HB1.out⟩
    · by_cases ce : 40 < a1
      · as_aux_lemma =>
          have g2 : decide (40 < a1) = true := decide_eq_true ce
          have HB0 := Lib.hid (Below.refl w.heap.size w)
          go_enter Try.func3, Try.ntmps3
          go_wp2_with fail
          refine (AL.out _).mono ?_; rintro e w1 ⟨rfl, hb⟩
          have HB1 := Lib.hid (HB0.out.trans (hb.mono (Below.size HB0.out)))
          clear hb HB0 
          go_wp2_with fail
          go_ret
          exact ⟨rfl, HB1.out⟩
      · have hm : n0 ≤ 60 := by omega
        have HP := Lib.hid (fun (i : Nat) (hi : i < n0) (w' : World) (hb : Below w.heap.size w w') => w0.at hi hb)
        have HZ := Lib.hid (fun (i : Nat) (hi : i < n0) => w0.size hi)
        obtain ⟨s, rfl⟩ : ∃ s : Nat, a1 = (s : Int) := ⟨a1.toNat, by omega⟩
        have hs40 : s ≤ 40 := by omega
        clear w0
        have SE := Lib.hid (fun m (h : putOk m = true) c w => set_any 3 0 0 (bodyOf m) c (by rw [bodyOf_length h]; omega) w)
        have CE := Lib.hid (fun m (h : putOk m = true) w => (bcells_any 3 0 0 (bodyOf m) (by rw [bodyOf_length h]; omega) w))
        have FI := Lib.hid (fun m (h : putOk m = true) q w => (find_any 3 0 0 (bodyOf m) q (by rw [bodyOf_length h]; omega) w))
        have RO := Lib.hid (fun m (h : putOk m = true) w => (room_any 3 0 0 (bodyOf m) (by rw [bodyOf_length h]; omega) w))
        have KE := Lib.hid rkey_any
        have ZE := Lib.hid (fun w => zeros_ok s (by omega) w)
        have RS := Lib.hid rsize_any
        have EM := Lib.hid (fun w => empty_any 3 0 0 w)
        have hz0 : str (zs 240) = str (bodyOf []) := by rw [bodyOf_nil]
        rw [hz0] at EM
        clear hz0
        unfold pv at *
        have HB0 := Lib.hid (Below.refl w.heap.size w)
        go_enter Try.func3, Try.ntmps3
        go_wp2_with fail
        refine (AL.out _).mono ?_; rintro e w1 ⟨rfl, hb⟩
        have HB1 := Lib.hid (HB0.out.trans (hb.mono (Below.size HB0.out)))
        clear hb HB0 
        clear AL
        go_wp2_with fail
        refine (EM.out _).mono ?_; rintro e w2 ⟨rfl, hb⟩
        have HB2 := Lib.hid (HB1.out.trans (hb.mono (Below.size HB1.out)))
        clear hb HB1 
        clear EM
        have HSZ := Lib.hid HB2.out.size
        have hal := (Below.refl (w2).heap.size (w2)).alloc (Nat.le_refl _) (.cells #[.int .i64 3, .int .i64 0, .int .i64 0, .string (str (bodyOf []))] 25)
        have P2 := Lib.hid (PBox.new (w2) (3) (0) (0) ((str (bodyOf []))))
        replace HB2 := Lib.hid (HB2.out.trans (hal.mono (Below.size HB2.out)))
        clear hal
        go_wp2_with fail
        obtain ⟨bP, hbP⟩ : ∃ bP, bP = (w2).heap.size := ⟨_, rfl⟩
        rw [← hbP] at P2 ⊢
        have HLP := Lib.hid hbP
        clear hbP
        generalize (w2).alloc (.cells #[.int .i64 3, .int .i64 0, .int .i64 0, .string (str (bodyOf []))] 25) = v2 at *
        have HLE := Lib.hid (show w.heap.size ≤ bP by rw [HLP.out]; exact HSZ.out)
        have HST := Lib.hid (show ∃ m, putOk m = true ∧ PBox v2 bP 3 0 0 (str (bodyOf m)) ∧ Below w.heap.size w v2 from ⟨[], putOk_nil, P2.out, HB2.out⟩)
        clear P2 HB2 HLP HSZ
        go_loopw [38] (fun x wr => ∃ k : Nat, k ≤ n0 ∧ x = .int .i64 k ∧ Hid (∃ m, putOk m = true ∧ PBox wr bP 3 0 0 (str (bodyOf m)) ∧ Below w.heap.size w wr)) (fun x _ => n0 - (intOf x).toNat)
        case atStart => exact ⟨0, Nat.zero_le _, rfl, HST.out⟩
        case round =>
          obtain ⟨k, hk, rfl, hq⟩ := hrel
          obtain ⟨m, ha, hb, hc⟩ := hq.out
          have HM := Lib.hid ha
          have P0 := Lib.hid hb
          have HB0 := Lib.hid hc
          clear hq ha hb hc HST
          have q0 : (0 : Int) ≤ (k : Int) := by omega
          by_cases hlt : k < n0
          · as_aux_lemma =>
              have q1 : (k : Int) < (n0 : Int) := by omega
              obtain ⟨b, off, rfl, hbk, d0⟩ := HP.out k hlt wr HB0.out
              have hqz := HZ.out k hlt
              generalize l0.getD k ByteArray.empty = q at *
              have KQ := Lib.hid (KE.out q)
              clear hbk
              by_cases hkey : 1 ≤ q.size ∧ q.size ≤ 16
              · rw [show keyB q.size = true from decide_eq_true hkey] at KQ
                have hco : (⟨q, str (zs s), 0, 0⟩ : Ce).Ok := ⟨hkey, .inl ⟨rfl, by show (str (zs s)).size ≤ 40; rw [str_size, zs_length]; exact hs40, rfl⟩⟩
                have HCO := Lib.hid (okC_iff.2 hco)
                have hcz := size_ok hco
                have RO1 := Lib.hid (fun w => RO.out m HM.out w)
                rw [room_body rfl HM.out] at RO1
                have FI1 := Lib.hid (fun w => FI.out m HM.out q w)
                rw [(goodP_body (k := 3) rfl HM.out).2] at FI1
                have SE1 := Lib.hid (fun w => SE.out m HM.out ⟨q, str (zs s), 0, 0⟩ w)
                have RC := Lib.hid (fun w => RS.out q (str (zs s)) 0 0 (by unfold maxLen; omega) (by rw [str_size, zs_length]; unfold maxLen; omega) w)
                have FN := Lib.hid (fun h => fills_none (c := ⟨q, str (zs s), 0, 0⟩) HM.out hco h)
                have FS := Lib.hid (fun y h => fills_some (c := ⟨q, str (zs s), 0, 0⟩) (y := y) HM.out hco h)
                have HSM := (putOk_iff.1 HM.out).2.1
                unfold cvC cv at SE1 RC
                dsimp only at SE1 FN FS
                generalize hzc : sizeC ⟨q, str (zs s), 0, 0⟩ = zc at *
                generalize str (zs s) = z at *
                obtain ⟨sp, hsp⟩ : ∃ s, s = str (bodyOf m) := ⟨_, rfl⟩
                rw [← hsp] at SE1 FI1 RO1 P0
                obtain ⟨rm, hrm⟩ : ∃ r : Int, r = 239 - (sums m : Int) := ⟨_, rfl⟩
                rw [← hrm] at RO1 FN FS
                have hrb : 0 ≤ rm ∧ rm ≤ 239 := by omega
                have HSP := Lib.hid hsp
                clear hco hzc hsp hrm HSM hkey KE
                go_wp2_with fail
                refine (KQ.out _).mono ?_; rintro e w1x ⟨rfl, rfl⟩
                clear KQ
                obtain ⟨oP0, oP1, oP2, oP3⟩ := P0.out.cells
                go_wp2_with fail
                clear oP0 oP1 oP2 oP3
                clear d0
                refine (RO1.out _).mono ?_; rintro e w1 ⟨rfl, hb⟩
                have P1 := Lib.hid (P0.out.kept hb)
                have HB1 := Lib.hid (HB0.out.trans (hb.mono (Below.size HB0.out)))
                clear hb HB0 P0
                go_wp2_with fail
                refine (ZE.out _).mono ?_; rintro e w2 ⟨rfl, hb⟩
                have P2 := Lib.hid (P1.out.kept hb)
                have HB2 := Lib.hid (HB1.out.trans (hb.mono (Below.size HB1.out)))
                clear hb HB1 P1
                have hal := (Below.refl (w2).heap.size (w2)).alloc (Nat.le_refl _) (.cells #[.string q, .string z, .int .i64 0, .int .i64 0] 31)
                replace P2 := Lib.hid (P2.out.kept hal)
                have C2 := Lib.hid (Box.new (w2) (.string q) (.string z) (.int .i64 0) (.int .i64 0))
                replace HB2 := Lib.hid (HB2.out.trans (hal.mono (Below.size HB2.out)))
                clear hal
                obtain ⟨oP0, oP1, oP2, oP3⟩ := P2.out.cells
                go_wp2_with fail
                clear oP0 oP1 oP2 oP3
                obtain ⟨bC, hbC⟩ : ∃ bC, bC = (w2).heap.size := ⟨_, rfl⟩
                rw [← hbC] at C2 ⊢
                have HLC := Lib.hid hbC
                clear hbC
                generalize (w2).alloc (.cells #[.string q, .string z, .int .i64 0, .int .i64 0] 31) = v2 at *
                clear HLC
                cases hf : findS m q with
                | none =>
                  as_aux_lemma =>
                    have hfv : findV (findS m q) = .tuple #[.agg #[.string ⟨#[]⟩, .string ⟨#[]⟩, .int .i64 0, .int .i64 0], .bool false] := by rw [hf]; rfl
                    rw [hfv] at FI1
                    have hfl := FN.out hf
                    have HFL := Lib.hid hfl
                    clear hfv hf hfl FS FN
                    refine (FI1.out _).mono ?_; rintro e w3 ⟨rfl, hb⟩
                    have P3 := Lib.hid (P2.out.kept hb)
                    have C3 := Lib.hid (C2.out.kept hb)
                    have HB3 := Lib.hid (HB2.out.trans (hb.mono (Below.size HB2.out)))
                    clear hb HB2 P2 C2
                    have hal := (Below.refl (w3).heap.size (w3)).alloc (Nat.le_refl _) (.cells #[.string ⟨#[]⟩, .string ⟨#[]⟩, .int .i64 0, .int .i64 0] 31)
                    replace P3 := Lib.hid (P3.out.kept hal)
                    replace C3 := Lib.hid (C3.out.kept hal)
                    have O3 := Lib.hid (Box.new (w3) (.string ⟨#[]⟩) (.string ⟨#[]⟩) (.int .i64 0) (.int .i64 0))
                    replace HB3 := Lib.hid (HB3.out.trans (hal.mono (Below.size HB3.out)))
                    clear hal
                    obtain ⟨oC0, oC1, oC2, oC3⟩ := C3.out.cells
                    go_wp2_with fail
                    clear oC0 oC1 oC2 oC3
                    obtain ⟨bO, hbO⟩ : ∃ bO, bO = (w3).heap.size := ⟨_, rfl⟩
                    rw [← hbO] at O3 ⊢
                    have HLO := Lib.hid hbO
                    clear hbO
                    generalize (w3).alloc (.cells #[.string ⟨#[]⟩, .string ⟨#[]⟩, .int .i64 0, .int .i64 0] 31) = v3 at *
                    clear O3
                    clear HLO
                    refine (RC.out _).mono ?_; rintro e w4 ⟨rfl, hb⟩
                    have P4 := Lib.hid (P3.out.kept hb)
                    have C4 := Lib.hid (C3.out.kept hb)
                    have HB4 := Lib.hid (HB3.out.trans (hb.mono (Below.size HB3.out)))
                    clear hb HB3 P3 C3
                    obtain ⟨oP0, oP1, oP2, oP3⟩ := P4.out.cells
                    obtain ⟨oC0, oC1, oC2, oC3⟩ := C4.out.cells
                    go_wp2_with fail
                    clear oP0 oP1 oP2 oP3 oC0 oC1 oC2 oC3
                    have hfl := HFL.out
                    clear HFL
                    by_cases hle : (zc : Int) ≤ rm
                    · as_aux_lemma =>
                        have hput : putOk (setS m ⟨q, z, 0, 0⟩) = true := by rw [hfl.1]; exact decide_eq_true hle
                        have hres := set_yes (d := 0) (x := 0) (k := 3) rfl HM.out HCO.out hput
                        have RO2 := Lib.hid (fun w => RO.out _ hput w)
                        rw [room_body rfl hput, hfl.2] at RO2
                        rw [hres] at SE1
                        have HPUT := Lib.hid hput
                        obtain ⟨sq, hsq⟩ : ∃ s, s = str (bodyOf (setS m ⟨q, z, 0, 0⟩)) := ⟨_, rfl⟩
                        rw [← hsq] at SE1 RO2
                        have HSQ := Lib.hid hsq
                        clear hput hres hsq hfl
                        refine (SE1.out _).mono ?_; rintro e w5 ⟨rfl, hb⟩
                        have P5 := Lib.hid (P4.out.kept hb)
                        have C5 := Lib.hid (C4.out.kept hb)
                        have HB5 := Lib.hid (HB4.out.trans (hb.mono (Below.size HB4.out)))
                        clear hb HB4 P4 C4
                        have hal := (Below.refl (w5).heap.size (w5)).alloc (Nat.le_refl _) (.cells #[.int .i64 3, .int .i64 0, .int .i64 0, .string sq] 25)
                        replace P5 := Lib.hid (P5.out.kept hal)
                        replace C5 := Lib.hid (C5.out.kept hal)
                        have Q5 := Lib.hid (PBox.new (w5) (3) (0) (0) (sq))
                        replace HB5 := Lib.hid (HB5.out.trans (hal.mono (Below.size HB5.out)))
                        clear hal
                        go_wp2_with fail
                        obtain ⟨bQ, hbQ⟩ : ∃ bQ, bQ = (w5).heap.size := ⟨_, rfl⟩
                        rw [← hbQ] at Q5 ⊢
                        have HLQ := Lib.hid hbQ
                        clear hbQ
                        generalize (w5).alloc (.cells #[.int .i64 3, .int .i64 0, .int .i64 0, .string sq] 25) = v5 at *
                        clear HLQ
                        refine (RO2.out _).mono ?_; rintro e w6 ⟨rfl, hb⟩
                        have P6 := Lib.hid (P5.out.kept hb)
                        have C6 := Lib.hid (C5.out.kept hb)
                        have Q6 := Lib.hid (Q5.out.kept hb)
                        have HB6 := Lib.hid (HB5.out.trans (hb.mono (Below.size HB5.out)))
                        clear hb HB5 P5 C5 Q5
                        obtain ⟨⟨oP0, oP1, oP2, oP3⟩, fP0, fP1, fP2, fP3⟩ := And.intro P6.out.cells P6.out.free
                        obtain ⟨oQ0, oQ1, oQ2, oQ3⟩ := Q6.out.cells
                        go_wp2_with fail
                        go_roundw
                        case rel =>
                          refine ⟨k + 1, by omega, by go_num, setS m ⟨q, z, 0, 0⟩, HPUT.out, ?_, below_set4 HB6.out HLE.out⟩
                          rw [← HSQ.out]
                          exact P6.out.set4 _ _ _ _
                        case measure => simp [intOf]; omega
                    · as_aux_lemma =>
                        have hput : putOk (setS m ⟨q, z, 0, 0⟩) = false := by rw [hfl.1]; exact decide_eq_false hle
                        have hres := set_full (d := 0) (x := 0) (k := 3) rfl HM.out HCO.out hput
                        rw [hres] at SE1
                        clear hput hres hfl
                        refine (SE1.out _).mono ?_; rintro e w5 ⟨rfl, hb⟩
                        have P5 := Lib.hid (P4.out.kept hb)
                        have C5 := Lib.hid (C4.out.kept hb)
                        have HB5 := Lib.hid (HB4.out.trans (hb.mono (Below.size HB4.out)))
                        clear hb HB4 P4 C4
                        have hal := (Below.refl (w5).heap.size (w5)).alloc (Nat.le_refl _) (.cells #[.int .i64 0, .int .i64 0, .int .i64 0, .string ⟨#[]⟩] 25)
                        replace P5 := Lib.hid (P5.out.kept hal)
                        replace C5 := Lib.hid (C5.out.kept hal)
                        have Q5 := Lib.hid (PBox.new (w5) (0) (0) (0) (⟨#[]⟩))
                        replace HB5 := Lib.hid (HB5.out.trans (hal.mono (Below.size HB5.out)))
                        clear hal
                        go_wp2_with fail
                        go_roundw
                        case rel => exact ⟨k + 1, by omega, by go_num, m, HM.out, by rw [← HSP.out]; exact P5.out, HB5.out⟩
                        case measure => simp [intOf]; omega
                | some y =>
                  as_aux_lemma =>
                    have hfv : findV (findS m q) = .tuple #[.agg #[.string y.key, .string y.val, .int .i64 y.blob, .int .i64 y.size], .bool true] := by rw [hf]; rfl
                    rw [hfv] at FI1
                    have hfl := FS.out y hf
                    have HFL := Lib.hid hfl
                    have hyo := (putOk_iff.1 HM.out).1 y (find_some hf).1
                    have hys := size_ok hyo
                    have RY := Lib.hid (fun w => RS.out y.key y.val y.blob y.size (by have := hyo.1; unfold maxLen; omega) (by obtain ⟨_, h | h⟩ := hyo <;> (unfold maxLen; omega)) w)
                    unfold cv at RY
                    change Hid (∀ w, Calls _ _ _ _ (fun e w' => e = .returned (.int .i64 (sizeC y : Nat)) ∧ _)) at RY
                    generalize sizeC y = zy at *
                    have e1 : IntKind.i64.wrap ((zc : Int) - (zy : Int)) = (zc : Int) - (zy : Int) := IntWalk.i64_in _ (by omega)
                    clear hfv hf hfl FS FN hyo
                    refine (FI1.out _).mono ?_; rintro e w3 ⟨rfl, hb⟩
                    have P3 := Lib.hid (P2.out.kept hb)
                    have C3 := Lib.hid (C2.out.kept hb)
                    have HB3 := Lib.hid (HB2.out.trans (hb.mono (Below.size HB2.out)))
                    clear hb HB2 P2 C2
                    have hal := (Below.refl (w3).heap.size (w3)).alloc (Nat.le_refl _) (.cells #[.string y.key, .string y.val, .int .i64 y.blob, .int .i64 y.size] 31)
                    replace P3 := Lib.hid (P3.out.kept hal)
                    replace C3 := Lib.hid (C3.out.kept hal)
                    have O3 := Lib.hid (Box.new (w3) (.string y.key) (.string y.val) (.int .i64 y.blob) (.int .i64 y.size))
                    replace HB3 := Lib.hid (HB3.out.trans (hal.mono (Below.size HB3.out)))
                    clear hal
                    obtain ⟨oC0, oC1, oC2, oC3⟩ := C3.out.cells
                    go_wp2_with fail
                    clear oC0 oC1 oC2 oC3
                    obtain ⟨bO, hbO⟩ : ∃ bO, bO = (w3).heap.size := ⟨_, rfl⟩
                    rw [← hbO] at O3 ⊢
                    have HLO := Lib.hid hbO
                    clear hbO
                    generalize (w3).alloc (.cells #[.string y.key, .string y.val, .int .i64 y.blob, .int .i64 y.size] 31) = v3 at *
                    clear HLO
                    refine (RC.out _).mono ?_; rintro e w4 ⟨rfl, hb⟩
                    have P4 := Lib.hid (P3.out.kept hb)
                    have C4 := Lib.hid (C3.out.kept hb)
                    have O4 := Lib.hid (O3.out.kept hb)
                    have HB4 := Lib.hid (HB3.out.trans (hb.mono (Below.size HB3.out)))
                    clear hb HB3 P3 C3 O3
                    obtain ⟨oO0, oO1, oO2, oO3⟩ := O4.out.cells
                    go_wp2_with fail
                    clear oO0 oO1 oO2 oO3
                    refine (RY.out _).mono ?_; rintro e w5 ⟨rfl, hb⟩
                    have P5 := Lib.hid (P4.out.kept hb)
                    have C5 := Lib.hid (C4.out.kept hb)
                    have O5 := Lib.hid (O4.out.kept hb)
                    have HB5 := Lib.hid (HB4.out.trans (hb.mono (Below.size HB4.out)))
                    clear hb HB4 P4 C4 O4
                    obtain ⟨oP0, oP1, oP2, oP3⟩ := P5.out.cells
                    obtain ⟨oC0, oC1, oC2, oC3⟩ := C5.out.cells
                    go_wp2_with fail
                    clear oP0 oP1 oP2 oP3 oC0 oC1 oC2 oC3
                    have hfl := HFL.out
                    clear HFL
                    by_cases hle : (zc : Int) - (zy : Int) ≤ rm
                    · as_aux_lemma =>
                        have hput : putOk (setS m ⟨q, z, 0, 0⟩) = true := by rw [hfl.1]; exact decide_eq_true hle
                        have hres := set_yes (d := 0) (x := 0) (k := 3) rfl HM.out HCO.out hput
                        have RO2 := Lib.hid (fun w => RO.out _ hput w)
                        rw [room_body rfl hput, hfl.2] at RO2
                        rw [hres] at SE1
                        have HPUT := Lib.hid hput
                        obtain ⟨sq, hsq⟩ : ∃ s, s = str (bodyOf (setS m ⟨q, z, 0, 0⟩)) := ⟨_, rfl⟩
                        rw [← hsq] at SE1 RO2
                        have HSQ := Lib.hid hsq
                        clear hput hres hsq hfl
                        refine (SE1.out _).mono ?_; rintro e w6 ⟨rfl, hb⟩
                        have P6 := Lib.hid (P5.out.kept hb)
                        have C6 := Lib.hid (C5.out.kept hb)
                        have O6 := Lib.hid (O5.out.kept hb)
                        have HB6 := Lib.hid (HB5.out.trans (hb.mono (Below.size HB5.out)))
                        clear hb HB5 P5 C5 O5
                        have hal := (Below.refl (w6).heap.size (w6)).alloc (Nat.le_refl _) (.cells #[.int .i64 3, .int .i64 0, .int .i64 0, .string sq] 25)
                        replace P6 := Lib.hid (P6.out.kept hal)
                        replace C6 := Lib.hid (C6.out.kept hal)
                        replace O6 := Lib.hid (O6.out.kept hal)
                        have Q6 := Lib.hid (PBox.new (w6) (3) (0) (0) (sq))
                        replace HB6 := Lib.hid (HB6.out.trans (hal.mono (Below.size HB6.out)))
                        clear hal
                        go_wp2_with fail
                        obtain ⟨bQ, hbQ⟩ : ∃ bQ, bQ = (w6).heap.size := ⟨_, rfl⟩
                        rw [← hbQ] at Q6 ⊢
                        have HLQ := Lib.hid hbQ
                        clear hbQ
                        generalize (w6).alloc (.cells #[.int .i64 3, .int .i64 0, .int .i64 0, .string sq] 25) = v6 at *
                        clear HLQ
                        refine (RO2.out _).mono ?_; rintro e w7 ⟨rfl, hb⟩
                        have P7 := Lib.hid (P6.out.kept hb)
                        have C7 := Lib.hid (C6.out.kept hb)
                        have O7 := Lib.hid (O6.out.kept hb)
                        have Q7 := Lib.hid (Q6.out.kept hb)
                        have HB7 := Lib.hid (HB6.out.trans (hb.mono (Below.size HB6.out)))
                        clear hb HB6 P6 C6 O6 Q6
                        obtain ⟨⟨oP0, oP1, oP2, oP3⟩, fP0, fP1, fP2, fP3⟩ := And.intro P7.out.cells P7.out.free
                        obtain ⟨oQ0, oQ1, oQ2, oQ3⟩ := Q7.out.cells
                        go_wp2_with fail
                        go_roundw
                        case rel =>
                          refine ⟨k + 1, by omega, by go_num, setS m ⟨q, z, 0, 0⟩, HPUT.out, ?_, below_set4 HB7.out HLE.out⟩
                          rw [← HSQ.out]
                          exact P7.out.set4 _ _ _ _
                        case measure => simp [intOf]; omega
                    · as_aux_lemma =>
                        have hput : putOk (setS m ⟨q, z, 0, 0⟩) = false := by rw [hfl.1]; exact decide_eq_false hle
                        have hres := set_full (d := 0) (x := 0) (k := 3) rfl HM.out HCO.out hput
                        rw [hres] at SE1
                        clear hput hres hfl
                        refine (SE1.out _).mono ?_; rintro e w6 ⟨rfl, hb⟩
                        have P6 := Lib.hid (P5.out.kept hb)
                        have C6 := Lib.hid (C5.out.kept hb)
                        have O6 := Lib.hid (O5.out.kept hb)
                        have HB6 := Lib.hid (HB5.out.trans (hb.mono (Below.size HB5.out)))
                        clear hb HB5 P5 C5 O5
                        have hal := (Below.refl (w6).heap.size (w6)).alloc (Nat.le_refl _) (.cells #[.int .i64 0, .int .i64 0, .int .i64 0, .string ⟨#[]⟩] 25)
                        replace P6 := Lib.hid (P6.out.kept hal)
                        replace C6 := Lib.hid (C6.out.kept hal)
                        replace O6 := Lib.hid (O6.out.kept hal)
                        have Q6 := Lib.hid (PBox.new (w6) (0) (0) (0) (⟨#[]⟩))
                        replace HB6 := Lib.hid (HB6.out.trans (hal.mono (Below.size HB6.out)))
                        clear hal
                        go_wp2_with fail
                        go_roundw
                        case rel => exact ⟨k + 1, by omega, by go_num, m, HM.out, by rw [← HSP.out]; exact P6.out, HB6.out⟩
                        case measure => simp [intOf]; omega
              · rw [show keyB q.size = false from decide_eq_false hkey] at KQ
                go_wp2_with fail
                refine (KQ.out _).mono ?_; rintro e w1 ⟨rfl, rfl⟩
                go_wp2_with fail
                go_ret
                exact ⟨rfl, HB0.out⟩
          · obtain rfl : n0 = k := by omega
            have q1 : ¬ (n0 : Int) < (n0 : Int) := by omega
            have CY := Lib.hid (CE.out m HM.out)
            rw [(goodP_body (k := 3) rfl HM.out).2] at CY
            unfold NewL at CY
            obtain ⟨N, hN⟩ : ∃ N, m.length = N := ⟨_, rfl⟩
            have HN := Lib.hid hN
            have hN47 : N ≤ 47 := by rw [← hN]; exact put_len HM.out
            rw [hN] at CY
            obtain ⟨sp, hsp⟩ : ∃ s, s = str (bodyOf m) := ⟨_, rfl⟩
            rw [← hsp] at CY P0
            have HSP := Lib.hid hsp
            have HPL := Lib.hid P0.out.lt
            clear hN hsp CE FI RO KE ZE RS HP HZ
            obtain ⟨oP0, oP1, oP2, oP3⟩ := P0.out.cells
            go_wp2_with fail
            clear oP0 oP1 oP2 oP3
            refine (CY.out _).mono ?_; rintro e w1 ⟨A2, c2, rfl, ho, hb⟩
            have P1 := Lib.hid (P0.out.kept hb)
            have HB1 := Lib.hid (HB0.out.trans (hb.mono (Below.size HB0.out)))
            have HO := Lib.hid (own_n ho HN.out)
            clear ho hb P0 HB0 CY
            obtain ⟨D, hD⟩ : ∃ D, D = wr.heap.size := ⟨_, rfl⟩
            rw [← hD] at HPL HO
            clear hD
            go_wp2_with fail
            go_loopw [97] (fun x wr => ∃ j : Nat, j ≤ N ∧ x = .int .i64 j ∧ Hid (∃ m', putOk m' = true ∧ (∀ x ∈ m, ∃ y ∈ m', y.key = x.key) ∧ PBox wr bP 3 0 0 (str (bodyOf m')) ∧ (∀ g, g < w1.heap.size → g ≠ bP → wr.heap[g]? = w1.heap[g]?) ∧ w1.heap.size ≤ wr.heap.size ∧ Below w.heap.size w wr)) (fun x _ => N - (intOf x).toNat)
            case atStart => exact ⟨0, Nat.zero_le _, rfl, m, HM.out, fun x hx => ⟨x, hx, rfl⟩, by rw [← HSP.out]; exact P1.out, fun _ _ _ => rfl, Nat.le_refl _, HB1.out⟩
            case round =>
              obtain ⟨j, hj, rfl, hq⟩ := hrel
              obtain ⟨m', ha, hb, hc, hd, he, hf⟩ := hq.out
              have HM' := Lib.hid ha
              have HKY := Lib.hid hb
              have P0 := Lib.hid hc
              have HKP := Lib.hid hd
              have HSZ := Lib.hid he
              have HBW := Lib.hid hf
              clear hq ha hb hc hd he hf P1 HB1
              have j0 : (0 : Int) ≤ (j : Int) := by omega
              by_cases hjn : j < N
              · as_aux_lemma =>
                  have j1 : (j : Int) < (N : Int) := by omega
                  obtain ⟨g, rfl, hg1, hg2, hce⟩ := own_at HO.out HN.out hjn
                  obtain ⟨d0, d1, d2, d3⟩ := CeAt.heap hce (HKP.out g hg2 (fun e => by have := HPL.out; omega))
                  have hmem := getD_mem (show j < m.length by rw [HN.out]; exact hjn)
                  obtain ⟨y', hy', hyk⟩ := HKY.out _ hmem
                  have hss := set_small HM'.out hy' hyk
                  have HKK := Lib.hid (keys_kept (putOk_rise HM'.out) HKY.out ⟨(m.getD j nilC).key, ⟨#[]⟩, 0, 0⟩)
                  have SY := Lib.hid (fun w => SE.out m' HM'.out ⟨(m.getD j nilC).key, ⟨#[]⟩, 0, 0⟩ w)
                  rw [set_yes (k := 3) (d := 0) (x := 0) rfl HM'.out hss.1 hss.2] at SY
                  have HPO := Lib.hid hss.2
                  generalize m.getD j nilC = y at *
                  unfold cvC cv at SY
                  obtain ⟨s1, hs1⟩ : ∃ s, s = str (bodyOf m') := ⟨_, rfl⟩
                  obtain ⟨s2, hs2⟩ : ∃ s, s = str (bodyOf (setS m' ⟨y.key, ⟨#[]⟩, 0, 0⟩)) := ⟨_, rfl⟩
                  rw [← hs1, ← hs2] at SY
                  rw [← hs1] at P0
                  have HS2 := Lib.hid hs2
                  have HB0 := Lib.hid (Below.refl wr.heap.size wr)
                  clear hs1 hs2 hss hmem hy' hyk hg1 hg2 hce
                  have hal := (Below.refl (wr).heap.size (wr)).alloc (Nat.le_refl _) (.cells #[.string y.key, .string y.val, .int .i64 y.blob, .int .i64 y.size] 31)
                  replace P0 := Lib.hid (P0.out.kept hal)
                  have X0 := Lib.hid (Box.new (wr) (.string y.key) (.string y.val) (.int .i64 y.blob) (.int .i64 y.size))
                  replace HB0 := Lib.hid (HB0.out.trans (hal.mono (Below.size HB0.out)))
                  clear hal
                  obtain ⟨oP0, oP1, oP2, oP3⟩ := P0.out.cells
                  go_wp2_with fail
                  clear oP0 oP1 oP2 oP3
                  clear d0 d1 d2 d3
                  obtain ⟨bX, hbX⟩ : ∃ bX, bX = (wr).heap.size := ⟨_, rfl⟩
                  rw [← hbX] at X0 ⊢
                  have HLX := Lib.hid hbX
                  clear hbX
                  generalize (wr).alloc (.cells #[.string y.key, .string y.val, .int .i64 y.blob, .int .i64 y.size] 31) = v0 at *
                  clear X0
                  clear HLX
                  refine (SY.out _).mono ?_; rintro e w1 ⟨rfl, hb⟩
                  have P1 := Lib.hid (P0.out.kept hb)
                  have HB1 := Lib.hid (HB0.out.trans (hb.mono (Below.size HB0.out)))
                  clear hb HB0 P0
                  have hal := (Below.refl (w1).heap.size (w1)).alloc (Nat.le_refl _) (.cells #[.int .i64 3, .int .i64 0, .int .i64 0, .string s2] 25)
                  replace P1 := Lib.hid (P1.out.kept hal)
                  have Q1 := Lib.hid (PBox.new (w1) (3) (0) (0) (s2))
                  replace HB1 := Lib.hid (HB1.out.trans (hal.mono (Below.size HB1.out)))
                  clear hal
                  obtain ⟨⟨oP0, oP1, oP2, oP3⟩, fP0, fP1, fP2, fP3⟩ := And.intro P1.out.cells P1.out.free
                  go_wp2_with fail
                  go_roundw
                  case rel =>
                    refine ⟨j + 1, by omega, by go_num, setS m' ⟨y.key, ⟨#[]⟩, 0, 0⟩, HPO.out, HKK.out, ?_, fun g hg hne => ?_, ?_, below_set4 (HBW.out.trans (HB1.out.mono (Below.size HBW.out))) HLE.out⟩
                    · rw [← HS2.out]; exact P1.out.set4 _ _ _ _
                    · rw [heap_set4 _ _ _ _ _ _ _ hne, HB1.out.block g (Nat.lt_of_lt_of_le hg HSZ.out)]
                      exact HKP.out g hg hne
                    · rw [World.size_setCell, World.size_setCell, World.size_setCell, World.size_setCell]
                      exact Nat.le_trans HSZ.out (Below.size HB1.out)
                  case measure => simp [intOf]; omega
              · obtain rfl : N = j := by omega
                have j1 : ¬ (N : Int) < (N : Int) := by omega
                go_wp2_with fail
                go_ret
                exact ⟨rfl, HBW.out⟩

/-! The row's step. -/
set_option maxRecDepth 100000 in
theorem lifted (os : Os) (started : os.Started) (H : Type) (enc : TypeId × Value → H) :
    ReturnsInHanded {} Try.checked os 3 .any (Rows.bucketFillsSpec.pre6 enc Try.prog Try.f3 Rows.bucketFillsRow.domain false) (Rows.bucketFillsSpec.post enc Try.prog Try.f3 false true false false) := by
  refine returnsInHanded_of_change (C := Try.checked) own started (by kernel_rfl) Try.func3
    (ChangeSpec.witness6 (enc := enc) (C := Try.checked) false ⟨#[], #[.slice none 0 0, .int .i64 0], []⟩ 8 (by kernel_rfl) (by kernel_rfl) (by kernel_rfl) (by kernel_rfl)) ?_
  intro W base args ds gs before hval0 hW hcnd _
  have hval : ∀ (j : Nat) t v, Try.f3.params[j]? = some t → args[j]? = some v → Value.okWide Try.prog W .any base t v := hval0
  have hW' := hW
  obtain ⟨p, q, hA0, hV, rfl, hfz, hnd⟩ := hW
  have hA : DataW.TrodAll enc Try.prog W 0 (fun _ => true) true Try.f3.params.toList args.toList ds p := hA0
  rw [Try.params3] at hA hval
  obtain ⟨v0, vs0, d0, ds0, p0, q0, hargs, rfl, rfl, h0, r0⟩ := trodAll_cons hA
  obtain ⟨v1, vs1, d1, ds1, p1, q1, rfl, rfl, rfl, h1, r1⟩ := trodAll_cons r0
  obtain ⟨rfl, rfl, rfl⟩ := trodAll_nil r1
  obtain rfl : args = #[v0, v1] := by cases args; simp_all
  obtain ⟨rfl, rfl⟩ := trodVars_none hV
  obtain ⟨A0, n0, c0, rfl⟩ := okWide_slice Try.underlying22 (hval 0 22 v0 rfl rfl)
  have k0 := h0
  have lt0 : ∀ x ∈ p0, x.block < W.heap.size := by obtain ⟨m, hm⟩ := k0; exact DataW.trod_lt m _ _ _ hm
  obtain ⟨l0, w0, e0, f0⟩ := (by obtain ⟨fuel, hf⟩ := h0; exact strs_read hf (fun _ => rfl) : ∃ l, Strs W A0 n0 l ∧ n0 ≤ c0 ∧ c0 ≤ maxLen)
  obtain ⟨a1, rfl, rfl, rfl, w1⟩ := open_int Try.underlying3 (hval 1 3 v1 rfl rfl) h1
  clear hA0 hval0
  refine (walk A0 n0 c0 l0 a1 W w0 (Nat.le_trans e0 f0) w1).mono fun e W' ⟨he, bel⟩ => ?_
  subst he
  exact ⟨_, rfl, _, _, _, [], _, [], hW', trodAll_mk1 (shut_bool Try.underlying4 _), (trodAll_cons_mk (Below.trod laidOut (by kernel_rfl) (of_decide_eq_true (by kernel_rfl)) k0 bel lt0) (trodAll_cons_mk (shut_int Try.underlying3 w1) trodAll_mk0)), rfl, bel.frame _, fun h => by cases h⟩

theorem over : Rows.bucketFillsRow.holds Try.pinned (OpenSpec.ofChange Rows.bucketFillsSpec) :=
  OpenClaim.holds_of_wide 3 Try.f3 rfl rfl rfl rfl rfl rfl rfl ⟨rfl, rfl, rfl, rfl, rfl⟩ rfl rfl rfl rfl rfl (by kernel_rfl) Try.func3 (by kernel_rfl)
    (of_decide_eq_true (by kernel_rfl)) (by unfold Func.isWrapper; first | (rw [if_pos (by decide +kernel)]; kernel_rfl) | (rw [if_neg (by decide +kernel)]; exact ⟨rfl, rfl⟩))
    (fun os started H enc _ => lifted os started H enc)

/-- The statement. -/
theorem proved : Rows.BucketFillsSaid := over
end Go.Proofs.Ytljegjcajlkgiaa.bucketFills
