/- The contracts of the reader's sector, of eachSector, of Scan. -/
import Derived.Test.YtbdpmfgphhgigaaGreatReader
import Derived.Test.YtbdpmfgphhgigaaGreatList
namespace Go.Proofs.YtbdpmfgphhgigaaGreat
open Go.ChangeShapes Go.WideShapes Go.ChangeAt Go.RowKit
set_option linter.unusedVariables false
set_option linter.unusedSimpArgs false
set_option maxRecDepth 100000
theorem to_bytes2 (w : World) (m : BA) : ∃ c w2, (convert 9 64 (.string (str m))).run Tryz.prog w = .ok (.slice (some ⟨w.heap.size, 0, none⟩) m.length c) w2 ∧
    (∀ k (hk : k < m.length), w2.cell? ⟨w.heap.size, k, none⟩ = some (.int .u8 ((m[k]'hk).toNat : Int))) ∧ Below w.heap.size w w2 ∧ m.length ≤ c ∧ w.heap.size < w2.heap.size ∧ ∀ cs, w2.heap[w.heap.size]? ≠ some (.cells cs 9 (0, 0)) := by
  refine ⟨_, _, run_bytes_of_string (P := Tryz.prog) w 9 64 5 (str m) Tryz.underlying9 Tryz.underlying64 Tryz.underlying5, fun k hk => ?_, (Below.refl _ _).drew.alloc (Nat.le_refl _) _, grownCap_ge _ _ _ _, by rw [World.size_alloc]; exact Nat.lt_succ_self _, fun cs e => ?_⟩
  · have hh := World.cell?_alloc_mark w.drew (bytesRow (str m) (grownCap w (str m).size 0 5)) 5 ((bytesRow (str m) (grownCap w (str m).size 0 5)).size, (bytesRow (str m) (grownCap w (str m).size 0 5)).size + 1) k
    refine hh.trans ?_
    rw [bytesRow_at (str m) _ k (by simpa [str] using hk)]
    simp [str]
  · have := (World.alloc_heap_new w.drew _).symm.trans e
    simp at this
/-- The reader at block B, whatever its rows. -/
def RdZ (n₀ : Nat) (w : World) (B : Nat) (x : Sx) (r : Rd) : Prop :=
  ∃ vr vb, Bx w B (rds x r B vr vb) 78 ∧ OwnT n₀ w vr r.out ∧ w.ownsRow n₀ 5 1 vb r.rc.length (bcs r.rc) ∧ n₀ ≤ B
theorem RdM.z {n₀ X B : Nat} {w : World} {x : Sx} {r : Rd} {vr vb : Value} (h : RdM n₀ X w B x r vr vb) : RdZ n₀ w B x r := ⟨vr, vb, h.1, h.2.1, h.2.2.1, h.2.2.2.2⟩
theorem fold_out (x : Sx) : ∀ (p : BA) (r : Rd), (foldR x r p).out.length ≤ r.out.length + p.length
  | [], r => Nat.le_refl _
  | b :: p, r => by
    have h1 := out_step x r b
    have h2 := fold_out x p (stepR x r b)
    show (foldR x (stepR x r b) p).out.length ≤ _
    rw [List.length_cons]
    omega
theorem fold_take (x : Sx) (r : Rd) (p : BA) (k : Nat) (h : k < p.length) : foldR x r (p.take (k + 1)) = stepR x (foldR x r (p.take k)) p[k] := by
  rw [List.take_succ_eq_append_getElem h]
  unfold foldR
  rw [List.foldl_append]
  rfl
theorem fn0 (B : Nat) : fnV 0 B = .func (.func 85) #[ptr B] #[] := rfl
theorem fn1 (B : Nat) : fnV 1 B = .func (.func 108) #[ptr B] #[] := rfl
theorem fn2 (B : Nat) : fnV 2 B = .func (.func 113) #[ptr B] #[] := rfl
theorem fn3 (B : Nat) : fnV 3 B = .func (.func 114) #[ptr B] #[] := rfl
/-- One byte, whatever the reader calls. -/
def RelX (r : Rd) : Prop := ∃ out op dead, Rel out op dead r
theorem RelX.step {r : Rd} (h : RelX r) (x : Sx) (b : UInt8) : RelX (stepR x r b) := by
  obtain ⟨out, op, dead, h⟩ := h
  exact ⟨_, _, _, (h.step x b).1⟩
theorem RelX.fold (x : Sx) : ∀ (p : BA) {r : Rd}, RelX r → RelX (foldR x r p)
  | [], r, h => h
  | b :: p, r, h => RelX.fold x p (h.step x b)
theorem RelX.ways {r : Rd} (h : RelX r) : r.mode = 0 ∨ (r.mode = 1 ∧ ∃ a : UInt8, r.size = (a.toNat : Int) * 256) ∨ (r.mode = 2 ∧ (r.rc.length : Int) < r.size ∧ r.size ≤ 65535) ∨ r.mode = 3 := by
  obtain ⟨out, op, dead, _, h⟩ := h
  rcases h with ⟨h, _⟩ | ⟨h, _, a, _, h2⟩ | ⟨h, _, a, l, _, h2, h3⟩ | ⟨h, _⟩
  · exact .inl h
  · exact .inr (.inl ⟨h, a, h2⟩)
  · have := a.toNat_lt
    have := l.toNat_lt
    exact .inr (.inr (.inl ⟨h, by omega, by omega⟩))
  · exact .inr (.inr (.inr h))
/-- The loop's state in sector. -/
def SecI (n₀ X B : Nat) (w0 : World) (x : Sx) (r : Rd) (k : Nat) (wr : World) : Prop := ∃ vr vb, RdM n₀ X wr B x (foldR x r (x.pl.take k)) vr vb ∧ KpX n₀ X w0 wr ∧ w0.heap.size ≤ wr.heap.size
theorem SecI.next {n₀ X B : Nat} {w0 : World} {x : Sx} {r : Rd} {k : Nat} {wr w' : World} (hk : k < x.pl.length) (hK : KpX n₀ X w0 wr) (h : ∃ vr vb, RdM n₀ X w' B x (stepR x (foldR x r (x.pl.take k)) x.pl[k]) vr vb ∧ KpX n₀ X wr w') : SecI n₀ X B w0 x r (k + 1) w' := by
  obtain ⟨vr, vb, h1, h2⟩ := h
  unfold SecI
  rw [fold_take x r x.pl k hk]
  exact ⟨vr, vb, h1, hK.trans h2, (hK.trans h2).1.1.size⟩
theorem step0 {x : Sx} {r : Rd} {b : UInt8} (h : r.mode = 0) : stepR x r b = hiR r b := by unfold stepR; rw [if_pos h]
theorem step1 {x : Sx} {r : Rd} {b : UInt8} (h : r.mode = 1) : stepR x r b = loR r b := by unfold stepR; rw [if_neg (by omega), if_pos h]
theorem step2 {x : Sx} {r : Rd} {b : UInt8} (h : r.mode = 2) : stepR x r b = boR x r b := by unfold stepR; rw [if_neg (by omega), if_neg (by omega), if_pos h]
theorem step3 {x : Sx} {r : Rd} {b : UInt8} (h : r.mode = 3) : stepR x r b = r := by unfold stepR; rw [if_neg (by omega), if_neg (by omega), if_neg (by omega)]
theorem Bx.other4' {w : World} {B C : Nat} {cs : Array Value} {t : TypeId} (h : Bx w B cs t) (hne : B ≠ C) (v0 v1 v2 v3 : Value) : Bx ((((w.setCell ⟨C, 3, none⟩ v0).setCell ⟨C, 4, none⟩ v1).setCell ⟨C, 5, none⟩ v2).setCell ⟨C, 6, none⟩ v3) B cs t := (((h.other hne 3 v0).other hne 4 v1).other hne 5 v2).other hne 6 v3
/-- What sector leaves. -/
def SecP (n₀ : Nat) (w : World) (B : Nat) (x : Sx) (q : Rd) (e : Ending) (w' : World) : Prop := e = .returned (.tuple #[]) ∧ RdZ n₀ w' B x q ∧ KpS n₀ w w'
set_option maxHeartbeats 4000000 in
theorem sector_any {n₀ B : Nat} {w : World} {x y : Sx} {r : Rd} (h : RdZ n₀ w B y r) (hx : okX x = true) (hr : RelX (startR x r)) (ho : r.out.length ≤ 900000) : Calls Tryz.prog 37 #[ptr B, sv x] w fun e w' => SecP n₀ w B x (foldR x (startR x r) x.pl) e w' := by
  obtain ⟨vr, vb, h1, h2, h3, h4⟩ := h
  obtain ⟨k1, k2, k3, k4, k5, k6⟩ := okX_iff.1 hx
  have HX := Lib.hid hx
  have HR := Lib.hid hr
  have hn0 : n₀ ≤ w.heap.size := by have := h1.lt; omega
  have hne : B ≠ w.heap.size := Nat.ne_of_lt h1.lt
  have HBL := Lib.hid h1.lt
  have H1 := Lib.hid (h1.alloc (.cells (svs x) 23))
  have H2 := Lib.hid (h2.kept ((Below.refl w.heap.size w).alloc (Nat.le_refl _) (.cells (svs x) 23)))
  have H3 := Lib.hid (h3.alloc (.cells (svs x) 23))
  have HB := Lib.hid (KpS.of_below hn0 ((Below.refl w.heap.size w).alloc (Nat.le_refl _) (.cells (svs x) 23)))
  have HS := Lib.hid (Sb.new w x)
  obtain ⟨d0, d1, d2, d3⟩ := HS.out.cells
  have c3 : (w.alloc (.cells (svs x) 23)).cell? ⟨B, 3, none⟩ = some (.int .i64 y.ep) := H1.out.cell 3
  have c4 : (w.alloc (.cells (svs x) 23)).cell? ⟨B, 4, none⟩ = some (.int .i64 y.ix) := H1.out.cell 4
  have c5 : (w.alloc (.cells (svs x) 23)).cell? ⟨B, 5, none⟩ = some (.bool y.fr) := H1.out.cell 5
  have c6 : (w.alloc (.cells (svs x) 23)).cell? ⟨B, 6, none⟩ = some (.string (str y.pl)) := H1.out.cell 6
  have f3 := H1.out.free 3
  have f4 := H1.out.free 4
  have f5 := H1.out.free 5
  have f6 := H1.out.free 6
  rw [show svs x = #[.int .i64 x.ep, .int .i64 x.ix, .bool x.fr, .string (str x.pl)] from rfl] at *
  clear h1 h2 h3 hx hr
  unfold sv
  go_enter Tryz.func37, Tryz.ntmps37
  go_upto_region 2 with fail
  clear c3 c4 c5 c6 f3 f4 f5 f6 d0 d1 d2 d3
  have hbut := ((((But.refl B (w.alloc (.cells #[.int .i64 x.ep, .int .i64 x.ix, .bool x.fr, .string (str x.pl)] 23))).set 3 (.int .i64 x.ep)).set 4 (.int .i64 x.ix)).set 5 (.bool x.fr)).set 6 (.string (str x.pl))
  have hBx : Bx _ B (rds x r B vr vb) 78 := (((H1.out.set 3 (.int .i64 x.ep)).set 4 (.int .i64 x.ix)).set 5 (.bool x.fr)).set 6 (.string (str x.pl))
  have HS2 := Lib.hid (show Sb _ w.heap.size x from Bx.other4' HS.out hne.symm (.int .i64 x.ep) (.int .i64 x.ix) (.bool x.fr) (.string (str x.pl)))
  have HM := Lib.hid (show _ ∧ _ from ⟨owns_kept2 H2.out fun g hg => hbut.block g (row_other H2.out H1.out (by decide) g hg), owns_kept2 H3.out fun g hg => hbut.block g (row_other H3.out H1.out (by decide) g hg)⟩)
  have HBX := Lib.hid hBx
  have HB2 := Lib.hid (HB.out.trans (hbut.kps h4 H1.out))
  have HSZ := Lib.hid (show B < _ from hBx.lt)
  clear hbut hBx H1 H2 H3 HB HS
  generalize ((((w.alloc (.cells #[.int .i64 x.ep, .int .i64 x.ix, .bool x.fr, .string (str x.pl)] 23)).setCell ⟨B, 3, none⟩ (.int .i64 x.ep)).setCell ⟨B, 4, none⟩ (.int .i64 x.ix)).setCell ⟨B, 5, none⟩ (.bool x.fr)).setCell ⟨B, 6, none⟩ (.string (str x.pl)) = V at *
  obtain ⟨d0, d1, d2, d3⟩ := HS2.out.cells
  have c7 : V.cell? ⟨B, 7, none⟩ = some (fnV r.mode B) := HBX.out.cell 7
  have f7 := HBX.out.free 7
  obtain ⟨f', hf'⟩ : ∃ f', f' = x.fr := ⟨_, rfl⟩
  rw [← hf'] at d2
  have HFE := Lib.hid hf'
  clear hf'
  go_upto_if 11 with fail
  go_cut [12] (fun s wx => s = s ∧ Hid (RdZ n₀ wx B x (startR x r) ∧ Sb wx w.heap.size x ∧ KpS n₀ w wx))
  case first =>
    cases f' with
    | true =>
      have hf : x.fr = true := HFE.out.symm
      have HST := Lib.hid (show RdZ n₀ (V.setCell ⟨B, 7, none⟩ (.func (.func 85) #[ptr B] #[])) B x (startR x r) ∧ Sb (V.setCell ⟨B, 7, none⟩ (.func (.func 85) #[ptr B] #[])) w.heap.size x ∧ KpS n₀ w (V.setCell ⟨B, 7, none⟩ (.func (.func 85) #[ptr B] #[])) from by
        have hb := (But.refl B V).set 7 (.func (.func 85) #[ptr B] #[])
        unfold startR
        rw [hf, if_pos rfl]
        exact ⟨⟨vr, vb, HBX.out.set 7 _, owns_kept2 HM.out.1 fun g hg => hb.block g (row_other HM.out.1 HBX.out (by decide) g hg), owns_kept2 HM.out.2 fun g hg => hb.block g (row_other HM.out.2 HBX.out (by decide) g hg), h4⟩, Bx.other HS2.out hne.symm 7 _, HB2.out.trans (hb.kps h4 HBX.out)⟩)
      clear hf
      go_wp2_with fail
      go_meet
      exact ⟨trivial, HST.out⟩
    | false =>
      have hf : x.fr = false := HFE.out.symm
      have HST := Lib.hid (show RdZ n₀ V B x (startR x r) ∧ Sb V w.heap.size x ∧ KpS n₀ w V from by
        unfold startR
        rw [hf]
        exact ⟨⟨vr, vb, HBX.out, HM.out.1, HM.out.2, h4⟩, HS2.out, HB2.out⟩)
      clear hf
      go_wp2_with fail
      go_meet
      exact ⟨trivial, HST.out⟩
  case rest =>
    obtain ⟨-, hq⟩ := hcut
    have HZ := Lib.hid hq.out.1
    have HS3 := Lib.hid hq.out.2.1
    have HB3 := Lib.hid hq.out.2.2
    clear hq HBX HS2 HB2 HM HSZ d0 d1 d2 d3 c7 f7
    obtain ⟨d0, d1, d2, d3⟩ := HS3.out.cells
    obtain ⟨c, w2, hcv, hcell, hb2, hc2, hs2, hty⟩ := to_bytes2 wc x.pl
    have HC := Lib.hid hcell
    have HT := Lib.hid hty
    have hsl : (x.pl.length : Int) ≤ 56 := by omega
    have hstart : ∃ vr vb, RdM n₀ wc.heap.size w2 B x (startR x r) vr vb ∧ KpS n₀ w w2 := by
      obtain ⟨vr', vb', z1, z2, z3, z4⟩ := HZ.out
      refine ⟨vr', vb', ⟨z1.held hb2, z2.kept hb2, owns_kept2 z3 fun g hg => hb2.block g (z3.lt g hg).2, ?_, z4⟩, HB3.out.trans (KpS.of_below (Nat.le_trans hn0 HB3.out.1.size) hb2)⟩
      intro e
      have := (z3.lt _ e).2
      omega
    have hBlt : B < wc.heap.size := by obtain ⟨vr', vb', z1, _⟩ := HZ.out; exact z1.lt
    have HST := Lib.hid hstart
    have HB2 := Lib.hid hb2
    clear hcell hty hstart hb2 HZ HS3 HB3
    go_wp2_with fail
    clear d0 d1 d2 d3 hcv
    go_loopw [21] (fun i wr => ∃ k : Nat, k ≤ x.pl.length ∧ i = .int .i64 k ∧ Hid (SecI n₀ wc.heap.size B w2 x (startR x r) k wr)) (fun i _ => x.pl.length - (intOf i).toNat)
    case atStart =>
      refine ⟨0, Nat.zero_le _, rfl, ?_⟩
      obtain ⟨vr', vb', z, _⟩ := HST.out
      exact ⟨vr', vb', z, KpX.refl _ _ _, Nat.le_refl _⟩
    case round =>
      obtain ⟨k, hk, rfl, hq⟩ := hrel
      obtain ⟨vr1, vb1, hR, hK, hsz⟩ := hq.out
      have b0 : (0 : Int) ≤ (k : Int) := by omega
      by_cases hlt : k < x.pl.length
      · have b1 : (k : Int) < (x.pl.length : Int) := by omega
        have hce : wr.cell? ⟨wc.heap.size, k, none⟩ = some (.int .u8 ((x.pl[k]'hlt).toNat : Int)) := (World.cell?_of_block (a := ⟨wc.heap.size, k, none⟩) hK.2).trans (HC.out k hlt)
        have hm7 := hR.cells.2.2.2.2.2.2.2.1
        have HRX := (HR.out.fold x (x.pl.take k)).ways
        have hol := fold_out x (x.pl.take k) (startR x r)
        have hso : (startR x r).out = r.out := by unfold startR; split <;> rfl
        rw [List.length_take, hso] at hol
        have HNX := Lib.hid (fun w' (h : ∃ vr vb, RdM n₀ wc.heap.size w' B x (stepR x (foldR x (startR x r) (x.pl.take k)) x.pl[k]) vr vb ∧ KpX n₀ wc.heap.size wr w') => SecI.next hlt hK h)
        have HRR := Lib.hid hR
        have HTY := Lib.hid (show ∀ cs, wr.heap[wc.heap.size]? ≠ some (.cells cs 9 (0, 0)) from fun cs e => HT.out cs (hK.2.symm.trans e))
        have HXL := Lib.hid (show wc.heap.size < wr.heap.size by omega)
        have hne2 : wc.heap.size ≠ B := by omega
        clear hq hR hK hso
        generalize hb : x.pl[k] = b at *
        clear hb
        generalize foldR x (startR x r) (x.pl.take k) = q at *
        have hol2 : q.out.length ≤ 1000000 := by omega
        rcases HRX with hm | ⟨hm, a, ha⟩ | ⟨hm, hm1, hm2⟩ | hm
        · have CA := Lib.hid (high_any (n₀ := n₀) (X := wc.heap.size) (w := wr) (x := x) b HRR.out hne2)
          rw [hm, fn0] at hm7
          rw [step0 hm] at HNX
          clear hol hol2
          go_wp2_with fail
          refine CA.out.mono ?_; rintro e w5 ⟨rfl, hst⟩
          have HN := Lib.hid (HNX.out _ hst)
          clear hst HNX CA HRR
          go_wp2_with fail
          go_roundw
          case rel => exact ⟨k + 1, by omega, by go_num, HN.out⟩
          case measure => simp [intOf] <;> omega
        · have CA := Lib.hid (low_any (n₀ := n₀) (X := wc.heap.size) (w := wr) (x := x) a b HRR.out hne2 ha)
          rw [hm, fn1] at hm7
          rw [step1 hm] at HNX
          clear hol hol2
          go_wp2_with fail
          refine CA.out.mono ?_; rintro e w5 ⟨rfl, hst⟩
          have HN := Lib.hid (HNX.out _ hst)
          clear hst HNX CA HRR
          go_wp2_with fail
          go_roundw
          case rel => exact ⟨k + 1, by omega, by go_num, HN.out⟩
          case measure => simp [intOf] <;> omega
        · have CA := Lib.hid (body_any (n₀ := n₀) (X := wc.heap.size) (w := wr) (x := x) b HRR.out HXL.out hne2 HTY.out hm hm1 hm2 hol2 ⟨k3, k4⟩)
          rw [hm, fn2] at hm7
          rw [step2 hm] at HNX
          clear hol hol2
          go_wp2_with fail
          refine CA.out.mono ?_; rintro e w5 ⟨rfl, hst⟩
          have HN := Lib.hid (HNX.out _ hst)
          clear hst HNX CA HRR
          go_wp2_with fail
          go_roundw
          case rel => exact ⟨k + 1, by omega, by go_num, HN.out⟩
          case measure => simp [intOf] <;> omega
        · have CA := Lib.hid (ended_any (n₀ := n₀) (X := wc.heap.size) (w := wr) (x := x) b HRR.out)
          rw [hm, fn3] at hm7
          rw [step3 hm] at HNX
          clear hol hol2
          go_wp2_with fail
          refine CA.out.mono ?_; rintro e w5 ⟨rfl, hst⟩
          have HN := Lib.hid (HNX.out _ hst)
          clear hst HNX CA HRR
          go_wp2_with fail
          go_roundw
          case rel => exact ⟨k + 1, by omega, by go_num, HN.out⟩
          case measure => simp [intOf] <;> omega
      · obtain rfl : k = x.pl.length := by omega
        have b1 : ¬ (x.pl.length : Int) < (x.pl.length : Int) := by omega
        have HF := Lib.hid (show SecP n₀ w B x (foldR x (startR x r) x.pl) (.returned (.tuple #[])) wr from by
          obtain ⟨_, _, _, hbw⟩ := HST.out
          have := hR.z
          rw [List.take_of_length_le (Nat.le_refl _)] at this
          exact ⟨rfl, this, hbw.trans hK.1⟩)
        clear hq hR hK
        go_wp2_with fail
        go_end0
        exact HF.out
end Go.Proofs.YtbdpmfgphhgigaaGreat
