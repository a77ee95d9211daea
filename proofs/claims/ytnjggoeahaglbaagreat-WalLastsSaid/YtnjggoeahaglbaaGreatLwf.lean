/- The program's log: Flush, To. -/
import Derived.Test.YtnjggoeahaglbaaGreatLwr
import Derived.Test.YtnjggoeahaglbaaGreatWw
namespace Go.Proofs.YtnjggoeahaglbaaGreat.Wa
open Go.ChangeShapes Go.WideShapes Go.ChangeAt Go.RowKit
open Fr
set_option linter.unusedVariables false
set_option linter.unusedSimpArgs false
set_option maxRecDepth 100000
theorem putW_fail {D : Dk.St} {n : Nat} {b : BA} {l : List BA} (h : (putW D n [b]).2 = false) : putW D n (b :: l) = ((putW D n [b]).1, false) := by
  cases hr : D.runs with
  | false => rw [putW_dead hr, putW_dead hr]
  | true =>
    by_cases h0 : D.left = 0
    · rw [putW_stop hr h0, putW_stop hr h0]
    · rw [putW_step hr h0] at h; cases h
theorem putW_last (D : Dk.St) (n : Nat) (l : List BA) : (putW D n l).1.last = D.last ∧ (putW D n l).1.pend.length ≤ D.pend.length + l.length := by
  obtain ⟨j, h1, h2, h3, _, _⟩ := putW_is l D n
  exact ⟨h2, by rw [h3, List.length_append, wrs_length]; omega⟩
/-- One write, one sync, whatever the disk's state. -/
theorem write_one {C p : Nat} {D : Dk.St} {w : World} (h : Dk.Disk C p D w) (n : Nat) (b : BA) (hn : n < D.last.length) (hb : b.length = 64) (hm : D.pend.length ≤ 1000000) :
    Calls Tryz.prog 43 #[.pointer (some ⟨p, 0, none⟩), .int .i64 (n : Int), .string (str b)] w fun e w' => e = .returned (.int .i64 (if (putW D n [b]).2 then 0 else 10)) ∧ Dk.Disk C p (putW D n [b]).1 w' ∧ Dk.Leaves C w w' := by
  cases hr : D.runs with
  | false =>
    rw [putW_dead hr]
    refine (Dk.write_dead_d h (n : Int) (.string (str b)) hr).mono ?_
    rintro e w' ⟨rfl, rfl⟩
    exact ⟨rfl, h, Dk.Leaves.refl _ _⟩
  | true =>
    by_cases h0 : D.left = 0
    · rw [putW_stop hr h0]
      refine (Dk.write_stop_d h n b hr hn hb h0).mono ?_
      rintro e w' ⟨rfl, h1, h2⟩
      exact ⟨rfl, h1, h2⟩
    · rw [putW_step hr h0]
      refine (Dk.write_d h n b hr hn hb h0 hm).mono ?_
      rintro e w' ⟨rfl, h1, h2⟩
      exact ⟨rfl, h1, h2⟩
theorem sync_one {C p : Nat} {D : Dk.St} {w : World} (h : Dk.Disk C p D w) :
    Calls Tryz.prog 44 #[.pointer (some ⟨p, 0, none⟩)] w fun e w' => e = .returned (.int .i64 (if D.runs then 0 else 10)) ∧ Dk.Disk C p (if D.runs then Dk.synced D else D) w' ∧ Dk.Leaves C w w' := by
  cases hr : D.runs with
  | false =>
    refine (Dk.sync_dead_d h hr).mono ?_
    rintro e w' ⟨rfl, rfl⟩
    exact ⟨rfl, h, Dk.Leaves.refl _ _⟩
  | true =>
    refine (Dk.sync_d h hr).mono ?_
    rintro e w' ⟨rfl, h1, h2⟩
    exact ⟨rfl, h1, h2⟩
theorem disk_kept {C p : Nat} {D : Dk.St} {w w' : World} (h : Dk.Disk C p D w) (hb : Below w.heap.size w w') : Dk.Disk C p D w' := h.below hb (Nat.le_refl _)
/-- A disk through a store to a log's box. -/
theorem disk_set {C p q i : Nat} {D : Dk.St} {w : World} {cs : Array Value} {x : Value} (h : Dk.Disk C p D w) (hx : Bx w q cs 89) : Dk.Disk C p D (w.setCell ⟨q, i, none⟩ x) := by
  obtain ⟨s, c, pv, ho⟩ := h
  refine ⟨s, c, pv, ho.same fun k hk => Below.heap_setCell w ⟨q, i, none⟩ x k ?_⟩
  rintro rfl
  have hx2 : w.heap[k]? = some (.cells cs 89 (0, 0)) := hx
  rcases hk with rfl | rfl | hk
  · rw [ho.head] at hx2
    simp only [Option.some.injEq, Obj.cells.injEq] at hx2
    exact absurd hx2.2.1 (by decide)
  · obtain ⟨cur, h1, _⟩ := ho.secs
    rw [h1] at hx2
    simp only [Option.some.injEq, Obj.cells.injEq] at hx2
    exact absurd hx2.2.1 (by decide)
  · rcases ho.row.2 with ⟨e, _⟩ | ⟨g', cap, cur, e, _, h3, _⟩
    · rw [e] at hk; simp [Value.ownBlock] at hk
    · rw [e] at hk
      simp only [Value.ownBlock, Option.some.injEq] at hk
      subst hk
      rw [h3] at hx2
      simp only [Option.some.injEq, Obj.cells.injEq] at hx2
      exact absurd hx2.2.1 (by decide)
def flushG (A : Lg) (D : Dk.St) : Lg × Dk.St × Int :=
  if A.dur = A.recs.length then (A, D, 0) else
    if (flushW D (A.first + A.fin) (batB A.epoch A.fin (A.recs.drop A.dur))).2 then ({ A with dur := A.recs.length, fin := A.fin + (batB A.epoch A.fin (A.recs.drop A.dur)).length }, (flushW D (A.first + A.fin) (batB A.epoch A.fin (A.recs.drop A.dur))).1, 0)
    else (A, (flushW D (A.first + A.fin) (batB A.epoch A.fin (A.recs.drop A.dur))).1, 10)
set_option maxHeartbeats 4000000 in
theorem flush_is {C q p : Nat} {v : Value} {A : Lg} {D : Dk.St} (w : World) (h : LgM C q p v A w) (hf : GFits A) (hd : Dk.Disk C p D w)
    (hfit : A.fin + (batB A.epoch A.fin (A.recs.drop A.dur)).length ≤ A.sectors) (hdk : A.first + A.sectors ≤ D.last.length) (hl : D.last.length ≤ 10000) (hp : D.pend.length ≤ 100000) (hC : C ≤ w.heap.size) :
    Calls Tryz.prog 19 #[.pointer (some ⟨q, 0, none⟩)] w fun e w' => e = .returned (.int .i64 (flushG A D).2.2) ∧ LgM C q p v (flushG A D).1 w' ∧ Dk.Disk C p (flushG A D).2.1 w' ∧ GLeaves C q v w w' := by
  obtain ⟨f0, f1, f2, f3, f4, f5, f6, f7, f8⟩ := hf
  have OY := Lib.hid (open_yes (q := q) (p := p) w h.cells.1)
  obtain ⟨x0, x1, x2, x3, x4, x5, x6, x7⟩ := h.cells
  have hW := h
  obtain ⟨hx, hB, hCq⟩ := h
  obtain ⟨vA, vc, rfl⟩ := hB.shape
  have htx := (hB.txt (fun x hx => Nat.le_trans (f6 x hx) (by unfold maxLen; omega)) (by unfold maxLen; omega)).2
  have hcap := hB.cap
  have HTD := Lib.hid (htx.drop (k := A.dur) (cap := vc) f3 hcap)
  have hcl := cut_lo vA A.recs.length vc A.dur f3
  by_cases hN : A.dur = A.recs.length
  · have hq : ((A.dur : Int) == (A.recs.length : Int)) = true := by rw [beq_iff_eq]; omega
    have HA := Lib.hid (show flushG A D = (A, D, 0) from by unfold flushG; rw [if_pos hN])
    rw [HA.out]
    have HW := Lib.hid hW
    have HD := Lib.hid hd
    have HC := Lib.hid hC
    have hc6 := fun u (hh : Held w u) => hh.cell x6
    have hc7 := fun u (hh : Held w u) => hh.cell x7
    clear hW hx hB htx HTD hd hcl HA hN x0 x1 x2 x3 x4 x5 x6 x7
    generalize A.recs.length = bl at *
    generalize A.dur = N at *
    go_enter Tryz.func19, Tryz.ntmps19
    go_wp2_with fail
    refine OY.out.mono ?_; rintro e w2 ⟨rfl, rfl⟩
    go_wp2_with fail
    go_region_held3 (fun u => Held w u) (first | exact Held.start _ | assumption) (fail)
    have HH := Lib.hid ‹Held w _›
    go_wp2_with fail
    go_ret
    exact ⟨rfl, HW.out.kept HH.out, disk_kept HD.out HH.out, GLeaves.of_below HH.out HC.out⟩
  · have hq : ((A.dur : Int) == (A.recs.length : Int)) = false := by rw [beq_eq_false_iff_ne]; omega
    have hrn : rng (A.fin : Int) := by unfold rng; omega
    have hre : rng A.epoch := by unfold rng; omega
    have BT := fun (u : World) (hh : Held w u) => bat_any (c := vc - A.dur) A.epoch (A.fin : Int) hre hrn (HTD.out.kept hh) (Below.size hh) (by omega) f5
    have hFA : flushG A D = if (flushW D (A.first + A.fin) (batB A.epoch A.fin (A.recs.drop A.dur))).2 then ({ A with dur := A.recs.length, fin := A.fin + (batB A.epoch A.fin (A.recs.drop A.dur)).length }, (flushW D (A.first + A.fin) (batB A.epoch A.fin (A.recs.drop A.dur))).1, 0) else (A, (flushW D (A.first + A.fin) (batB A.epoch A.fin (A.recs.drop A.dur))).1, 10) := by unfold flushG; rw [if_neg hN]
    have h64 : ∀ x ∈ batB A.epoch A.fin (A.recs.drop A.dur), x.length = 64 := fun x hx => by
      unfold batB at hx
      split at hx
      · rename_i hb
        obtain ⟨k, hk, rfl⟩ := List.mem_map.1 hx
        exact encX_length (okX_iff.1 ((batOk_iff.1 hb).2 k (List.mem_range.1 hk))).2.2.2.2.2
      · simp at hx
    obtain ⟨BL, hBL⟩ : ∃ BL, batB A.epoch A.fin (A.recs.drop A.dur) = BL := ⟨_, rfl⟩
    obtain ⟨ok, hok⟩ : ∃ ok, batOk A.epoch A.fin (A.recs.drop A.dur) = ok := ⟨_, rfl⟩
    obtain ⟨nl, hnl⟩ : ∃ nl, BL.length = nl := ⟨_, rfl⟩
    rw [hBL] at hFA h64 hfit
    rw [hnl] at hfit hFA
    have BAT := Lib.hid (fun (u : World) (hh : Held w u) => show Calls Tryz.prog 51 #[.int .i64 A.epoch, .int .i64 (A.fin : Int), .slice (loA vA vc A.dur) (A.recs.length - A.dur) (vc - A.dur)] u fun e w' => ∃ lA lc, e = .returned (.tuple #[.slice lA nl lc, .bool ok]) ∧ OwnT w.heap.size w' (.slice lA nl lc) BL ∧ Below u.heap.size u w' from by
      refine (BT u hh).mono ?_
      rintro e w' ⟨v, rfl, ho, hb⟩
      rw [hBL] at ho
      obtain ⟨lA, lc, rfl⟩ := ho.shape
      rw [hok]
      rw [hnl] at ho ⊢
      exact ⟨lA, lc, rfl, ho.base (Below.size hh), hb⟩)
    obtain ⟨R, hR⟩ : ∃ R, flushG A D = R := ⟨_, rfl⟩
    rw [hR] at hFA ⊢
    have H64 := Lib.hid h64
    have HNL := Lib.hid hnl
    have HW := Lib.hid hW
    have HD := Lib.hid hd
    have HC := Lib.hid hC
    have hnl4 : nl ≤ 4000 := by omega
    obtain ⟨n0, hn0⟩ : ∃ n0, A.first + A.fin = n0 := ⟨_, rfl⟩
    rw [hn0] at hFA
    have HN0 := Lib.hid hn0
    have HFA := Lib.hid hFA
    have HN := Lib.hid hN
    clear hFA BT hBL hok hnl h64 hW hx hB htx HTD hd hC hn0 hN hrn hre f6 hR
    have hc0 := fun u (hh : Held w u) => hh.cell x0
    have hc4 := fun u (hh : Held w u) => hh.cell x4
    have hc5 := fun u (hh : Held w u) => hh.cell x5
    have hc6 := fun u (hh : Held w u) => hh.cell x6
    have hc7 := fun u (hh : Held w u) => hh.cell x7
    clear x0 x1 x2 x3 x4 x5 x6 x7
    have hN0 : (0 : Int) ≤ (A.dur : Int) := by omega
    have hNb : (A.dur : Int) ≤ (A.recs.length : Int) := by omega
    go_enter Tryz.func19, Tryz.ntmps19
    go_wp2_with fail
    refine OY.out.mono ?_; rintro e w2 ⟨rfl, rfl⟩
    clear OY
    go_wp2_with fail
    go_region_held3 (fun u => Held w u) (first | exact Held.start _ | assumption) (fail)
    have HH := Lib.hid ‹Held w _›
    go_wp2_with fail
    go_region_held3 (fun u => Held w u) (first | exact Held.step HH.out (Held.start _) | exact Held.step (by assumption) (by assumption) | assumption) (first
      | (go_at_call 51; refine (BAT.out _ (by assumption)).mono ?_; rintro e u ⟨lA, lc, rfl, ho, hb⟩))
    have HU := Lib.hid ‹Held w u›
    have HO := Lib.hid ho
    have HW1 := Lib.hid (HW.out.kept (show Below w.heap.size w u from HU.out))
    have HD1 := Lib.hid (disk_kept HD.out (show Below w.heap.size w u from HU.out))
    have HWL := Lib.hid (GLeaves.of_below (v := .slice vA A.recs.length vc) (q := q) (show Below w.heap.size w u from HU.out) HC.out)
    clear ho hb HW HD BAT HH hc0 hc4 hc5 hc6 hc7 HU hcl
    go_wp2_with fail
    go_loopw [45] (fun kv wr => ∃ k : Nat, k ≤ nl ∧ kv = .int .i64 k ∧ Hid ((putW D n0 (BL.take k)).2 = true ∧ LgM C q p (.slice vA A.recs.length vc) A wr ∧ Dk.Disk C p (putW D n0 (BL.take k)).1 wr ∧ OwnT w.heap.size wr (.slice lA nl lc) BL ∧ GLeaves C q (.slice vA A.recs.length vc) w wr)) (fun kv _ => nl - (intOf kv).toNat)
    case atStart => exact ⟨0, Nat.zero_le _, rfl, Lib.hid ⟨rfl, HW1.out, HD1.out, HO.out, HWL.out⟩⟩
    case round =>
      obtain ⟨k, hk, rfl, hq2⟩ := hrel
      have HP := Lib.hid hq2.out.1
      have HW := Lib.hid hq2.out.2.1
      have HD := Lib.hid hq2.out.2.2.1
      have HOr := Lib.hid hq2.out.2.2.2.1
      have HL := Lib.hid hq2.out.2.2.2.2
      clear hq2 HW1 HD1 HO HWL
      have k0 : (0 : Int) ≤ (k : Int) := by omega
      obtain ⟨x0, x1, x2, x3, x4, x5, x6, x7⟩ := HW.out.cells
      have hlast := putW_last D n0 (BL.take k)
      by_cases hlt : k < nl
      · have k1 : (k : Int) < (nl : Int) := by omega
        have hkl : k < BL.length := by rw [HNL.out]; exact hlt
        obtain ⟨gl, rfl, _, _, cl⟩ := HOr.out.at hkl
        have hb64 : (BL.getD k []).length = 64 := H64.out _ (getD_mem' [] hkl)
        have htl : (BL.take k).length = k := by rw [List.length_take]; omega
        have hn0 := HN0.out
        have WR := Lib.hid (fun (u : World) (hh : Held wr u) => write_one (disk_kept HD.out (show Below wr.heap.size wr u from hh)) (n0 + k) (BL.getD k []) (by rw [hlast.1]; omega) hb64 (by have := hlast.2; omega))
        rw [show ((n0 + k : Nat) : Int) = (A.first : Int) + (A.fin : Int) + (k : Int) from by omega] at WR
        have e1 : IntKind.i64.wrap ((A.first : Int) + (A.fin : Int)) = (A.first : Int) + (A.fin : Int) := IntWalk.i64_in _ (by omega)
        have e2 : IntKind.i64.wrap ((A.first : Int) + (A.fin : Int) + (k : Int)) = (A.first : Int) + (A.fin : Int) + (k : Int) := IntWalk.i64_in _ (by omega)
        have HAP := Lib.hid (putW_app (BL.take k) [BL.getD k []] D n0 HP.out)
        rw [htl, ← take_snoc BL k [] hkl] at HAP
        have HAF := Lib.hid (show (putW (putW D n0 (BL.take k)).1 (n0 + k) [BL.getD k []]).2 = false → putW D n0 BL = ((putW (putW D n0 (BL.take k)).1 (n0 + k) [BL.getD k []]).1, false) from fun hh => by
          have e9 := putW_app (BL.take k) (BL.getD k [] :: BL.drop (k + 1)) D n0 HP.out
          rw [htl, putW_fail hh] at e9
          rw [← e9]
          congr 1
          rw [getD_at hkl, ← List.drop_eq_getElem_cons hkl, List.take_append_drop])
        have HK := Lib.hid (fun (u : World) (hl : Dk.Leaves C wr.drew u) => show u.cell? ⟨q, 0, none⟩ = some (wfn p) ∧ u.cell? ⟨q, 2, none⟩ = some (.int .i64 (A.first : Int)) ∧ u.cell? ⟨q, 5, none⟩ = some (.int .i64 (A.fin : Int)) ∧ u.cell? ⟨gl, k, none⟩ = some (.string (str (BL.getD k []))) from by
          have hw := (show LgM C q p (.slice vA A.recs.length vc) A wr.drew from HW.out).disk hl
          have ho := ownT_disk (show OwnT w.heap.size wr.drew _ BL from HOr.out) hl
          obtain ⟨g', hg', _, _, c'⟩ := ho.at hkl
          simp only [Option.some.injEq, Addr.mk.injEq, and_true] at hg'
          subst hg'
          exact ⟨hw.cells.1, hw.cells.2.2.1, hw.cells.2.2.2.2.2.1, c'⟩)
        have HS0 := Lib.hid (show (fun (u : World) => u.cell? ⟨q, 0, none⟩ = some (wfn p) ∧ u.cell? ⟨q, 2, none⟩ = some (.int .i64 (A.first : Int)) ∧ u.cell? ⟨q, 5, none⟩ = some (.int .i64 (A.fin : Int)) ∧ u.cell? ⟨gl, k, none⟩ = some (.string (str (BL.getD k [])))) wr.drew from ⟨x0, x2, x5, cl⟩)
        have HHD := Lib.hid (Held.start wr)
        clear x0 x1 x2 x3 x4 x5 x6 x7 hlast htl hn0
        generalize putW (putW D n0 (BL.take k)).1 (n0 + k) [BL.getD k []] = P1 at *
        generalize str (BL.getD k []) = sb at *
        have HPL := Lib.hid (GLeaves.of_below (v := .slice vA A.recs.length vc) (q := q) (C := C) (show Below wr.heap.size wr wr.drew from (Below.refl _ _).drew) (Nat.le_trans HC.out HL.out.size))
        cases hp1 : P1.2 with
        | true =>
          rw [hp1, if_pos rfl] at WR
          have HX := Lib.hid (show putW D n0 (BL.take (k + 1)) = P1 from HAP.out)
          clear HAP HAF
          go_wp2_with fail
          go_region_held3 (fun u => u.cell? ⟨q, 0, none⟩ = some (wfn p) ∧ u.cell? ⟨q, 2, none⟩ = some (.int .i64 (A.first : Int)) ∧ u.cell? ⟨q, 5, none⟩ = some (.int .i64 (A.fin : Int)) ∧ u.cell? ⟨gl, k, none⟩ = some (.string sb)) (first | exact HS0.out | assumption | exact HK.out _ (by assumption)) (first
            | (go_at_call 43; refine (WR.out _ HHD.out).mono ?_; rintro e u ⟨rfl, hd1, hl1⟩))
          have HWn := Lib.hid ((show LgM C q p (.slice vA A.recs.length vc) A wr.drew from HW.out).disk hl1)
          have HOn := Lib.hid (ownT_disk (show OwnT w.heap.size wr.drew _ BL from HOr.out) hl1)
          have HLn := Lib.hid ((HL.out.trans HPL.out (Mv.refl _ _)).trans (GLeaves.of_disk (q := q) (v := .slice vA A.recs.length vc) hl1) (Mv.refl _ _))
          have HDn := Lib.hid hd1
          clear hd1 hl1 WR HK HS0
          go_wp2_with fail
          go_roundw
          case rel => exact ⟨k + 1, by omega, by go_num, Lib.hid ⟨by rw [HX.out]; exact hp1, HWn.out, by rw [HX.out]; exact HDn.out, HOn.out, HLn.out⟩⟩
          case measure => simp [intOf] <;> omega
        | false =>
          rw [hp1, if_neg (by simp)] at WR
          have HX := Lib.hid (show flushW D n0 BL = (P1.1, false) from by unfold flushW; rw [HAF.out hp1]; rfl)
          clear HAP HAF
          go_wp2_with fail
          go_region_held3 (fun u => u.cell? ⟨q, 0, none⟩ = some (wfn p) ∧ u.cell? ⟨q, 2, none⟩ = some (.int .i64 (A.first : Int)) ∧ u.cell? ⟨q, 5, none⟩ = some (.int .i64 (A.fin : Int)) ∧ u.cell? ⟨gl, k, none⟩ = some (.string sb)) (first | exact HS0.out | assumption | exact HK.out _ (by assumption)) (first
            | (go_at_call 43; refine (WR.out _ HHD.out).mono ?_; rintro e u ⟨rfl, hd1, hl1⟩))
          have HWn := Lib.hid ((show LgM C q p (.slice vA A.recs.length vc) A wr.drew from HW.out).disk hl1)
          have HLn := Lib.hid ((HL.out.trans HPL.out (Mv.refl _ _)).trans (GLeaves.of_disk (q := q) (v := .slice vA A.recs.length vc) hl1) (Mv.refl _ _))
          have HDn := Lib.hid hd1
          clear hd1 hl1 WR HK HS0
          go_wp2_with fail
          go_ret
          rw [HFA.out, HX.out, if_neg (show ¬ ((P1.1, false) : Dk.St × Bool).2 = true from Bool.false_ne_true)]
          exact ⟨rfl, HWn.out, HDn.out, HLn.out⟩
      · have k1 : ¬ (k : Int) < (nl : Int) := by omega
        obtain rfl : k = nl := by omega
        have hnl := HNL.out
        rw [List.take_of_length_le (by omega)] at HP HD hlast
        have SY := Lib.hid (fun (u : World) (hb : Below wr.heap.size wr u) => sync_one (disk_kept HD.out hb))
        have HR := Lib.hid (putW_is BL D n0)
        have HPR := Lib.hid (show flushW D n0 BL = if (putW D n0 BL).1.runs = true then (Dk.synced (putW D n0 BL).1, true) else ((putW D n0 BL).1, false) from by unfold flushW; rw [if_pos HP.out])
        have HBR := Lib.hid (Below.refl wr.heap.size wr)
        generalize (putW D n0 BL).1 = P1 at *
        cases hru : P1.runs with
        | false =>
          rw [hru, if_neg (by simp)] at SY HPR
          go_wp2_with fail
          refine (SY.out _ HBR.out).mono ?_; rintro e w5 ⟨rfl, hd1, hl1⟩
          have HWn := Lib.hid (HW.out.disk hl1)
          have HDn := Lib.hid hd1
          have HLn := Lib.hid (HL.out.trans (GLeaves.of_disk (q := q) (v := .slice vA A.recs.length vc) hl1) (Mv.refl _ _))
          clear hd1 hl1
          go_wp2_with fail
          go_ret
          rw [HFA.out, HPR.out, if_neg (show ¬ ((P1, false) : Dk.St × Bool).2 = true from Bool.false_ne_true)]
          exact ⟨rfl, HWn.out, HDn.out, HLn.out⟩
        | true =>
          rw [hru, if_pos rfl] at SY HPR
          go_wp2_with fail
          refine (SY.out _ HBR.out).mono ?_; rintro e w5 ⟨rfl, hd1, hl1⟩
          have HWn := Lib.hid (HW.out.disk hl1)
          have HDn := Lib.hid hd1
          have HLn := Lib.hid (HL.out.trans (GLeaves.of_disk (q := q) (v := .slice vA A.recs.length vc) hl1) (Mv.refl _ _))
          clear hd1 hl1 x0 x1 x2 x3 x4 x5 x6 x7
          obtain ⟨x0, x1, x2, x3, x4, x5, x6, x7⟩ := HWn.out.cells
          have e1 : IntKind.i64.wrap ((A.fin : Int) + (k : Int)) = (A.fin : Int) + (k : Int) := IntWalk.i64_in _ (by omega)
          have HX6 := Lib.hid (HWn.out.1.set 5 (.int .i64 ((A.fin : Int) + (k : Int))))
          have HO6 := Lib.hid (ownT_set (i := 5) (x := .int .i64 ((A.fin : Int) + (k : Int))) HWn.out.2.1 HWn.out.1 (by decide))
          have HX7 := Lib.hid (HX6.out.set 7 (.int .i64 (A.recs.length : Int)))
          have HO7 := Lib.hid (ownT_set (i := 7) (x := .int .i64 (A.recs.length : Int)) HO6.out HX6.out (by decide))
          have HD7 := Lib.hid (disk_set (i := 7) (x := .int .i64 (A.recs.length : Int)) (disk_set (i := 5) (x := .int .i64 ((A.fin : Int) + (k : Int))) HDn.out HWn.out.1) HX6.out)
          have HL7 := Lib.hid ((HLn.out.trans (GLeaves.set (i := 5) (v := .slice vA A.recs.length vc) (x := .int .i64 ((A.fin : Int) + (k : Int))) (w := w5) hCq) (Mv.refl _ _)).trans (GLeaves.set (i := 7) (v := .slice vA A.recs.length vc) (x := .int .i64 (A.recs.length : Int)) hCq) (Mv.refl _ _))
          have HLf := Lib.hid (show LgM C q p (.slice vA A.recs.length vc) { A with dur := A.recs.length, fin := A.fin + k } ((w5.setCell ⟨q, 5, none⟩ (.int .i64 ((A.fin : Int) + (k : Int)))).setCell ⟨q, 7, none⟩ (.int .i64 (A.recs.length : Int))) from by
            refine ⟨?_, HO7.out, hCq⟩
            have h9 := HX7.out
            unfold gcs at h9 ⊢
            dsimp only
            rw [show ((A.fin + k : Nat) : Int) = (A.fin : Int) + (k : Int) from by omega]
            exact h9)
          have fz5 : w5.frozen? ⟨q, 5, none⟩ = false := HWn.out.1.free 5
          have y6 : (w5.setCell ⟨q, 5, none⟩ (.int .i64 ((A.fin : Int) + (k : Int)))).cell? ⟨q, 6, none⟩ = some (.slice vA A.recs.length vc) := HX6.out.cell 6
          have y7 : (w5.setCell ⟨q, 5, none⟩ (.int .i64 ((A.fin : Int) + (k : Int)))).cell? ⟨q, 7, none⟩ = some (.int .i64 (A.dur : Int)) := HX6.out.cell 7
          have fz7 : (w5.setCell ⟨q, 5, none⟩ (.int .i64 ((A.fin : Int) + (k : Int)))).frozen? ⟨q, 7, none⟩ = false := HX6.out.free 7
          go_wp2_with fail
          go_ret
          rw [HFA.out, HPR.out, if_pos (show ((Dk.synced P1, true) : Dk.St × Bool).2 = true from rfl)]
          exact ⟨rfl, HLf.out, HD7.out, HL7.out⟩
theorem to_is {C q p : Nat} {v : Value} {A : Lg} {D : Dk.St} (n : Int) (w : World) (h : LgM C q p v A w) (hf : GFits A) (hd : Dk.Disk C p D w)
    (hfit : A.fin + (batB A.epoch A.fin (A.recs.drop A.dur)).length ≤ A.sectors) (hdk : A.first + A.sectors ≤ D.last.length) (hl : D.last.length ≤ 10000) (hp : D.pend.length ≤ 100000) (hC : C ≤ w.heap.size) :
    Calls Tryz.prog 18 #[.pointer (some ⟨q, 0, none⟩), .int .i64 n] w fun e w' => e = .returned (.int .i64 (if n ≤ A.dur then (A, D, 0) else flushG A D).2.2) ∧ LgM C q p v (if n ≤ A.dur then (A, D, (0 : Int)) else flushG A D).1 w' ∧ Dk.Disk C p (if n ≤ A.dur then (A, D, (0 : Int)) else flushG A D).2.1 w' ∧ GLeaves C q v w w' := by
  have OY := Lib.hid (open_yes (q := q) (p := p) w h.cells.1)
  have FL := Lib.hid (flush_is w h hf hd hfit hdk hl hp hC)
  have x7 := h.cells.2.2.2.2.2.2.2
  by_cases hn : n ≤ (A.dur : Int)
  · rw [if_pos hn]
    have H := Lib.hid h
    have HD := Lib.hid hd
    have HB := Lib.hid (GLeaves.of_below (C := C) (q := q) (v := v) (Below.refl w.heap.size w) hC)
    clear FL h hd hf
    go_enter Tryz.func18, Tryz.ntmps18
    go_wp2_with fail
    refine OY.out.mono ?_; rintro e w2 ⟨rfl, rfl⟩
    go_wp2_with fail
    go_ret
    exact ⟨rfl, H.out, HD.out, HB.out⟩
  · rw [if_neg hn]
    clear h hd hf
    go_enter Tryz.func18, Tryz.ntmps18
    go_wp2_with fail
    refine OY.out.mono ?_; rintro e w2 ⟨rfl, rfl⟩
    go_wp2_with fail
    refine FL.out.mono ?_; rintro e w2 ⟨rfl, h1, h2, h3⟩
    go_wp2_with fail
    go_ret
    exact ⟨rfl, h1, h2, h3⟩
end Go.Proofs.YtnjggoeahaglbaaGreat.Wa
