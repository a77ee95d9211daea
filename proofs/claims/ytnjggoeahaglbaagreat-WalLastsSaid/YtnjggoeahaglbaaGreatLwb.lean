/- The program's log: the sectors of a disk, read; whether each text is a record's. -/
import Derived.Test.YtnjggoeahaglbaaGreatLwa
import Derived.Test.YtnjggoeahaglbaaGreatRd
namespace Go.Proofs.YtnjggoeahaglbaaGreat.Wa
open Go.ChangeShapes Go.WideShapes Go.ChangeAt Go.RowKit
open Fr
set_option linter.unusedVariables false
set_option linter.unusedSimpArgs false
set_option maxRecDepth 100000
theorem part_succ (f k : Nat) (l : List BA) (h : f + k < l.length) : part f (k + 1) l = part f k l ++ [l.getD (f + k) []] := by
  unfold part
  rw [List.take_add_one, List.getElem?_drop, List.getElem?_eq_getElem h, List.getD_eq_getElem?_getD, List.getElem?_eq_getElem h]
  rfl
theorem part_len (f k : Nat) (l : List BA) (h : f + k ≤ l.length) : (part f k l).length = k := by
  unfold part
  rw [List.length_take, List.length_drop]
  omega
set_option maxHeartbeats 2000000 in
theorem contents_ok {C p : Nat} {D : Dk.St} (f n : Nat) (w : World) (h : Dk.Disk C p D w) (hr : D.runs = true) (hn : n ≤ 4000) (hf : f + n ≤ D.last.length) (hl : D.last.length ≤ 10000) :
    Calls Tryz.prog 39 #[rfn p, .int .i64 (f : Int), .int .i64 (n : Int)] w fun e w' => ∃ A c, e = .returned (.tuple #[.slice A n c, .int .i64 0]) ∧ OwnT w.heap.size w' (.slice A n c) (part f n (Dk.appl D.last D.pend)) ∧ Below w.heap.size w w' := by
  have HDL := Lib.hid (show (Dk.appl D.last D.pend).length = D.last.length from Dk.appl_length _ _)
  have RD := Lib.hid (fun (u : World) (hb : Below w.heap.size w u) (k : Nat) (hk : k < D.last.length) => Dk.read_d (h.below hb (Nat.le_refl _)) k hr hk)
  generalize Dk.appl D.last D.pend = L at *
  have hLl : L.length = D.last.length := HDL.out
  obtain ⟨i0, hi0, hz0, hz1, hz2⟩ := info_parts info_s
  clear h hr HDL
  go_enter Tryz.func39, Tryz.ntmps39
  go_wp2_with fail
  go_loopw [8, 13] (fun v x wr => ∃ k : Nat, k ≤ n ∧ x = .int .i64 (k : Int) ∧ Hid (OwnT w.heap.size wr v (part f k L) ∧ Below w.heap.size w wr)) (fun _ x _ => n - (intOf x).toNat)
  case atStart => exact ⟨0, Nat.zero_le _, rfl, OwnT.nil _ _, Below.refl _ _⟩
  case round =>
    obtain ⟨k, hk, rfl, hq⟩ := hrel
    have HO := Lib.hid hq.out.1
    have HB := Lib.hid hq.out.2
    clear hq
    have b0 : (0 : Int) ≤ (k : Int) := by omega
    by_cases hlt : k < n
    · have b1 : (k : Int) < (n : Int) := by omega
      have e1 : IntKind.i64.wrap ((f : Int) + (k : Int)) = ((f + k : Nat) : Int) := by rw [IntWalk.i64_in _ (by omega)]; omega
      have R1 := Lib.hid (RD.out wr HB.out (f + k) (by omega))
      have HPS := Lib.hid (part_succ f k L (by omega))
      have hpl := part_len f k L (by omega)
      obtain ⟨Av, cv, rfl⟩ := HO.out.shape
      have hown := HO.out
      unfold OwnT at hown
      rw [hpl] at hown ⊢
      have HOW := Lib.hid hown
      obtain ⟨sb, hsb⟩ : ∃ sb, L.getD (f + k) [] = sb := ⟨_, rfl⟩
      rw [hsb] at HPS R1
      generalize part f k L = mb at *
      clear hsb HO hown RD
      go_wp2_with fail
      refine R1.out.mono ?_; rintro q w2 ⟨rfl, rfl⟩
      have hown := HOW.out
      clear R1
      go_wp2_with (at_builtin; refine wpList_append_own _ rfl (.tmp 27) (.tmp 29) 50 rfl w.heap.size 9 i0 (.string ⟨#[]⟩) 1 16 Tryz.underlying50 hi0 hz0 hz1 hz2 rfl (by decide) _ _ _ rfl (hown.alloc _) ⟨wr.heap.size, 0, none⟩ 1 1 [.string (str sb)] rfl rfl (cell_one_new _ _ _) (by simp [Value.oneCell']) (by unfold maxLen; omega) (by omega) (by rw [World.size_alloc]; have := HB.out.size; omega) ?_; intro v' w3 hown' hgrow _)
      have HB3 := Lib.hid ((HB.out.alloc HB.out.size _).grown hgrow (by rw [World.size_alloc]; have := HB.out.size; omega) (fun g hg => (HOW.out.lt g hg).1))
      have HO3 := Lib.hid (show OwnT w.heap.size w3 v' (part f (k + 1) L) from by
        rw [HPS.out]
        unfold OwnT
        rw [List.length_append, hpl, tcs_append]
        exact hown')
      clear hown hown' hgrow HOW HB
      go_wp2_with fail
      go_roundw
      case rel => exact ⟨k + 1, by omega, by go_num, HO3.out, HB3.out⟩
      case measure => simp [intOf] <;> omega
    · have b1 : ¬ (k : Int) < (n : Int) := by omega
      obtain rfl : k = n := by omega
      have hpl := part_len f k L (by omega)
      obtain ⟨Av, cv, rfl⟩ := HO.out.shape
      have HO2 := Lib.hid HO.out
      rw [hpl] at HO2 ⊢
      clear HO
      go_wp2_with fail
      go_ret2
      exact ⟨Av, cv, rfl, HO2.out, HB.out⟩
set_option maxHeartbeats 1000000 in
theorem contents_dead {C p : Nat} {D : Dk.St} (f n : Nat) (w : World) (h : Dk.Disk C p D w) (hr : D.runs = false) (hn : 1 ≤ n) :
    Calls Tryz.prog 39 #[rfn p, .int .i64 (f : Int), .int .i64 (n : Int)] w fun e w' => e = .returned (.tuple #[.slice none 0 0, .int .i64 10]) ∧ Below w.heap.size w w' := by
  have RD := Lib.hid (fun (u : World) (hb : Below w.heap.size w u) (k : Int) => Dk.read_dead_d (h.below hb (Nat.le_refl _)) k hr)
  clear h hr
  go_enter Tryz.func39, Tryz.ntmps39
  go_wp2_with fail
  go_loopw [8, 13] (fun v x wr => v = .slice none 0 0 ∧ x = .int .i64 0 ∧ Hid (Below w.heap.size w wr)) (fun _ x _ => 1)
  case atStart => exact ⟨rfl, rfl, Below.refl _ _⟩
  case round =>
    obtain ⟨rfl, rfl, hq⟩ := hrel
    have b1 : (0 : Int) < (n : Int) := by omega
    have R1 := Lib.hid (RD.out wr hq.out)
    go_wp2_with fail
    refine (R1.out _).mono ?_; rintro q w2 ⟨rfl, rfl⟩
    go_wp2_with fail
    go_ret2
    exact ⟨rfl, hq.out⟩
set_option maxHeartbeats 4000000 in
theorem records_is {C n c : Nat} {A : Option Addr} {l : List BA} (w : World) (h : Txt C w A n l) (hC : C ≤ w.heap.size) (hn : n ≤ 1000000) (hs : ∀ x ∈ l, x.length ≤ 800000) :
    Calls Tryz.prog 42 #[.slice A n c] w fun e w' => e = .returned (.bool (l.all Rc.getOk)) ∧ Below w.heap.size w w' := by
  have H1 := Lib.hid h
  have HN := Lib.hid h.1
  have HC := Lib.hid hC
  have HS := Lib.hid hs
  clear h hC hs
  go_enter Tryz.func42, Tryz.ntmps42
  go_wp2_with fail
  go_loopw [9] (fun x wr => ∃ k : Nat, k ≤ n ∧ x = .int .i64 (k : Int) ∧ Hid (Below w.heap.size w wr ∧ ∀ j, j < k → Rc.getOk (l.getD j []) = true)) (fun x _ => n - (intOf x).toNat)
  case atStart => exact ⟨0, Nat.zero_le _, rfl, Below.refl _ _, fun j hj => absurd hj (Nat.not_lt_zero _)⟩
  case round =>
    obtain ⟨k, hk, rfl, hq⟩ := hrel
    have HB := Lib.hid hq.out.1
    have HA := Lib.hid hq.out.2
    clear hq
    have b0 : (0 : Int) ≤ (k : Int) := by omega
    by_cases hlt : k < n
    · have b1 : (k : Int) < (n : Int) := by omega
      have hkl : k < l.length := by rw [HN.out]; exact hlt
      obtain ⟨b, off, rfl, hbC, c00, hmx⟩ := H1.out.2.2 k hlt
      have c0 : wr.cell? ⟨b, off + k, none⟩ = _ := Fr.cell_kept HB.out (Nat.lt_of_lt_of_le hbC HC.out) c00
      have hlen := HS.out _ (getD_mem' [] hkl)
      have GE := Lib.hid (Rc.get_any (l.getD k []) hlen)
      have HMEM := Lib.hid (getD_mem' [] hkl)
      clear c00 hbC hmx hlen
      cases hg : Rc.getOk (l.getD k []) with
      | true =>
        have HA2 := Lib.hid (show ∀ j, j < k + 1 → Rc.getOk (l.getD j []) = true from fun j hj => by
          by_cases e9 : j < k
          · exact HA.out j e9
          · obtain rfl : j = k := by omega
            exact hg)
        have G2 := Lib.hid (fun (u : World) => show Calls Tryz.prog 62 #[.string (str (l.getD k []))] u fun e w' => ∃ (r : Rc.Rc) (h : Rc.Hd), e = .returned (.tuple #[.agg (Rc.rcs r h), .bool true]) ∧ Below u.heap.size u w' from by
          refine (GE.out u).mono ?_
          rintro e w' ⟨hb, h⟩
          rcases h with ⟨_, k', he, _⟩ | ⟨h, _⟩
          · exact ⟨_, k', he, hb⟩
          · rw [hg] at h; cases h)
        clear GE hg HA
        generalize str (l.getD k []) = sb at *
        go_wp2_with fail
        refine (G2.out _).mono ?_; rintro q w2 ⟨r, hd, rfl, hb⟩
        have HB2 := Lib.hid (HB.out.trans (hb.mono HB.out.size))
        have HZ := Lib.hid (Rc.Bx.new w2 Rc.z14 43)
        have HB3 := Lib.hid (Rc.below_row (ds := Rc.rcs r hd) (HB2.out.alloc HB2.out.size (.cells Rc.z14 43)) HB2.out.size)
        clear hb HB HB2 G2
        unfold Rc.z14 at HZ HB3
        unfold Rc.rcs at HB3 ⊢
        have hz := HZ.out
        go_wp2_with (refine wpList_store_row rfl 43 (.tmp 5) (.tmp 16) rfl w2.heap.size #[.int .i64 r.kind, .int .i64 r.tx, .int .i64 r.prev, .int .i64 r.next, .string r.key, .bool r.had, .string r.old.k, .string r.old.v, .int .i64 r.old.b, .int .i64 r.old.z, .slice hd.g.A hd.g.n hd.g.c, .slice hd.p.A hd.p.n hd.p.c, .slice hd.t.A hd.t.n hd.t.c, .slice hd.d.A hd.d.n hd.d.c] rfl rfl 43 _ hz (by kernel_rfl) rfl (by simp [Value.oneCell']) ?_)
        go_roundw
        case rel => exact ⟨k + 1, by omega, by go_num, HB3.out, HA2.out⟩
        case measure => simp [intOf] <;> omega
      | false =>
        have HF := Lib.hid (show l.all Rc.getOk = false from by
          cases ha : l.all Rc.getOk with
          | false => rfl
          | true => rw [List.all_eq_true.1 ha _ HMEM.out] at hg; cases hg)
        have G2 := Lib.hid (fun (u : World) => show Calls Tryz.prog 62 #[.string (str (l.getD k []))] u fun e w' => e = .returned (.tuple #[.agg #[.int .i64 0, .int .i64 0, .int .i64 0, .int .i64 0, .string ⟨#[]⟩, .bool false, .string ⟨#[]⟩, .string ⟨#[]⟩, .int .i64 0, .int .i64 0, .slice none 0 0, .slice none 0 0, .slice none 0 0, .slice none 0 0], .bool false]) ∧ Below u.heap.size u w' from by
          refine (GE.out u).mono ?_
          rintro e w' ⟨hb, h⟩
          rcases h with ⟨h, _⟩ | ⟨_, h⟩
          · rw [hg] at h; cases h
          · exact ⟨h, hb⟩)
        clear GE hg HA HMEM
        generalize str (l.getD k []) = sb at *
        go_wp2_with fail
        refine (G2.out _).mono ?_; rintro q w2 ⟨rfl, hb⟩
        have HB2 := Lib.hid (HB.out.trans (hb.mono HB.out.size))
        have HZ := Lib.hid (Rc.Bx.new w2 Rc.z14 43)
        have HB3 := Lib.hid (Rc.below_row (ds := #[.int .i64 0, .int .i64 0, .int .i64 0, .int .i64 0, .string ⟨#[]⟩, .bool false, .string ⟨#[]⟩, .string ⟨#[]⟩, .int .i64 0, .int .i64 0, .slice none 0 0, .slice none 0 0, .slice none 0 0, .slice none 0 0]) (HB2.out.alloc HB2.out.size (.cells Rc.z14 43)) HB2.out.size)
        clear hb HB HB2 G2
        unfold Rc.z14 at HZ HB3
        have hz := HZ.out
        go_wp2_with (refine wpList_store_row rfl 43 (.tmp 5) (.tmp 16) rfl w2.heap.size #[.int .i64 0, .int .i64 0, .int .i64 0, .int .i64 0, .string ⟨#[]⟩, .bool false, .string ⟨#[]⟩, .string ⟨#[]⟩, .int .i64 0, .int .i64 0, .slice none 0 0, .slice none 0 0, .slice none 0 0, .slice none 0 0] rfl rfl 43 _ hz (by kernel_rfl) rfl (by simp [Value.oneCell']) ?_)
        go_ret
        exact ⟨by rw [HF.out]; rfl, HB3.out⟩
    · have b1 : ¬ (k : Int) < (n : Int) := by omega
      obtain rfl : k = n := by omega
      have HF := Lib.hid (show l.all Rc.getOk = true from List.all_eq_true.2 fun x hx => by
        obtain ⟨j, hj, rfl⟩ := List.getElem_of_mem hx
        have := HA.out j (by rw [← HN.out]; exact hj)
        rw [List.getD_eq_getElem?_getD, List.getElem?_eq_getElem hj] at this
        exact this)
      clear HA
      go_wp2_with fail
      go_ret
      exact ⟨by rw [HF.out]; rfl, HB.out⟩
end Go.Proofs.YtnjggoeahaglbaaGreat.Wa
