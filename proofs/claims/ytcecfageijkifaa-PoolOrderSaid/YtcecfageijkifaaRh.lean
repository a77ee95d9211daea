/- What the laws' pools read and write: a record of the steps. -/
import Derived.Test.YtcecfageijkifaaPo
namespace Go.Proofs.Ytcecfageijkifaa.Po
open Go.ChangeShapes Go.WideShapes Go.ChangeAt Go.RowKit
set_option linter.unusedVariables false
set_option linter.unusedSimpArgs false
set_option maxRecDepth 100000
abbrev St := List (Nat × Int × BA)
def scs (l : St) : List Value := l.flatMap fun x => [Value.int .u8 x.1, Value.int .i64 x.2.1, Value.string (str x.2.2)]
theorem scs_append (l m : St) : scs (l ++ m) = scs l ++ scs m := by simp [scs]
theorem scs_one (x : Nat × Int × BA) : ∀ u ∈ scs [x], u.oneCell' = true := by
  intro u hu
  simp [scs] at hu
  rcases hu with rfl | rfl | rfl <;> rfl
theorem info_st : (Try.prog.info? 44).map (fun i => (i.zero, i.size, i.bytes)) = some (some (.agg #[.int .u8 0, .int .i64 0, .string ⟨#[]⟩]), 3, 32) := by kernel_rfl
/-- The record in memory: its block r, its steps' row, its pages. -/
structure RM (r : Nat) (Ap : Option Addr) (np cp : Nat) (pages : List BA) (S : Nat → Prop) (v : Value) (o : St) (w : World) : Prop where
  box : Bx w r #[v, .slice Ap np cp, .int .i64 0] 28
  row : w.ownsRow 0 44 3 v o.length (scs o)
  pl : pages.length = np
  pg : ∀ i, i < np → ∃ g cs, Ap = some ⟨g, 0, none⟩ ∧ S g ∧ Bx w g cs 9 ∧ cs[i]? = some (.string (str (pages.getD i [])))
  own : ∀ g, v.ownBlock = some g → S g
  sr : S r
  lt : ∀ i, S i → i < w.heap.size
theorem row_type {w : World} {B e s n g : Nat} {v : Value} {xs : List Value} (h : w.ownsRow B e s v n xs) (hg : v.ownBlock = some g) : ∃ cur, Bx w g cur e := by
  rcases h.2 with ⟨rfl, _⟩ | ⟨g', cap, cur, rfl, _, h2, _⟩
  · simp [Value.ownBlock] at hg
  · simp only [Value.ownBlock, Option.some.injEq] at hg
    subst hg
    exact ⟨cur, h2⟩
theorem RM.keep {r : Nat} {Ap : Option Addr} {np cp : Nat} {pages : List BA} {S S' : Nat → Prop} {v : Value} {o : St} {w w' : World} (h : RM r Ap np cp pages S v o w) (t : Tn S' w w') (hs : ∀ i, S i → ¬ S' i) : RM r Ap np cp pages S v o w' :=
  ⟨t.bx h.box (hs _ h.sr), t.row h.row (fun g hg => hs _ (h.own g hg)), h.pl, fun i hi => by
    obtain ⟨g, cs, h1, h2, h3, h4⟩ := h.pg i hi
    exact ⟨g, cs, h1, h2, t.bx h3 (hs _ h2), h4⟩, h.own, h.sr, fun i hi => Nat.lt_of_lt_of_le (h.lt i hi) t.size⟩
set_option maxHeartbeats 1000000 in
theorem step_is {r : Nat} {Ap : Option Addr} {np cp : Nat} {pages : List BA} {S : Nat → Prop} {v : Value} {o : St} {w : World} (h : RM r Ap np cp pages S v o w) (hl : o.length < 1000000) (kd : Nat) (n : Int) (b : BA) :
    Calls Try.prog 32 #[ptr r, .int .u8 kd, .int .i64 n, .string (str b)] w fun e w' => e = .returned (.int .i64 0) ∧ ∃ v' S', RM r Ap np cp pages S' v' (o ++ [(kd, n, b)]) w' ∧ Ch S S' w w' := by
  obtain ⟨i0, hi0⟩ : ∃ i, Try.prog.info? 44 = some i := by have := info_st; cases hq : Try.prog.info? 44 with
    | none => rw [hq] at this; cases this
    | some i => exact ⟨i, rfl⟩
  have hz := info_st
  rw [hi0] at hz
  simp only [Option.map_some, Option.some.injEq, Prod.mk.injEq] at hz
  obtain ⟨hz0, hz1, hz2⟩ := hz
  have c0 : w.cell? ⟨r, 0, none⟩ = some v := h.box.cell 0
  obtain ⟨A0, cc, rfl⟩ := own_shape h.row
  obtain ⟨m, hm⟩ : ∃ m, o.length = m := ⟨_, rfl⟩
  have HR := Lib.hid h
  have hrow := h.row
  rw [hm] at hrow c0 hl
  have HRW := Lib.hid hrow
  have HM := Lib.hid hm
  clear h hrow hm
  have X := Lib.hid (Bx.new w #[.int .u8 kd, .int .i64 n, .string (str b)] 44)
  have HBX := Lib.hid (fun (w2 : World) (hg : (w.alloc (.cells #[.int .u8 kd, .int .i64 n, .string (str b)] 44)).grownBy w2 (Value.slice A0 m cc).ownBlock) => show Bx w2 r #[.slice A0 m cc, .slice Ap np cp, .int .i64 0] 28 from by
    have hb := HR.out.box
    rw [HM.out] at hb
    exact (hb.alloc _).grown hg (fun e => by
      obtain ⟨cur, hcur⟩ := row_type HRW.out e.symm
      exact bx_type hb hcur (by decide) rfl))
  go_enter Try.func32, Try.ntmps32
  go_upto_region 2 with (at_builtin; refine wpList_append_src _ rfl _ _ 26 rfl 44 i0 (.agg #[.int .u8 0, .int .i64 0, .string ⟨#[]⟩]) 3 32 Try.underlying26 hi0 hz0 hz1 hz2 rfl (by decide) 0 (.slice A0 m cc) m _ rfl (World.ownsRow.alloc HRW.out _) (some ⟨w.heap.size, 0, none⟩) 1 1 (scs [(kd, n, b)]) rfl ⟨rfl, fun _ => ⟨_, rfl, fun j u hu => by rcases j with _ | _ | _ | j <;> simp [scs] at hu <;> subst hu <;> simp [Addr.add]⟩⟩ (scs_one _) (by unfold maxLen; omega) (by omega) (Nat.zero_le _) ?_; intro v' w2 hown hgrow hat2; obtain ⟨A1, c1, rfl⟩ := own_shape hown; have HO := Lib.hid hown; have HG := Lib.hid hgrow; have HT := Lib.hid hat2; have bx2 := HBX.out w2 hgrow; have f2 := bx2.free 0; have BX2 := Lib.hid bx2; have f0 : w2.cell? ⟨r, 0, none⟩ = some (.slice A0 m cc) := BX2.out.cell 0; clear hown hgrow hat2 bx2 c0)
  have T1 := Lib.hid (show Tn (fun i => S i ∨ w.heap.size ≤ i) w w2 from (Tn.alloc _ w (.cells #[.int .u8 kd, .int .i64 n, .string (str b)] 44)).trans (Tn.of_grown HG.out (fun i hi => .inl (HR.out.own i (by rw [HM.out]; exact hi)))))
  have BX3 := Lib.hid (show Bx (w2.setCell ⟨r, 0, none⟩ (.slice A1 (m + 1) c1)) r #[.slice A1 (m + 1) c1, .slice Ap np cp, .int .i64 0] 28 from BX2.out.set 0 _)
  have T2 := Lib.hid (T1.out.trans (Tn.setCell w2 ⟨r, 0, none⟩ (.slice A1 (m + 1) c1) (.inl HR.out.sr)))
  have T9 := Lib.hid (Tn.setCell (S := fun i => i = r) w2 ⟨r, 0, none⟩ (.slice A1 (m + 1) c1) rfl)
  have R3 := Lib.hid (T9.out.row HO.out (fun g hg e => by
    obtain ⟨cur, hcur⟩ := row_type HO.out hg
    exact bx_type BX2.out hcur (by decide) e.symm))
  have P3 := Lib.hid (show ∀ i, i < np → ∃ g cs, Ap = some ⟨g, 0, none⟩ ∧ S g ∧ Bx (w2.setCell ⟨r, 0, none⟩ (.slice A1 (m + 1) c1)) g cs 9 ∧ cs[i]? = some (.string (str (pages.getD i []))) from fun i hi => by
    obtain ⟨g, cs, h1, h2, h3, h4⟩ := HR.out.pg i hi
    have h5 : Bx w2 g cs 9 := (h3.alloc (.cells #[.int .u8 kd, .int .i64 n, .string (str b)] 44)).grown HG.out (fun e => by
      obtain ⟨cur, hcur⟩ := row_type HRW.out e.symm
      exact bx_type h3 hcur (by decide) rfl)
    exact ⟨g, cs, h1, h2, h5.other (bx_type h5 BX2.out (by decide)) 0 _, h4⟩)
  have S3 := Lib.hid (show Nw S (fun i => S i ∨ (Value.slice A1 (m + 1) c1).ownBlock = some i) w from fun i hi => by
    rcases hi with hi | hi
    · exact .inl hi
    · rcases HT.out with e | e
      · rw [e] at hi
        exact .inl (HR.out.own i (by rw [HM.out]; exact hi))
      · rw [e] at hi
        simp only [Option.some.injEq, World.size_alloc] at hi
        exact .inr (by omega))
  have L3 := Lib.hid (show ∀ i, (S i ∨ (Value.slice A1 (m + 1) c1).ownBlock = some i) → i < (w2.setCell ⟨r, 0, none⟩ (.slice A1 (m + 1) c1)).heap.size from fun i hi => by
    rcases hi with hi | hi
    · exact Nat.lt_of_lt_of_le (HR.out.lt i hi) T2.out.size
    · exact (R3.out.lt i hi).2)
  have hc0 : (w2.setCell ⟨r, 0, none⟩ (.slice A1 (m + 1) c1)).cell? ⟨r, 0, none⟩ = some (.slice A1 (m + 1) c1) := BX3.out.cell 0
  have hc2 : (w2.setCell ⟨r, 0, none⟩ (.slice A1 (m + 1) c1)).cell? ⟨r, 2, none⟩ = some (.int .i64 0) := BX3.out.cell 2
  have hz : ¬ (((m + 1 : Nat) : Int) = 0) := by omega
  clear HG HT HO T1 T9 X HBX BX2 HRW f0 f2 hi0 hz0 hz1 hz2
  generalize w2.setCell ⟨r, 0, none⟩ (.slice A1 (m + 1) c1) = w3 at *
  go_quiet (fail)
  generalize hwq : World.drewN w3 _ = w4
  obtain ⟨nq, hnq⟩ : ∃ n, World.drewN w3 n = w4 := ⟨_, hwq⟩
  have hb4 := below_dN w3 nq
  rw [hnq] at hb4
  have HB4 := Lib.hid hb4
  clear hwq hnq hb4 hc0 hc2
  go_wp2_with fail
  go_ret
  have TN := Lib.hid (Tn.of_below (S := fun _ => False) HB4.out)
  refine ⟨rfl, .slice A1 (m + 1) c1, fun i => S i ∨ (Value.slice A1 (m + 1) c1).ownBlock = some i, ⟨TN.out.bx BX3.out (fun hf => hf), ?_, HR.out.pl, fun i hi => ?_, fun g hg => .inr hg, .inl HR.out.sr, fun i hi => Nat.lt_of_lt_of_le (L3.out i hi) HB4.out.size⟩, ⟨?_, S3.out⟩⟩
  · rw [List.length_append, HM.out, scs_append]
    exact TN.out.row R3.out (fun g _ hf => hf)
  · obtain ⟨g, cs, h1, h2, h3, h4⟩ := P3.out i hi
    exact ⟨g, cs, h1, .inl h2, TN.out.bx h3 (fun hf => hf), h4⟩
  · have q := T2.out.trans (Tn.of_below HB4.out)
    exact ⟨q.os, q.tape, q.output, q.size, fun k hk hs => q.block k hk (fun h' => by rcases h' with h' | h'; exact hs h'; omega)⟩
def rdR (np : Nat) (pages : List BA) (o : St) (n : Int) : (BA × Nat) × St := (if 0 ≤ n ∧ n < (np : Int) then (pages.getD n.toNat [], 0) else ([], 12), o ++ [(114, n, [])])
theorem log_is {r : Nat} {Ap : Option Addr} {np cp : Nat} {pages : List BA} {S : Nat → Prop} {v : Value} {o : St} {w : World} (h : RM r Ap np cp pages S v o w) (hl : o.length < 1000000) (n : Int) :
    Calls Try.prog 12 #[ptr r, .int .i64 n] w fun e w' => e = .returned (.int .i64 0) ∧ ∃ v' S', RM r Ap np cp pages S' v' (o ++ [(108, n, [])]) w' ∧ Ch S S' w w' := by
  have ST := Lib.hid (show Calls Try.prog 32 #[ptr r, .int .u8 108, .int .i64 n, .string ⟨#[]⟩] w _ from step_is h hl 108 n [])
  go_enter Try.func12, Try.ntmps12
  go_wp2_with fail
  refine ST.out.mono ?_; rintro e w1 ⟨rfl, hq⟩
  go_wp2_with fail
  go_ret
  exact ⟨rfl, hq⟩
theorem write_is {r : Nat} {Ap : Option Addr} {np cp : Nat} {pages : List BA} {S : Nat → Prop} {v : Value} {o : St} {w : World} (h : RM r Ap np cp pages S v o w) (hl : o.length < 1000000) (n : Int) (b : BA) :
    Calls Try.prog 11 #[ptr r, .int .i64 n, .string (str b)] w fun e w' => e = .returned (.int .i64 0) ∧ ∃ v' S', RM r Ap np cp pages S' v' (o ++ [(119, n, b)]) w' ∧ Ch S S' w w' := by
  have ST := Lib.hid (show Calls Try.prog 32 #[ptr r, .int .u8 119, .int .i64 n, .string (str b)] w _ from step_is h hl 119 n b)
  go_enter Try.func11, Try.ntmps11
  go_wp2_with fail
  refine ST.out.mono ?_; rintro e w1 ⟨rfl, hq⟩
  go_wp2_with fail
  go_ret
  exact ⟨rfl, hq⟩
theorem read_is {r : Nat} {Ap : Option Addr} {np cp : Nat} {pages : List BA} {S : Nat → Prop} {v : Value} {o : St} {w : World} (h : RM r Ap np cp pages S v o w) (hl : o.length < 1000000) (n : Int) :
    Calls Try.prog 10 #[ptr r, .int .i64 n] w fun e w' => e = .returned (.tuple #[.string (str (rdR np pages o n).1.1), .int .i64 (rdR np pages o n).1.2]) ∧ ∃ v' S', RM r Ap np cp pages S' v' (rdR np pages o n).2 w' ∧ Ch S S' w w' := by
  have ST := Lib.hid (show Calls Try.prog 32 #[ptr r, .int .u8 114, .int .i64 n, .string ⟨#[]⟩] w _ from step_is h hl 114 n [])
  obtain ⟨R, hR⟩ : ∃ R, rdR np pages o n = R := ⟨_, rfl⟩
  rw [hR]
  have HRR := Lib.hid hR
  clear hR
  go_enter Try.func10, Try.ntmps10
  go_wp2_with fail
  refine ST.out.mono ?_; rintro e w1 ⟨rfl, v1, S1, hr, hc⟩
  have H1 := Lib.hid hr
  have C1 := Lib.hid hc
  have c1 : w1.cell? ⟨r, 1, none⟩ = some (.slice Ap np cp) := hr.box.cell 1
  clear hr hc
  by_cases h0 : n < 0
  · have RE := Lib.hid (show R = (([], 12), o ++ [(114, n, [])]) from by rw [← HRR.out]; unfold rdR; rw [if_neg (by omega)])
    go_wp2_with fail
    go_ret2
    rw [RE.out]
    exact ⟨rfl, _, _, H1.out, C1.out⟩
  · by_cases h1 : n < (np : Int)
    · obtain ⟨i, hi⟩ : ∃ i : Nat, n = (i : Int) := ⟨n.toNat, by omega⟩
      subst hi
      have RE := Lib.hid (show R = ((pages.getD i [], 0), o ++ [(114, (i : Int), [])]) from by rw [← HRR.out]; unfold rdR; rw [if_pos (by omega)]; rfl)
      clear HRR
      obtain ⟨g, cs, rfl, _, hx, hcs⟩ := H1.out.pg i (by omega)
      have ci : w1.cell? ⟨g, i, none⟩ = some (.string (str (pages.getD i []))) := (hx.cell i).trans hcs
      generalize pages.getD i [] = pb at *
      have nh0 : ¬ (np : Int) ≤ (i : Int) := by omega
      clear hx hcs
      go_wp2_with fail
      go_ret2
      rw [RE.out]
      exact ⟨rfl, _, _, H1.out, C1.out⟩
    · have RE := Lib.hid (show R = (([], 12), o ++ [(114, n, [])]) from by rw [← HRR.out]; unfold rdR; rw [if_neg (by omega)])
      have nh0 : (np : Int) ≤ n := by omega
      go_wp2_with fail
      go_ret2
      rw [RE.out]
      exact ⟨rfl, _, _, H1.out, C1.out⟩
def hostR (r : Nat) (Ap : Option Addr) (np cp : Nat) (pages : List BA) : Host St where
  gr := 10
  gw := 11
  gl := 12
  rpre := #[ptr r]
  rcap := #[]
  wpre := #[ptr r]
  wcap := #[]
  lpre := #[ptr r]
  lcap := #[]
  rdF := rdR np pages
  wrF := fun o n b => (0, o ++ [(119, n, b)])
  lgF := fun o n => (0, o ++ [(108, n, [])])
  M := fun S w o => (∃ v, RM r Ap np cp pages S v o w) ∧ ∀ i, (pages.getD i []).length ≤ 1000
  ok := fun o n => o.length + n ≤ 1000000
theorem hostR_good (r : Nat) (Ap : Option Addr) (np cp : Nat) (pages : List BA) : (hostR r Ap np cp pages).Good where
  er := enters_of Try.func10 (by kernel_rfl) rfl
  ew := enters_of Try.func11 (by kernel_rfl) rfl
  el := enters_of Try.func12 (by kernel_rfl) rfl
  keep := fun h t hs => by
    obtain ⟨⟨v, h1⟩, h2⟩ := h
    exact ⟨⟨v, h1.keep t hs⟩, h2⟩
  lt := fun h => by
    obtain ⟨⟨v, h1⟩, h2⟩ := h
    exact h1.lt
  down := fun {o n} h => by
    have h' : o.length + (n + 1) ≤ 1000000 := h
    show o.length + n ≤ 1000000
    omega
  rok := fun {o n k} h => by
    have h' : o.length + (n + 1) ≤ 1000000 := h
    show (o ++ [(114, k, [])]).length + n ≤ 1000000
    rw [List.length_append]; simp only [List.length_cons, List.length_nil]; omega
  wok := fun {o n k b} h => by
    have h' : o.length + (n + 1) ≤ 1000000 := h
    show (o ++ [(119, k, b)]).length + n ≤ 1000000
    rw [List.length_append]; simp only [List.length_cons, List.length_nil]; omega
  lok := fun {o n k} h => by
    have h' : o.length + (n + 1) ≤ 1000000 := h
    show (o ++ [(108, k, [])]).length + n ≤ 1000000
    rw [List.length_append]; simp only [List.length_cons, List.length_nil]; omega
  rlen := fun {S w o k} h => by
    have h2 := h.2
    show (rdR np pages o k).1.1.length ≤ _
    unfold rdR
    split
    · have := h2 k.toNat
      simp only; omega
    · simp
  read := fun {S w o n k} h hok hk => by
    obtain ⟨⟨v, h1⟩, h2⟩ := h
    have h' : o.length + (n + 1) ≤ 1000000 := hok
    refine (read_is h1 (by omega) k).mono ?_
    rintro e w' ⟨he, v', S', k1, k2⟩
    exact ⟨he, S', ⟨⟨v', k1⟩, h2⟩, k2.1, k2.2⟩
  write := fun {S w o n k b} h hok hk hb => by
    obtain ⟨⟨v, h1⟩, h2⟩ := h
    have h' : o.length + (n + 1) ≤ 1000000 := hok
    refine (write_is h1 (by omega) k b).mono ?_
    rintro e w' ⟨he, v', S', k1, k2⟩
    exact ⟨he, S', ⟨⟨v', k1⟩, h2⟩, k2.1, k2.2⟩
  log := fun {S w o n k} h hok hk => by
    obtain ⟨⟨v, h1⟩, h2⟩ := h
    have h' : o.length + (n + 1) ≤ 1000000 := hok
    refine (log_is h1 (by omega) k).mono ?_
    rintro e w' ⟨he, v', S', k1, k2⟩
    exact ⟨he, S', ⟨⟨v', k1⟩, h2⟩, k2.1, k2.2⟩
end Go.Proofs.Ytcecfageijkifaa.Po
