/- The disk and the reference's disk, call by call: one answer, one state. -/
import Derived.Test.YtnkhfgfiifadhaaRefe
namespace Go.Proofs.Ytnkhfgfiifadhaa
open Go.ChangeShapes Go.WideShapes Go.ChangeAt Go.RowKit
set_option linter.unusedVariables false
def readS (A : St) (n : Int) : ByteArray := if A.runs = true ∧ 0 ≤ n ∧ n < A.last.length then str ((appl A.last A.pend).getD n.toNat []) else str []
def readE (A : St) (n : Int) : Int := if A.runs = false then 10 else if 0 ≤ n ∧ n < A.last.length then 0 else 12
def writeE (A : St) (n : Int) (x : ByteArray) : Int := if A.runs = false then 10 else if 0 ≤ n ∧ n < A.last.length then (if x.size ≠ 64 then 1 else if A.left = 0 then 10 else 0) else 12
def writeSt (A : St) (n : Int) (x : ByteArray) : St := if A.runs = true ∧ (0 ≤ n ∧ n < A.last.length) ∧ x.size = 64 then (if A.left = 0 then { A with runs := false } else wrote A n.toNat x.data.toList) else A
def syncE (A : St) : Int := if A.runs = false then 10 else 0
def syncSt (A : St) : St := if A.runs = false then A else synced A
def stopSt (A : St) (n : Int) : St := if A.runs = false then A else { A with left := n }
theorem writeSt_last (A : St) (n : Int) (x : ByteArray) : (writeSt A n x).last = A.last := by
  unfold writeSt wrote; split
  · split <;> rfl
  · rfl
theorem writeSt_pend (A : St) (n : Int) (x : ByteArray) : (writeSt A n x).pend.length ≤ A.pend.length + 1 := by
  unfold writeSt wrote; split
  · split <;> simp
  · omega
theorem syncSt_last (A : St) : (syncSt A).last.length = A.last.length := by
  unfold syncSt synced; split
  · rfl
  · exact appl_length _ _
theorem syncSt_pend (A : St) : (syncSt A).pend.length ≤ A.pend.length := by
  unfold syncSt synced; split <;> simp
theorem stopSt_last (A : St) (n : Int) : (stopSt A n).last = A.last := by unfold stopSt; split <;> rfl
theorem stopSt_pend (A : St) (n : Int) : (stopSt A n).pend = A.pend := by unfold stopSt; split <;> rfl
theorem crashed_last (A : St) (keep : List Bool) : (crashed A keep).last.length = A.last.length := appl_length _ _
theorem bad_range {n : Int} {m : Nat} (h : ¬ (0 ≤ n ∧ n < m)) : n < 0 ∨ (m : Int) ≤ n := by omega
section
variable {C p q : Nat} {A : St} {w : World}
theorem After.refl (h : Disk C p A w) : After C p A w w := ⟨h, Leaves.refl _ _⟩
theorem RAfter.refl (h : RDisk C q A w) : RAfter C q A w w := ⟨h, RLeaves.refl _ _⟩
theorem read_any (h : Disk C p A w) (n : Int) : Calls Try.prog 15 #[ptr p, .int .i64 n] w fun e w' => e = .returned (.tuple #[.string (readS A n), .int .i64 (readE A n)]) ∧ w = w' := by
  by_cases hr : A.runs = false
  · have e1 : readS A n = str [] := by unfold readS; rw [if_neg (by simp [hr])]
    have e2 : readE A n = 10 := by unfold readE; rw [if_pos hr]
    rw [e1, e2]; exact read_dead_d h n hr
  · have hr' : A.runs = true := by simpa using hr
    by_cases hn : 0 ≤ n ∧ n < A.last.length
    · have e1 : readS A n = str ((appl A.last A.pend).getD n.toNat []) := by unfold readS; rw [if_pos ⟨hr', hn⟩]
      have e2 : readE A n = 0 := by unfold readE; rw [if_neg hr, if_pos hn]
      have := read_d h n.toNat hr' (by omega)
      rw [Int.toNat_of_nonneg hn.1] at this
      rw [e1, e2]; exact this
    · have e1 : readS A n = str [] := by unfold readS; rw [if_neg (fun h => hn h.2)]
      have e2 : readE A n = 12 := by unfold readE; rw [if_neg hr, if_neg hn]
      rw [e1, e2]; exact read_range_d h n hr' (bad_range hn)
theorem rread_any (h : RDisk C q A w) (n : Int) : Calls Try.prog 25 #[ptr q, .int .i64 n] w fun e w' => e = .returned (.tuple #[.string (readS A n), .int .i64 (readE A n)]) ∧ w = w' := by
  obtain ⟨lv, pv, h⟩ := h
  by_cases hr : A.runs = false
  · have e1 : readS A n = str [] := by unfold readS; rw [if_neg (by simp [hr])]
    have e2 : readE A n = 10 := by unfold readE; rw [if_pos hr]
    rw [e1, e2]; exact rread_dead h n hr
  · have hr' : A.runs = true := by simpa using hr
    by_cases hn : 0 ≤ n ∧ n < A.last.length
    · have e1 : readS A n = str ((appl A.last A.pend).getD n.toNat []) := by unfold readS; rw [if_pos ⟨hr', hn⟩]
      have e2 : readE A n = 0 := by unfold readE; rw [if_neg hr, if_pos hn]
      have := rread_ok h n.toNat hr' (by omega)
      rw [Int.toNat_of_nonneg hn.1] at this
      rw [e1, e2]; exact this
    · have e1 : readS A n = str [] := by unfold readS; rw [if_neg (fun h => hn h.2)]
      have e2 : readE A n = 12 := by unfold readE; rw [if_neg hr, if_neg hn]
      rw [e1, e2]; exact rread_range h n hr' (bad_range hn)
theorem write_any (h : Disk C p A w) (n : Int) (x : ByteArray) (hx : x.size ≤ maxLen) (hm : A.pend.length ≤ 1000000) : Calls Try.prog 17 #[ptr p, .int .i64 n, .string x] w fun e w' => e = .returned (.int .i64 (writeE A n x)) ∧ After C p (writeSt A n x) w w' := by
  by_cases hr : A.runs = false
  · rw [show writeE A n x = 10 by unfold writeE; rw [if_pos hr], show writeSt A n x = A by unfold writeSt; rw [if_neg (by simp [hr])]]
    exact (write_dead_d h n (.string x) hr).mono fun e w' ⟨he, hw⟩ => ⟨he, hw ▸ After.refl h⟩
  · have hr' : A.runs = true := by simpa using hr
    by_cases hn : 0 ≤ n ∧ n < A.last.length
    · have en : ((n.toNat : Nat) : Int) = n := Int.toNat_of_nonneg hn.1
      by_cases hs : x.size = 64
      · have el : x.data.toList.length = 64 := by rw [Array.length_toList]; exact hs
        by_cases hl : A.left = 0
        · rw [show writeE A n x = 10 by unfold writeE; rw [if_neg hr, if_pos hn, if_neg (by simp [hs]), if_pos hl], show writeSt A n x = { A with runs := false } by unfold writeSt; rw [if_pos ⟨hr', hn, hs⟩, if_pos hl]]
          have := write_stop_d h n.toNat x.data.toList hr' (by omega) el hl
          rw [en, str_data] at this
          exact this
        · rw [show writeE A n x = 0 by unfold writeE; rw [if_neg hr, if_pos hn, if_neg (by simp [hs]), if_neg hl], show writeSt A n x = wrote A n.toNat x.data.toList by unfold writeSt; rw [if_pos ⟨hr', hn, hs⟩, if_neg hl]]
          have := write_d h n.toNat x.data.toList hr' (by omega) el hl hm
          rw [en, str_data] at this
          exact this
      · rw [show writeE A n x = 1 by unfold writeE; rw [if_neg hr, if_pos hn, if_pos hs], show writeSt A n x = A by unfold writeSt; rw [if_neg (fun h => hs h.2.2)]]
        have := write_arg_d h n.toNat x hr' (by omega) hs hx
        rw [en] at this
        exact this.mono fun e w' ⟨he, hw⟩ => ⟨he, hw ▸ After.refl h⟩
    · rw [show writeE A n x = 12 by unfold writeE; rw [if_neg hr, if_neg hn], show writeSt A n x = A by unfold writeSt; rw [if_neg (fun h => hn h.2.1)]]
      exact (write_range_d h n (.string x) hr' (bad_range hn)).mono fun e w' ⟨he, hw⟩ => ⟨he, hw ▸ After.refl h⟩
theorem rwrite_any (h : RDisk C q A w) (n : Int) (x : ByteArray) (hx : x.size ≤ maxLen) (hm : A.pend.length ≤ 1000000) : Calls Try.prog 26 #[ptr q, .int .i64 n, .string x] w fun e w' => e = .returned (.int .i64 (writeE A n x)) ∧ RAfter C q (writeSt A n x) w w' := by
  have h' := h
  obtain ⟨lv, pv, h⟩ := h
  by_cases hr : A.runs = false
  · rw [show writeE A n x = 10 by unfold writeE; rw [if_pos hr], show writeSt A n x = A by unfold writeSt; rw [if_neg (by simp [hr])]]
    exact (rwrite_dead h n (.string x) hr).mono fun e w' ⟨he, hw⟩ => ⟨he, hw ▸ RAfter.refl h'⟩
  · have hr' : A.runs = true := by simpa using hr
    by_cases hn : 0 ≤ n ∧ n < A.last.length
    · have en : ((n.toNat : Nat) : Int) = n := Int.toNat_of_nonneg hn.1
      by_cases hs : x.size = 64
      · have el : x.data.toList.length = 64 := by rw [Array.length_toList]; exact hs
        by_cases hl : A.left = 0
        · rw [show writeE A n x = 10 by unfold writeE; rw [if_neg hr, if_pos hn, if_neg (by simp [hs]), if_pos hl], show writeSt A n x = { A with runs := false } by unfold writeSt; rw [if_pos ⟨hr', hn, hs⟩, if_pos hl]]
          have := rwrite_stop h n.toNat x hr' (by omega) hs hl
          rw [en] at this
          exact this.mono fun e w' ⟨he, h1, h2⟩ => ⟨he, ⟨_, _, h1⟩, h2⟩
        · rw [show writeE A n x = 0 by unfold writeE; rw [if_neg hr, if_pos hn, if_neg (by simp [hs]), if_neg hl], show writeSt A n x = wrote A n.toNat x.data.toList by unfold writeSt; rw [if_pos ⟨hr', hn, hs⟩, if_neg hl]]
          have := rwrite_ok h n.toNat x.data.toList hr' (by omega) el hl hm
          rw [en, str_data] at this
          exact this
      · rw [show writeE A n x = 1 by unfold writeE; rw [if_neg hr, if_pos hn, if_pos hs], show writeSt A n x = A by unfold writeSt; rw [if_neg (fun h => hs h.2.2)]]
        have := rwrite_arg h n.toNat x hr' (by omega) hs hx
        rw [en] at this
        exact this.mono fun e w' ⟨he, hw⟩ => ⟨he, hw ▸ RAfter.refl h'⟩
    · rw [show writeE A n x = 12 by unfold writeE; rw [if_neg hr, if_neg hn], show writeSt A n x = A by unfold writeSt; rw [if_neg (fun h => hn h.2.1)]]
      exact (rwrite_range h n (.string x) hr' (bad_range hn)).mono fun e w' ⟨he, hw⟩ => ⟨he, hw ▸ RAfter.refl h'⟩
theorem sync_any (h : Disk C p A w) : Calls Try.prog 19 #[ptr p] w fun e w' => e = .returned (.int .i64 (syncE A)) ∧ After C p (syncSt A) w w' := by
  by_cases hr : A.runs = false
  · rw [show syncE A = 10 by unfold syncE; rw [if_pos hr], show syncSt A = A by unfold syncSt; rw [if_pos hr]]
    exact (sync_dead_d h hr).mono fun e w' ⟨he, hw⟩ => ⟨he, hw ▸ After.refl h⟩
  · rw [show syncE A = 0 by unfold syncE; rw [if_neg hr], show syncSt A = synced A by unfold syncSt; rw [if_neg hr]]
    exact sync_d h (by simpa using hr)
theorem rsync_any (h : RDisk C q A w) : Calls Try.prog 27 #[ptr q] w fun e w' => e = .returned (.int .i64 (syncE A)) ∧ RAfter C q (syncSt A) w w' := by
  have h' := h
  obtain ⟨lv, pv, h⟩ := h
  by_cases hr : A.runs = false
  · rw [show syncE A = 10 by unfold syncE; rw [if_pos hr], show syncSt A = A by unfold syncSt; rw [if_pos hr]]
    exact (rsync_dead h hr).mono fun e w' ⟨he, hw⟩ => ⟨he, hw ▸ RAfter.refl h'⟩
  · rw [show syncE A = 0 by unfold syncE; rw [if_neg hr], show syncSt A = synced A by unfold syncSt; rw [if_neg hr]]
    exact rsync_ok h (by simpa using hr)
theorem stop_any (h : Disk C p A w) (n : Int) (n1 : -9223372036854775808 ≤ n) (n2 : n ≤ 9223372036854775807) : Calls Try.prog 16 #[ptr p, .int .i64 n] w fun e w' => e = .returned (.tuple #[]) ∧ After C p (stopSt A n) w w' := by
  by_cases hr : A.runs = false
  · rw [show stopSt A n = A by unfold stopSt; rw [if_pos hr]]
    obtain ⟨s, c, pv, ho⟩ := h
    exact (stop_dead ho n hr).mono fun e w' ⟨he, hw⟩ => ⟨he, hw ▸ After.refl ⟨s, c, pv, ho⟩⟩
  · rw [show stopSt A n = { A with left := n } by unfold stopSt; rw [if_neg hr]]
    exact stop_d h n n1 n2 (by simpa using hr)
theorem rstop_any (h : RDisk C q A w) (n : Int) (n1 : -9223372036854775808 ≤ n) (n2 : n ≤ 9223372036854775807) : Calls Try.prog 28 #[ptr q, .int .i64 n] w fun e w' => e = .returned (.tuple #[]) ∧ RAfter C q (stopSt A n) w w' := by
  have h' := h
  obtain ⟨lv, pv, h⟩ := h
  by_cases hr : A.runs = false
  · rw [show stopSt A n = A by unfold stopSt; rw [if_pos hr]]
    exact (rstop_dead h n hr).mono fun e w' ⟨he, hw⟩ => ⟨he, hw ▸ RAfter.refl h'⟩
  · rw [show stopSt A n = { A with left := n } by unfold stopSt; rw [if_neg hr]]
    exact (rstop_ok h n n1 n2 (by simpa using hr)).mono fun e w' ⟨he, h1, h2⟩ => ⟨he, ⟨_, _, h1⟩, h2⟩
theorem Lies.keeps {ka : Option Addr} {keep : List Bool} (h : Lies C ka keep w) : Keeps C ka keep w := fun i hi => by
  obtain ⟨b, off, h1, h2, h3⟩ := h i hi
  exact ⟨b, off, h1, h3, .inl h2⟩
theorem rcrash_any (h : RDisk C q A w) (keep : List Bool) (ka : Option Addr) (kc : Nat) (hkeep : Lies C ka keep w) (hkl : keep.length ≤ maxLen) : Calls Try.prog 29 #[ptr q, .slice ka keep.length kc] w fun e w' => e = .returned (.int .i64 (kept A.pend keep).length) ∧ RAfter C q (crashed A keep) w w' := by
  obtain ⟨lv, pv, h⟩ := h
  exact rcrash_ok h keep ka kc hkeep hkl
end
section
/-! Each leaves the other. -/
variable {C p q : Nat} {A A' B : St} {w w' : World}
theorem RDisk.left (h : RDisk C q A w) (hl : Leaves C w w') : RDisk C q A w' := by
  obtain ⟨lv, pv, h⟩ := h
  refine ⟨lv, pv, h.same fun k hk => ?_⟩
  rcases hk with rfl | hk | hk
  · exact hl.other _ _ _ _ h.head (by decide) (by decide) (by decide)
  · obtain ⟨-, cur, hc⟩ := h.blockL hk
    exact hl.other _ _ _ _ hc (by decide) (by decide) (by decide)
  · obtain ⟨-, cur, hc⟩ := h.blockP hk
    exact hl.other _ _ _ _ hc (by decide) (by decide) (by decide)
theorem RDisk.below {D : Nat} (h : RDisk C q A w) (hb : Below D w w') (hD : w.heap.size ≤ D) : RDisk C q A w' := by
  obtain ⟨lv, pv, h⟩ := h; exact ⟨lv, pv, h.below hb hD⟩
theorem Disk.rleft (h : Disk C p A w) (hl : RLeaves C w w') : Disk C p A w' := by
  obtain ⟨s, c, pv, h⟩ := h
  refine ⟨s, c, pv, h.same fun k hk => ?_⟩
  rcases hk with rfl | rfl | hk
  · exact hl.other _ _ _ _ h.head (by decide) (by decide) (by decide)
  · obtain ⟨cur, hc, _⟩ := h.secs
    exact hl.other _ _ _ _ hc (by decide) (by decide) (by decide)
  · rcases h.row.2 with ⟨e1, _⟩ | ⟨g, cap, cur, e1, _, e2, _⟩
    · rw [e1] at hk; simp [Value.ownBlock] at hk
    · rw [e1] at hk
      simp only [Value.ownBlock, Option.some.injEq] at hk
      subst hk
      exact hl.other _ _ _ _ e2 (by decide) (by decide) (by decide)
/-! The copy, and what becomes of the disk that it was made of. -/
theorem copy_six (h : Disk C p A w) (hm : A.pend.length ≤ 1000000) : Calls Try.prog 24 #[ptr p] w fun e w' => ∃ p', e = .returned (ptr p') ∧ Two C p A p' A w' ∧ Leaves C w w' := by
  obtain ⟨s, c, pv, h1⟩ := h
  have hp := h1.hp
  have hlt := h1.lt
  refine (copy_o h1 hm).mono fun e w' ⟨p', s', c', pv', he, g1, g2⟩ => ⟨p', he, ⟨s, c, pv, s', c', pv', h1.below g2 (Nat.le_refl _), g1.weaken (by omega), fun k hk hk' => ?_⟩, Leaves.of_below g2 (Nat.le_refl _) (by omega)⟩
  have := h1.has hk
  rcases hk' with e | e | e
  · have := g1.hp; omega
  · have := g1.hs; omega
  · have := (g1.ltv k e).1; omega
theorem crash_six {p' : Nat} (h : Two C p A p' A' w) (ka : Option Addr) (kc : Nat) (hm : A.pend.length ≤ 1000000) : Calls Try.prog 21 #[ptr p, .slice ka 0 kc] w fun e w' => e = .returned (.int .i64 0) ∧ Two C p ⟨A.last, [], true, -1⟩ p' A' w' ∧ Leaves C w w' := by
  obtain ⟨s, c, pv, s', c', pv', h1, h2, h3⟩ := h
  have hk : kept A.pend [] = [] := by simp [kept]
  have := crash_o h1 [] ka kc hm (by simp) (fun i hi => by simp at hi)
  refine this.mono fun e w' ⟨he, g1, g2⟩ => ⟨by rw [he, hk]; rfl, ?_, h1.left g2⟩
  rw [crashed, hk] at g1
  exact Two.turn h1 h2 h3 g1 g2 (fun k e => by simp [Value.ownBlock] at e)
theorem write_six {p' : Nat} (h : Two C p A p' A' w) (k : Nat) (b : BA) (hr : A.runs = true) (hk : k < A.last.length) (hb : b.length = 64) (hl : A.left ≠ 0) (hm : A.pend.length ≤ 1000000) :
    Calls Try.prog 17 #[ptr p, .int .i64 k, .string (str b)] w fun e w' => e = .returned (.int .i64 0) ∧ Two C p (wrote A k b) p' A' w' ∧ Leaves C w w' := by
  obtain ⟨s, c, pv, s', c', pv', h1, h2, h3⟩ := h
  exact (write_ok h1 k b hr hk hb hl hm).mono fun e w' ⟨he, pv2, g1, g2, g3⟩ => ⟨he, Two.turn h1 h2 h3 g1 g2 g3, h1.left g2⟩
theorem sync_six {p' : Nat} (h : Two C p A p' A' w) (hr : A.runs = true) : Calls Try.prog 19 #[ptr p] w fun e w' => e = .returned (.int .i64 0) ∧ Two C p (synced A) p' A' w' ∧ Leaves C w w' := by
  obtain ⟨s, c, pv, s', c', pv', h1, h2, h3⟩ := h
  exact (sync_o h1 hr).mono fun e w' ⟨he, g1, g2⟩ => ⟨he, Two.turn h1 h2 h3 g1 g2 (fun k e => by simp [Value.ownBlock] at e), h1.left g2⟩
theorem Two.second {p' : Nat} (h : Two C p A p' A' w) : Disk C p' A' w := by
  obtain ⟨s, c, pv, s', c', pv', h1, h2, h3⟩ := h; exact ⟨s', c', pv', h2⟩
theorem Two.more {p' D : Nat} (h : Two C p A p' A' w) (hb : Below D w w') (hD : w.heap.size ≤ D) : Two C p A p' A' w' := h.below hb hD
/-! Copy of no disk. -/
set_option maxHeartbeats 400000 in
theorem copy_nil (w : World) : Calls Try.prog 24 #[.pointer none] w fun e w' => e = .returned (.pointer none) ∧ w = w' := by
  go_enter Try.func24, Try.ntmps24
  go_wp2_with fail
  refine (sectors_nil _).mono ?_; rintro e w' ⟨rfl, rfl⟩
  go_wp2_with fail
  go_ret
  exact ⟨rfl, rfl⟩
end
end Go.Proofs.Ytnkhfgfiifadhaa
