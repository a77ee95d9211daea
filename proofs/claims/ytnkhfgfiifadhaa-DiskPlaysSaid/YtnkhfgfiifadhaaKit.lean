/- The disk's calls with its blocks hidden; Fill; the laws' first call 'alive'. -/
import Derived.Test.YtnkhfgfiifadhaaCrash
namespace Go.Proofs.Ytnkhfgfiifadhaa
open Go.ChangeShapes Go.WideShapes Go.ChangeAt Go.RowKit
set_option linter.unusedVariables false
set_option linter.unusedSimpArgs false

/-- The disk at p, wherever its blocks are, from block C on. -/
def Disk (C p : Nat) (A : St) (w : World) : Prop := ∃ s c pv, Own C p s c pv A w
/-- What a call on a disk from block C on leaves: all below C, and all blocks of other element types. -/
structure Leaves (C : Nat) (w w' : World) : Prop where
  below : Below C w w'
  other : ∀ (k : Nat) (cs : Array Value) (t : TypeId) (fr : Nat × Nat), w.heap[k]? = some (.cells cs t fr) → t ≠ 57 → t ≠ 61 → t ≠ 63 → w'.heap[k]? = w.heap[k]?
theorem Leaves.refl (C : Nat) (w : World) : Leaves C w w := ⟨Below.refl _ _, fun _ _ _ _ _ _ _ _ => rfl⟩
theorem Leaves.trans {C : Nat} {a b c : World} (h : Leaves C a b) (k : Leaves C b c) : Leaves C a c :=
  ⟨h.below.trans k.below, fun i cs t fr hi h1 h2 h3 => (k.other i cs t fr ((h.other i cs t fr hi h1 h2 h3).trans hi) h1 h2 h3).trans (h.other i cs t fr hi h1 h2 h3)⟩
theorem Leaves.of_below {C D : Nat} {a b : World} (h : Below D a b) (hD : a.heap.size ≤ D) (hC : C ≤ D) : Leaves C a b :=
  ⟨h.mono hC, fun k cs t fr hk _ _ _ => h.block k (by have := (Array.getElem?_eq_some_iff.1 hk).1; omega)⟩
theorem Leaves.alloc {C : Nat} {a b : World} (h : Leaves C a b) (hC : C ≤ b.heap.size) (o : Obj) : Leaves C a (b.alloc o) := h.trans (Leaves.of_below ((Below.refl _ _).alloc (Nat.le_refl _) o) (Nat.le_refl _) hC)
theorem Leaves.size {C : Nat} {a b : World} (h : Leaves C a b) : a.heap.size ≤ b.heap.size := h.below.size
theorem Own.left {C p s c : Nat} {pv : Value} {A : St} {w w' : World} (h : Own C p s c pv A w) (ht : Turned p s pv w w') : Leaves C w w' := by
  have hp := h.lt
  refine ⟨ht.below h.hp h.hs (fun k hk => (h.ltv k hk).1) (by have := h.hp; omega), fun k cs t fr hk h1 h2 h3 => ht.block k (Array.getElem?_eq_some_iff.1 hk).1 ?_ ?_ ?_⟩
  · rintro rfl
    rw [h.head] at hk
    simp at hk; exact h1 hk.2.1.symm
  · rintro rfl
    obtain ⟨cur, hc, _⟩ := h.secs
    rw [hc] at hk
    simp at hk; exact h2 hk.2.1.symm
  · intro e
    rcases h.row.2 with ⟨e1, _⟩ | ⟨g, cap, cur, e1, _, e2, _⟩
    · rw [e1] at e; simp [Value.ownBlock] at e
    · rw [e1] at e
      simp only [Value.ownBlock, Option.some.injEq] at e
      subst e
      rw [e2] at hk
      simp at hk; exact h3 hk.2.1.symm
section
variable {C p : Nat} {A : St} {w : World}
theorem Disk.below {D : Nat} {w' : World} (h : Disk C p A w) (hb : Below D w w') (hD : w.heap.size ≤ D) : Disk C p A w' := by
  obtain ⟨s, c, pv, h⟩ := h; exact ⟨s, c, pv, h.below hb hD⟩
theorem Disk.alloc (h : Disk C p A w) (o : Obj) : Disk C p A (w.alloc o) := h.below ((Below.refl _ _).alloc (Nat.le_refl _) o) (Nat.le_refl _)
theorem Disk.base (h : Disk C p A w) : C ≤ w.heap.size := by
  obtain ⟨s, c, pv, h⟩ := h; have := h.lt; have := h.hp; omega
theorem Disk.whole (h : Disk C p A w) : Whole (appl A.last A.pend) := by obtain ⟨s, c, pv, h⟩ := h; exact h.wholeNow
theorem Disk.wholeLast (h : Disk C p A w) : Whole A.last := by obtain ⟨s, c, pv, h⟩ := h; exact h.whole
/-- A call has left the disk so. -/
def After (C p : Nat) (A : St) (w w' : World) : Prop := Disk C p A w' ∧ Leaves C w w'
theorem Disk.fresh (w : World) (n : Nat) (h1 : 1 ≤ n) (h2 : n ≤ 10000) : After w.heap.size (w.heap.size + 1) (blank n) w ((w.alloc (secRow n)).alloc (headRow w.heap.size n)) :=
  ⟨⟨_, _, _, Own.fresh w n h1 h2⟩, Leaves.of_below (((Below.refl _ w).alloc (Nat.le_refl _) _).alloc (by simp) _) (Nat.le_refl _) (Nat.le_refl _)⟩
theorem new_d (n : Nat) (h1 : 1 ≤ n) (h2 : n ≤ 10000) (w : World) : Calls Try.prog 13 #[.int .i64 n] w fun e w' => e = .returned (ptr (w.heap.size + 1)) ∧ After w.heap.size (w.heap.size + 1) (blank n) w w' :=
  (new_ok n h1 h2 w).mono fun e w' ⟨he, hw⟩ => ⟨he, by rw [hw]; exact Disk.fresh w n h1 h2⟩
theorem write_d (h : Disk C p A w) (k : Nat) (b : BA) (hr : A.runs = true) (hk : k < A.last.length) (hb : b.length = 64) (hl : A.left ≠ 0) (hm : A.pend.length ≤ 1000000) :
    Calls Try.prog 17 #[ptr p, .int .i64 k, .string (str b)] w fun e w' => e = .returned (.int .i64 0) ∧ After C p (wrote A k b) w w' := by
  obtain ⟨s, c, pv, h⟩ := h
  exact (write_ok h k b hr hk hb hl hm).mono fun e w' ⟨he, pv', h1, h2, h3⟩ => ⟨he, ⟨_, _, _, h1⟩, h.left h2⟩
theorem write_dead_d (h : Disk C p A w) (k : Int) (x : Value) (hr : A.runs = false) : Calls Try.prog 17 #[ptr p, .int .i64 k, x] w fun e w' => e = .returned (.int .i64 10) ∧ w = w' := by
  obtain ⟨s, c, pv, h⟩ := h; exact write_dead h k x hr
theorem write_range_d (h : Disk C p A w) (k : Int) (x : Value) (hr : A.runs = true) (hk : k < 0 ∨ (A.last.length : Int) ≤ k) : Calls Try.prog 17 #[ptr p, .int .i64 k, x] w fun e w' => e = .returned (.int .i64 12) ∧ w = w' := by
  obtain ⟨s, c, pv, h⟩ := h; exact write_range h k x hr hk
theorem write_arg_d (h : Disk C p A w) (k : Nat) (x : ByteArray) (hr : A.runs = true) (hk : k < A.last.length) (hx : x.size ≠ 64) (hm : x.size ≤ maxLen) : Calls Try.prog 17 #[ptr p, .int .i64 k, .string x] w fun e w' => e = .returned (.int .i64 1) ∧ w = w' := by
  obtain ⟨s, c, pv, h⟩ := h; exact write_arg h k x hr hk hx hm
theorem write_stop_d (h : Disk C p A w) (k : Nat) (b : BA) (hr : A.runs = true) (hk : k < A.last.length) (hb : b.length = 64) (hl : A.left = 0) :
    Calls Try.prog 17 #[ptr p, .int .i64 k, .string (str b)] w fun e w' => e = .returned (.int .i64 10) ∧ After C p { A with runs := false } w w' := by
  obtain ⟨s, c, pv, h⟩ := h
  exact (write_stop h k b hr hk hb hl).mono fun e w' ⟨he, h1, h2⟩ => ⟨he, ⟨_, _, _, h1⟩, h.left h2⟩
theorem read_d (h : Disk C p A w) (k : Nat) (hr : A.runs = true) (hk : k < A.last.length) :
    Calls Try.prog 15 #[ptr p, .int .i64 k] w fun e w' => e = .returned (.tuple #[.string (str ((appl A.last A.pend).getD k [])), .int .i64 0]) ∧ w = w' := by
  obtain ⟨s, c, pv, h⟩ := h; exact read_ok h k hr hk
theorem read_dead_d (h : Disk C p A w) (k : Int) (hr : A.runs = false) : Calls Try.prog 15 #[ptr p, .int .i64 k] w fun e w' => e = .returned (.tuple #[.string (str []), .int .i64 10]) ∧ w = w' := by
  obtain ⟨s, c, pv, h⟩ := h; exact read_dead h k hr
theorem read_range_d (h : Disk C p A w) (k : Int) (hr : A.runs = true) (hk : k < 0 ∨ (A.last.length : Int) ≤ k) : Calls Try.prog 15 #[ptr p, .int .i64 k] w fun e w' => e = .returned (.tuple #[.string (str []), .int .i64 12]) ∧ w = w' := by
  obtain ⟨s, c, pv, h⟩ := h; exact read_range h k hr hk
theorem sync_d (h : Disk C p A w) (hr : A.runs = true) : Calls Try.prog 19 #[ptr p] w fun e w' => e = .returned (.int .i64 0) ∧ After C p (synced A) w w' := by
  obtain ⟨s, c, pv, h⟩ := h
  exact (sync_o h hr).mono fun e w' ⟨he, h1, h2⟩ => ⟨he, ⟨_, _, _, h1⟩, h.left h2⟩
theorem sync_dead_d (h : Disk C p A w) (hr : A.runs = false) : Calls Try.prog 19 #[ptr p] w fun e w' => e = .returned (.int .i64 10) ∧ w = w' := by
  obtain ⟨s, c, pv, h⟩ := h; exact sync_dead h hr
theorem stop_d (h : Disk C p A w) (n : Int) (n1 : -9223372036854775808 ≤ n) (n2 : n ≤ 9223372036854775807) (hr : A.runs = true) :
    Calls Try.prog 16 #[ptr p, .int .i64 n] w fun e w' => e = .returned (.tuple #[]) ∧ After C p { A with left := n } w w' := by
  obtain ⟨s, c, pv, h⟩ := h
  exact (stop_o h n n1 n2 hr).mono fun e w' ⟨he, h1, h2⟩ => ⟨he, ⟨_, _, _, h1⟩, h.left h2⟩
theorem dead_d (h : Disk C p A w) : Calls Try.prog 20 #[ptr p] w fun e w' => e = .returned (.bool (!A.runs)) ∧ w = w' := by
  obtain ⟨s, c, pv, h⟩ := h; exact dead_o h
theorem pending_d (h : Disk C p A w) : Calls Try.prog 22 #[ptr p] w fun e w' => e = .returned (.int .i64 A.pend.length) ∧ w = w' := by
  obtain ⟨s, c, pv, h⟩ := h; exact pending_o h
theorem sectors_d (h : Disk C p A w) : Calls Try.prog 23 #[ptr p] w fun e w' => e = .returned (.int .i64 A.last.length) ∧ w = w' := by
  obtain ⟨s, c, pv, h⟩ := h; exact sectors_o h
/-- The list of what is kept: outside the disk's blocks, by its place or its element type. -/
def Keeps (C : Nat) (ka : Option Addr) (keep : List Bool) (w : World) : Prop := ∀ i, i < keep.length → ∃ g o, ka = some ⟨g, o, none⟩ ∧ w.cell? ⟨g, o + i, none⟩ = some (.bool (keep.getD i false)) ∧ (g < C ∨ ∃ cs fr, w.heap[g]? = some (.cells cs 4 fr))
theorem Own.keepAt {s c : Nat} {pv : Value} (h : Own C p s c pv A w) {ka : Option Addr} {keep : List Bool} (hk : Keeps C ka keep w) : KeepAt p s ka keep w := fun i hi => by
  obtain ⟨g, o, h1, h2, h3⟩ := hk i hi
  have hp := h.hp
  have hs := h.hs
  refine ⟨g, o, h1, ?_, ?_, h2⟩
  · rintro rfl
    rcases h3 with h3 | ⟨cs, fr, h3⟩
    · omega
    · rw [h.head] at h3; simp at h3
  · rintro rfl
    rcases h3 with h3 | ⟨cs, fr, h3⟩
    · omega
    · obtain ⟨cur, hc, _⟩ := h.secs; rw [hc] at h3; simp at h3
theorem crash_d (h : Disk C p A w) (keep : List Bool) (ka : Option Addr) (kc : Nat) (hm : A.pend.length ≤ 1000000) (hkl : keep.length ≤ maxLen) (hk : Keeps C ka keep w) :
    Calls Try.prog 21 #[ptr p, .slice ka keep.length kc] w fun e w' => e = .returned (.int .i64 (kept A.pend keep).length) ∧ After C p (crashed A keep) w w' := by
  obtain ⟨s, c, pv, h⟩ := h
  exact (crash_o h keep ka kc hm hkl (h.keepAt hk)).mono fun e w' ⟨he, h1, h2⟩ => ⟨he, ⟨_, _, _, h1⟩, h.left h2⟩
theorem crash_none (h : Disk C p A w) (ka : Option Addr) (kc : Nat) (hm : A.pend.length ≤ 1000000) :
    Calls Try.prog 21 #[ptr p, .slice ka 0 kc] w fun e w' => e = .returned (.int .i64 0) ∧ After C p ⟨A.last, [], true, -1⟩ w w' := by
  have hk : kept A.pend [] = [] := by simp [kept]
  have := crash_d h [] ka kc hm (by simp) (fun i hi => by simp at hi)
  rw [crashed, hk] at this
  exact this
end

/-! Fill. -/
def fill (l : BA) : BA := if 64 < l.length then l.take 64 else l ++ List.replicate (64 - l.length) 0
theorem fill_length (l : BA) : (fill l).length = 64 := by
  unfold fill
  split
  · simp; omega
  · simp; omega
theorem fill_short {l : BA} (h : l.length ≤ 64) : fill l = l ++ List.replicate (64 - l.length) 0 := by unfold fill; rw [if_neg (by omega)]
theorem fill_nil : fill [] = zeroS := by simp [fill, zeroS]
abbrev zRow (n : Nat) : Obj := .cells (madeCells #[.int .u8 0] n) 5
theorem info_u8 : (Try.prog.info? 5).map (fun i => (i.zero, i.size, i.bytes)) = some (some (.int .u8 0), 1, 1) := by kernel_rfl
theorem zrow_get (n j : Nat) (h : j < n) : (madeCells #[Value.int .u8 0] n)[j]? = some (.int .u8 0) := by
  simp only [madeCells, Array.getElem?_map]
  rw [Array.getElem?_eq_getElem (by simpa using h)]
  simp [Nat.mod_one]
theorem convert_zeros (w : World) (n : Nat) : (convert 49 9 (.slice (some ⟨w.heap.size, 0, none⟩) n n)).run Try.prog (w.alloc (zRow n)) = .ok (.string (str (List.replicate n 0))) (w.alloc (zRow n)) := by
  rw [← strOfNums_bytes]
  refine run_convert_bytes_arg (w.alloc (zRow n)) 49 5 Try.underlying49 Try.underlying5 w.heap.size 0 n n _ (by simp) (fun i hi => ?_) 9 Try.underlying9
  rw [getD_bytes, cell_of_row _ _ _ _ _ _ (heap_alloc_new w _), Nat.zero_add, zrow_get n i hi, List.getD_eq_getElem?_getD, List.getElem?_replicate, if_pos hi]
  rfl
set_option maxHeartbeats 400000 in
theorem zeros_ok (n : Nat) (hn : n ≤ 64) (w : World) : Calls Try.prog 30 #[.int .i64 n] w fun e w' => e = .returned (.string (str (List.replicate n 0))) ∧ Below w.heap.size w w' := by
  obtain ⟨i0, hi, hz0, hz1, hz2⟩ := info_parts info_u8
  have hmk := fun w : World => run_make (P := Try.prog) w 49 5 i0 _ Try.underlying49 hi hz0 .i64 .i64 (n : Int) (n : Int) (by omega) (Int.le_refl _) (by rw [hz2]; omega) (by omega)
  rw [hz1] at hmk
  simp only [Int.toNat_natCast, Value.cells, Nat.mul_one] at hmk
  have hcv := convert_zeros w n
  unfold zRow at hcv
  obtain ⟨row, hrow⟩ : ∃ row, row = madeCells #[Value.int .u8 0] n := ⟨_, rfl⟩
  rw [← hrow] at hmk hcv
  have HB := Lib.hid ((Below.refl w.heap.size w).alloc (Nat.le_refl _) (.cells row 5))
  obtain ⟨z, hz⟩ : ∃ z, z = str (List.replicate n 0) := ⟨_, rfl⟩
  rw [← hz] at hcv ⊢
  clear hi hz0 hz1 hz2 hrow hz
  have k0 : (0 : Int) ≤ (n : Int) := by omega
  go_enter Try.func30, Try.ntmps30
  go_wp2_with fail
  go_ret
  exact ⟨rfl, HB.out⟩
theorem str_append (x : ByteArray) (l : BA) : x ++ str l = str (x.data.toList ++ l) := by
  apply ByteArray.ext
  rw [ByteArray.data_append]
  apply Array.ext'
  simp [str]
theorem str_data (x : ByteArray) : str x.data.toList = x := by cases x; simp [str]
set_option maxHeartbeats 400000 in
theorem fill_ok (x : ByteArray) (hx : x.size ≤ maxLen) (w : World) : Calls Try.prog 18 #[.string x] w fun e w' => e = .returned (.string (str (fill x.data.toList))) ∧ Below w.heap.size w w' := by
  unfold maxLen at hx
  have hl : x.data.toList.length = x.size := by rw [Array.length_toList]; rfl
  by_cases h : x.size ≤ 64
  · have h1 : ¬ 64 < x.size := by omega
    have h2 : (64 : Int) - (x.size : Int) = ((64 - x.size : Nat) : Int) := by omega
    have h3 : (x.size : Int) ≤ 64 := by omega
    have hs : IntKind.i64.wrap (64 - (x.size : Int)) = ((64 - x.size : Nat) : Int) := by rw [h2]; exact IntWalk.i64_in _ (by omega)
    rw [fill_short (by omega), hl]
    have HA := Lib.hid (str_append x (List.replicate (64 - x.size) 0))
    have HS := Lib.hid hs
    have HE := Lib.hid h2
    clear hs h2
    go_enter Try.func18, Try.ntmps18
    go_wp2_with fail
    rw [HE.out]
    refine (zeros_ok (64 - x.size) (by omega) _).mono ?_; rintro e w' ⟨rfl, hb⟩
    have HB := Lib.hid hb
    clear hb
    obtain ⟨z, hz⟩ : ∃ z, z = str (List.replicate (64 - x.size) 0) := ⟨_, rfl⟩
    rw [← hz]
    have HZ := Lib.hid hz
    have hzl : z.size ≤ 64 := by rw [hz, str_size]; simp
    clear hz
    go_wp2_with fail
    go_ret
    exact ⟨by rw [HZ.out, HA.out]; rfl, HB.out⟩
  · have h1 : 64 < x.size := by omega
    have h4 : (64 : Int) ≤ (x.size : Int) := by omega
    have e : str (fill x.data.toList) = x.extract 0 64 := by
      unfold fill
      rw [if_pos (by omega)]
      apply ByteArray.ext
      apply Array.ext'
      simp [str, ByteArray.data_extract]
    rw [e]
    clear e hl h
    go_enter Try.func18, Try.ntmps18
    go_wp2_with fail
    go_ret
    exact ⟨rfl, Below.refl _ _⟩

/-! alive. -/
def fa : BA := fill [97]
def fb : BA := fill [98]
def fc : BA := fill [99]
theorem fill_a (w : World) : Calls Try.prog 18 #[.string ⟨#[97]⟩] w fun e w' => e = .returned (.string (str fa)) ∧ Below w.heap.size w w' := fill_ok ⟨#[97]⟩ (by decide) w
theorem fill_b (w : World) : Calls Try.prog 18 #[.string ⟨#[98]⟩] w fun e w' => e = .returned (.string (str fb)) ∧ Below w.heap.size w w' := fill_ok ⟨#[98]⟩ (by decide) w
theorem fill_c (w : World) : Calls Try.prog 18 #[.string ⟨#[99]⟩] w fun e w' => e = .returned (.string (str fc)) ∧ Below w.heap.size w w' := fill_ok ⟨#[99]⟩ (by decide) w
theorem After.then {C p : Nat} {A A' : St} {w w1 w2 : World} (h : After C p A w w1) (k : After C p A' w1 w2) : After C p A' w w2 := ⟨k.1, h.2.trans k.2⟩
theorem After.more {C p D : Nat} {A : St} {w w1 w2 : World} (h : After C p A w w1) (hb : Below D w1 w2) (hD : w1.heap.size ≤ D) : After C p A w w2 :=
  ⟨h.1.below hb hD, h.2.trans (Leaves.of_below hb hD (Nat.le_trans h.1.base hD))⟩
theorem keeps_ft (w : World) (C : Nat) : Keeps C (some ⟨w.heap.size, 0, none⟩) [false, true] (w.alloc (.cells #[.bool false, .bool true] 4)) := fun i hi => by
  refine ⟨_, _, rfl, ?_, .inr ⟨_, _, heap_alloc_new w _⟩⟩
  rw [cell_of_row _ _ _ _ _ _ (heap_alloc_new w _)]
  simp at hi
  rcases i with _ | _ | i
  · rfl
  · rfl
  · omega
theorem st_pend (a b c : BA) : (wrote (wrote (synced (wrote (blank 3) 1 a)) 1 b) 2 c).pend.length = 2 := by simp [wrote, synced]
theorem st_kept (a b c : BA) : (kept (wrote (wrote (synced (wrote (blank 3) 1 a)) 1 b) 2 c).pend [false, true]).length = 1 := by simp [wrote, synced, kept, List.zipIdx]
theorem st_crashed (a b c : BA) : crashed (wrote (wrote (synced (wrote (blank 3) 1 a)) 1 b) 2 c) [false, true] = ⟨[zeroS, a, c], [], true, -1⟩ := by
  simp [crashed, wrote, synced, kept, List.zipIdx, blank, appl, List.replicate]
set_option maxRecDepth 100000 in
set_option maxHeartbeats 2000000 in
theorem alive_yes (w : World) : Calls Try.prog 12 #[] w fun e w' => e = .returned (.bool true) ∧ Below w.heap.size w w' := by
  have FA := Lib.hid fill_a
  have FB := Lib.hid fill_b
  have FC := Lib.hid fill_c
  have la : fa.length = 64 := fill_length _
  have lb : fb.length = 64 := fill_length _
  have lc : fc.length = 64 := fill_length _
  generalize fa = a at *
  generalize fb = b at *
  generalize fc = c at *
  have L1 := Lib.hid la
  have L2 := Lib.hid lb
  have L3 := Lib.hid lc
  clear la lb lc
  go_enter Try.func12, Try.ntmps12
  go_wp2_with fail
  refine (new_d 3 (by omega) (by omega) _).mono ?_; rintro e w1 ⟨rfl, h⟩
  have H1 := Lib.hid h
  obtain ⟨C, hC⟩ : ∃ C, C = w.heap.size := ⟨_, rfl⟩
  rw [← hC] at H1 ⊢
  have HC := Lib.hid hC
  clear h hC
  go_wp2_with fail
  refine (FA.out _).mono ?_; rintro e w2' ⟨rfl, h⟩
  have H2 := Lib.hid (H1.out.more h (Nat.le_refl _))
  clear h H1
  go_wp2_with fail
  refine (write_d H2.out.1 1 a rfl (by simp [blank]) L1.out (by simp [blank]) (by simp [blank])).mono ?_; rintro e w3 ⟨rfl, h⟩
  have H3 := Lib.hid (H2.out.then h)
  clear h H2
  go_wp2_with fail
  refine (sync_d H3.out.1 rfl).mono ?_; rintro e w4 ⟨rfl, h⟩
  have H4 := Lib.hid (H3.out.then h)
  clear h H3
  go_wp2_with fail
  refine (FB.out _).mono ?_; rintro e w5 ⟨rfl, h⟩
  have H5 := Lib.hid (H4.out.more h (Nat.le_refl _))
  clear h H4
  go_wp2_with fail
  refine (write_d H5.out.1 1 b rfl (by simp [blank, wrote, synced, appl_length]) L2.out (by simp [blank, wrote, synced]) (by simp [blank, wrote, synced])).mono ?_; rintro e w6 ⟨rfl, h⟩
  have H6 := Lib.hid (H5.out.then h)
  clear h H5
  go_wp2_with fail
  refine (FC.out _).mono ?_; rintro e w7 ⟨rfl, h⟩
  have H7 := Lib.hid (H6.out.more h (Nat.le_refl _))
  clear h H6
  go_wp2_with fail
  refine (write_d H7.out.1 2 c rfl (by simp [blank, wrote, synced, appl_length]) L3.out (by simp [blank, wrote, synced]) (by simp [blank, wrote, synced])).mono ?_; rintro e w8 ⟨rfl, h⟩
  have H8 := Lib.hid (H7.out.then h)
  clear h H7
  go_wp2_with fail
  have hp : Calls Try.prog 22 #[ptr (C + 1)] w8 fun e w' => e = .returned (.int .i64 2) ∧ w8 = w' := by
    have := pending_d H8.out.1
    rw [st_pend] at this
    exact this
  refine hp.mono ?_; rintro e w9 ⟨rfl, rfl⟩
  clear hp
  go_wp2_with fail
  have H9 := Lib.hid (H8.out.more ((Below.refl _ w8).alloc (Nat.le_refl _) (.cells #[.bool false, .bool true] 4)) (Nat.le_refl _))
  have hc : Calls Try.prog 21 #[ptr (C + 1), .slice (some ⟨w8.heap.size, 0, none⟩) 2 2] (w8.alloc (.cells #[.bool false, .bool true] 4)) fun e w' => e = .returned (.int .i64 1) ∧ After C (C + 1) ⟨[zeroS, a, c], [], true, -1⟩ (w8.alloc (.cells #[.bool false, .bool true] 4)) w' := by
    have := crash_d H9.out.1 [false, true] _ 2 (by rw [st_pend]; omega) (by decide) (keeps_ft w8 C)
    rw [st_kept, st_crashed] at this
    exact this
  refine hc.mono ?_; rintro e w10 ⟨rfl, h⟩
  have H10 := Lib.hid (H9.out.then h)
  clear h hc H8 H9
  go_wp2_with fail
  have hr : Calls Try.prog 15 #[ptr (C + 1), .int .i64 1] w10 fun e w' => e = .returned (.tuple #[.string (str a), .int .i64 0]) ∧ w10 = w' := read_d H10.out.1 1 rfl (by simp)
  refine hr.mono ?_; rintro e w11 ⟨rfl, rfl⟩
  clear hr
  go_wp2_with fail
  have hr : Calls Try.prog 15 #[ptr (C + 1), .int .i64 2] w10 fun e w' => e = .returned (.tuple #[.string (str c), .int .i64 0]) ∧ w10 = w' := read_d H10.out.1 2 rfl (by simp)
  refine hr.mono ?_; rintro e w11 ⟨rfl, rfl⟩
  clear hr
  go_wp2_with fail
  refine (FA.out _).mono ?_; rintro e w11 ⟨rfl, h⟩
  have H11 := Lib.hid (H10.out.more h (Nat.le_refl _))
  clear h H10
  generalize str a = xa
  go_wp2_with fail
  refine (FC.out _).mono ?_; rintro e w12 ⟨rfl, h⟩
  have H12 := Lib.hid (H11.out.more h (Nat.le_refl _))
  clear h H11
  generalize str c = xc
  go_wp2_with fail
  go_ret
  exact ⟨rfl, by rw [← HC.out]; exact H12.out.2.below⟩
end Go.Proofs.Ytnkhfgfiifadhaa
