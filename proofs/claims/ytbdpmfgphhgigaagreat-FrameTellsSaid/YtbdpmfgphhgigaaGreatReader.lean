/- The reader in memory; the contracts of its methods. -/
import Derived.Test.YtbdpmfgphhgigaaGreatMach
import Derived.Test.YtbdpmfgphhgigaaGreatGet
import Derived.BigQuiet
import Derived.Deep.RegionLaw
import Derived.Deep.DeepCutAuto
import Derived.Deep.CutBlock
import Derived.Laws.EntriesVeiled
import Derived.Deep.QuietTactic
namespace Go.Proofs.YtbdpmfgphhgigaaGreat
open Go.ChangeShapes Go.WideShapes Go.ChangeAt Go.RowKit
set_option linter.unusedVariables false
set_option linter.unusedSimpArgs false
set_option maxRecDepth 100000
/-- What the reader calls next. -/
def fnV (m B : Nat) : Value := if m = 0 then .func (.func 85) #[ptr B] #[] else if m = 1 then .func (.func 108) #[ptr B] #[] else if m = 2 then .func (.func 113) #[ptr B] #[] else if m = 3 then .func (.func 114) #[ptr B] #[] else .nilFunc
/-- The reader's cells. -/
def rds (x : Sx) (r : Rd) (B : Nat) (vr vb : Value) : Array Value := #[.int .i64 r.next, .int .i64 r.ep, vr, .int .i64 x.ep, .int .i64 x.ix, .bool x.fr, .string (str x.pl), fnV r.mode B, .int .i64 r.size, vb]
/-- Nothing has turned but block B. -/
structure But (B : Nat) (w w' : World) : Prop where
  os : w'.os = w.os
  tape : w'.tape = w.tape
  output : w'.output = w.output
  size : w.heap.size ≤ w'.heap.size
  block : ∀ k, k ≠ B → w'.heap[k]? = w.heap[k]?
theorem But.refl (B : Nat) (w : World) : But B w w := ⟨rfl, rfl, rfl, Nat.le_refl _, fun _ _ => rfl⟩
theorem But.set {B : Nat} {a w : World} (h : But B a w) (i : Nat) (v : Value) : But B a (w.setCell ⟨B, i, none⟩ v) :=
  ⟨h.os, h.tape, h.output, Nat.le_trans h.size (by simp [World.setCell]), fun k hk => (Below.heap_setCell w ⟨B, i, none⟩ v k hk).trans (h.block k hk)⟩
theorem But.drew {B : Nat} {a w : World} (h : But B a w) : But B a w.drew := ⟨h.os, h.tape, h.output, h.size, h.block⟩
theorem But.below {B C : Nat} {a w : World} (h : But B a w) (hB : C ≤ B) : Below C a w := ⟨h.os, h.tape, h.output, h.size, fun k hk => h.block k (by omega)⟩
theorem row_other {w : World} {b e s n B : Nat} {v : Value} {xs : List Value} {cs : Array Value} {t : TypeId} (h : w.ownsRow b e s v n xs) (hb : Bx w B cs t) (ht : t ≠ e) : ∀ g, v.ownBlock = some g → g ≠ B := by
  rintro g hg rfl
  rcases h.2 with ⟨rfl, _⟩ | ⟨g', cap, cur, rfl, _, h2, _⟩
  · simp [Value.ownBlock] at hg
  · simp [Value.ownBlock] at hg
    subst hg
    unfold Bx at hb
    rw [hb] at h2
    simp at h2
    exact ht h2.2
/-- The reader at block B, from n₀ on; its rows are not block X. -/
def RdM (n₀ X : Nat) (w : World) (B : Nat) (x : Sx) (r : Rd) (vr vb : Value) : Prop :=
  Bx w B (rds x r B vr vb) 78 ∧ OwnT n₀ w vr r.out ∧ w.ownsRow n₀ 5 1 vb r.rc.length (bcs r.rc) ∧ vb.ownBlock ≠ some X ∧ n₀ ≤ B
/-- Below n₀, and at X, all is as it was. -/
def KpS (n₀ : Nat) (w w' : World) : Prop := Below n₀ w w' ∧ ∀ k cs, Bx w k cs 23 → Bx w' k cs 23
theorem KpS.refl (n₀ : Nat) (w : World) : KpS n₀ w w := ⟨Below.refl _ _, fun _ _ h => h⟩
theorem KpS.trans {n₀ : Nat} {a b c : World} (h : KpS n₀ a b) (k : KpS n₀ b c) : KpS n₀ a c := ⟨h.1.trans k.1, fun i cs hb => k.2 i cs (h.2 i cs hb)⟩
theorem KpS.of_below {n₀ : Nat} {a b : World} (hn : n₀ ≤ a.heap.size) (h : Below a.heap.size a b) : KpS n₀ a b := ⟨h.mono hn, fun _ _ hb => hb.held h⟩
theorem But.kps {n₀ B : Nat} {a w : World} {cs : Array Value} (h : But B a w) (hB : n₀ ≤ B) (hb : Bx a B cs 78) : KpS n₀ a w := ⟨h.below hB, fun k ds hd => (h.block k (by
  rintro rfl
  unfold Bx at hb hd
  rw [hb] at hd
  simp at hd)).trans hd⟩
def KpX (n₀ X : Nat) (w w' : World) : Prop := KpS n₀ w w' ∧ w'.heap[X]? = w.heap[X]?
theorem KpX.refl (n₀ X : Nat) (w : World) : KpX n₀ X w w := ⟨KpS.refl _ _, rfl⟩
theorem KpX.trans {n₀ X : Nat} {a b c : World} (h : KpX n₀ X a b) (k : KpX n₀ X b c) : KpX n₀ X a c := ⟨h.1.trans k.1, k.2.trans h.2⟩
theorem RdM.but {n₀ X B : Nat} {w w' : World} {x y : Sx} {r q : Rd} {vr vb : Value} (h : RdM n₀ X w B x r vr vb) (hb : But B w w') (hx : Bx w' B (rds y q B vr vb) 78) (ho : q.out = r.out) (hc : q.rc = r.rc) : RdM n₀ X w' B y q vr vb := by
  obtain ⟨h1, h2, h3, h4, h5⟩ := h
  refine ⟨hx, ?_, ?_, h4, h5⟩
  · rw [ho]
    exact owns_kept2 h2 fun g hg => hb.block g (row_other h2 h1 (by decide) g hg)
  · rw [hc]
    exact owns_kept2 h3 fun g hg => hb.block g (row_other h3 h1 (by decide) g hg)
theorem RdM.cells {n₀ X B : Nat} {w : World} {x : Sx} {r : Rd} {vr vb : Value} (h : RdM n₀ X w B x r vr vb) : w.cell? ⟨B, 0, none⟩ = some (.int .i64 r.next) ∧ w.cell? ⟨B, 1, none⟩ = some (.int .i64 r.ep) ∧ w.cell? ⟨B, 2, none⟩ = some vr ∧ w.cell? ⟨B, 3, none⟩ = some (.int .i64 x.ep) ∧ w.cell? ⟨B, 4, none⟩ = some (.int .i64 x.ix) ∧ w.cell? ⟨B, 5, none⟩ = some (.bool x.fr) ∧ w.cell? ⟨B, 6, none⟩ = some (.string (str x.pl)) ∧ w.cell? ⟨B, 7, none⟩ = some (fnV r.mode B) ∧ w.cell? ⟨B, 8, none⟩ = some (.int .i64 r.size) ∧ w.cell? ⟨B, 9, none⟩ = some vb :=
  ⟨h.1.cell 0, h.1.cell 1, h.1.cell 2, h.1.cell 3, h.1.cell 4, h.1.cell 5, h.1.cell 6, h.1.cell 7, h.1.cell 8, h.1.cell 9⟩
theorem But.kp {n₀ X B : Nat} {a w : World} {cs : Array Value} (h : But B a w) (hB : n₀ ≤ B) (hX : X ≠ B) (hb : Bx a B cs 78) : KpX n₀ X a w := ⟨h.kps hB hb, h.block X hX⟩
/-- What a method leaves. -/
def StP (n₀ X : Nat) (w : World) (B : Nat) (x : Sx) (q : Rd) (e : Ending) (w' : World) : Prop := e = .returned (.tuple #[]) ∧ ∃ vr vb, RdM n₀ X w' B x q vr vb ∧ KpX n₀ X w w'
set_option maxHeartbeats 1000000 in
theorem high_any {n₀ X B : Nat} {w : World} {x : Sx} {r : Rd} {vr vb : Value} (b : UInt8) (h : RdM n₀ X w B x r vr vb) (hX : X ≠ B) : Calls Tryz.prog 85 #[ptr B, .int .u8 (b.toNat : Int)] w fun e w' => StP n₀ X w B x (hiR r b) e w' := by
  have HH := Lib.hid h
  have HQ := Lib.hid (fun w' (k : StP n₀ X w B x (hiR r b) (.returned (.tuple #[])) w') => k)
  obtain ⟨c0, c1, c2, c3, c4, c5, c6, c7, c8, c9⟩ := h.cells
  have f7 := h.1.free 7
  have f8 := h.1.free 8
  have hb := b.toNat_lt
  clear h
  have HST := Lib.hid (show StP n₀ X w B x (hiR r b) (.returned (.tuple #[])) ((w.setCell ⟨B, 8, none⟩ (.int .i64 ((b.toNat : Int) * 256))).setCell ⟨B, 7, none⟩ (.func (.func 108) #[ptr B] #[])) from
    have hbut := ((But.refl B w).set 8 (.int .i64 ((b.toNat : Int) * 256))).set 7 (.func (.func 108) #[ptr B] #[])
    ⟨rfl, vr, vb, HH.out.but hbut ((HH.out.1.set 8 _).set 7 _) rfl rfl, hbut.kp HH.out.2.2.2.2 hX HH.out.1⟩)
  generalize StP n₀ X w B x (hiR r b) = PP at *
  generalize b.toNat = c at *
  have e1 : IntKind.i64.wrap ((c : Int) * 256) = (c : Int) * 256 := IntWalk.i64_in _ (by omega)
  go_enter Tryz.func85, Tryz.ntmps85
  go_wp2_with fail
  go_end0
  exact HST
/-- The same row, emptied. -/
theorem row_cut {w : World} {n₀ e n : Nat} {A : Option Addr} {c : Nat} {xs : List Value} (h : w.ownsRow n₀ e 1 (.slice A n c) n xs) : w.ownsRow n₀ e 1 (.slice A 0 c) 0 [] := by
  refine ⟨rfl, ?_⟩
  rcases h.2 with ⟨h1, h2⟩ | ⟨g, cap, cur, h1, h2, h3, h4, h5, h6, h7⟩
  · simp only [Value.slice.injEq] at h1
    obtain ⟨rfl, _, rfl⟩ := h1
    exact .inl ⟨rfl, rfl⟩
  · simp only [Value.slice.injEq] at h1
    obtain ⟨rfl, _, rfl⟩ := h1
    exact .inr ⟨g, c, cur, rfl, h2, h3, Nat.zero_le _, h5, h6, by simp⟩
theorem or8 (a : Nat) (b : Nat) (ha : a < 256) (hb : b < 256) : bits .or .i64 ((a : Int) * 256) (b : Int) = (a : Int) * 256 + (b : Int) := by
  rw [or64 a b (by omega) hb]; omega
theorem low_mode (r : Rd) (b : UInt8) : (loR r b).mode = if r.size + b.toNat = 0 then 3 else 2 := rfl
set_option maxHeartbeats 2000000 in
theorem low_any {n₀ X B : Nat} {w : World} {x : Sx} {r : Rd} {vr vb : Value} (a b : UInt8) (h : RdM n₀ X w B x r vr vb) (hX : X ≠ B) (hs : r.size = (a.toNat : Int) * 256) : Calls Tryz.prog 108 #[ptr B, .int .u8 (b.toNat : Int)] w fun e w' => StP n₀ X w B x (loR r b) e w' := by
  have HH := Lib.hid h
  obtain ⟨A, c, rfl⟩ := own_shape h.2.2.1
  obtain ⟨c0, c1, c2, c3, c4, c5, c6, c7, c8, c9⟩ := h.cells
  have f7 := h.1.free 7
  have f8 := h.1.free 8
  have f9 := h.1.free 9
  have hb := b.toNat_lt
  have ha := a.toNat_lt
  have hor := or8 a.toNat b.toNat ha hb
  clear h
  have HM := Lib.hid (low_mode r b)
  have HZ := Lib.hid (show r.size + (b.toNat : Int) = (a.toNat : Int) * 256 + (b.toNat : Int) by rw [hs])
  have HST := Lib.hid (show ∀ m fv, fnV (loR r b).mode B = fv → ∀ w', But B w w' → Bx w' B #[.int .i64 r.next, .int .i64 r.ep, vr, .int .i64 x.ep, .int .i64 x.ix, .bool x.fr, .string (str x.pl), fv, .int .i64 ((a.toNat : Int) * 256 + (b.toNat : Int)), .slice A 0 c] 78 → m = 0 → StP n₀ X w B x (loR r b) (.returned (.tuple #[])) w' from fun m fv hfv w' hbut hbx _ => by
    refine ⟨rfl, vr, .slice A 0 c, ⟨?_, ?_, ?_, ?_, HH.out.2.2.2.2⟩, hbut.kp HH.out.2.2.2.2 hX HH.out.1⟩
    · unfold rds
      rw [hfv, show (loR r b).size = r.size + (b.toNat : Int) from rfl, HZ.out]
      exact hbx
    · exact owns_kept2 HH.out.2.1 fun g hg => hbut.block g (row_other HH.out.2.1 HH.out.1 (by decide) g hg)
    · exact owns_kept2 (row_cut HH.out.2.2.1) fun g hg => hbut.block g (row_other (row_cut HH.out.2.2.1) HH.out.1 (by decide) g hg)
    · have := HH.out.2.2.2.1
      cases A <;> exact this)
  rw [hs] at c8
  generalize StP n₀ X w B x (loR r b) = PP at *
  have HB1 := Lib.hid HH.out.1
  have HBT := Lib.hid (But.refl B w)
  by_cases h0 : (a.toNat : Int) * 256 + (b.toNat : Int) = 0
  · have HF := Lib.hid (HST.out 0 (.func (.func 114) #[ptr B] #[]) (by rw [HM.out, if_pos (by rw [HZ.out]; exact h0)]; rfl))
    have HS2 := Lib.hid (HF.out ((((w.setCell ⟨B, 8, none⟩ (.int .i64 ((a.toNat : Int) * 256 + (b.toNat : Int)))).setCell ⟨B, 9, none⟩ (.slice A 0 c)).setCell ⟨B, 7, none⟩ (.func (.func 113) #[ptr B] #[])).setCell ⟨B, 7, none⟩ (.func (.func 114) #[ptr B] #[]))
      ((((HBT.out.set 8 _).set 9 _).set 7 _).set 7 _) ((((HB1.out.set 8 _).set 9 _).set 7 _).set 7 _) rfl)
    clear HF HST HH HM HZ HB1 HBT
    generalize b.toNat = bn at *
    generalize a.toNat = an at *
    have hn : ((an : Int) * 256 + (bn : Int) == 0) = true := by rw [beq_iff_eq]; exact h0
    clear h0
    go_enter Tryz.func108, Tryz.ntmps108
    go_wp2_with fail
    go_end0
    exact HS2.out
  · have HF := Lib.hid (HST.out 0 (.func (.func 113) #[ptr B] #[]) (by rw [HM.out, if_neg (by rw [HZ.out]; exact h0)]; rfl))
    have HS2 := Lib.hid (HF.out (((w.setCell ⟨B, 8, none⟩ (.int .i64 ((a.toNat : Int) * 256 + (b.toNat : Int)))).setCell ⟨B, 9, none⟩ (.slice A 0 c)).setCell ⟨B, 7, none⟩ (.func (.func 113) #[ptr B] #[]))
      (((HBT.out.set 8 _).set 9 _).set 7 _) (((HB1.out.set 8 _).set 9 _).set 7 _) rfl)
    clear HF HST HH HM HZ HB1 HBT
    generalize b.toNat = bn at *
    generalize a.toNat = an at *
    have hn : ((an : Int) * 256 + (bn : Int) == 0) = false := by rw [beq_eq_false_iff_ne]; exact h0
    go_enter Tryz.func108, Tryz.ntmps108
    go_wp2_with fail
    go_end0
    exact HS2.out
theorem ended_any {n₀ X B : Nat} {w : World} {x : Sx} {r : Rd} {vr vb : Value} (b : UInt8) (h : RdM n₀ X w B x r vr vb) : Calls Tryz.prog 114 #[ptr B, .int .u8 (b.toNat : Int)] w fun e w' => StP n₀ X w B x r e w' := by
  have HS := Lib.hid (show StP n₀ X w B x r (.returned (.tuple #[])) w from ⟨rfl, vr, vb, h, KpX.refl _ _ _⟩)
  generalize StP n₀ X w B x r = PP at *
  clear h
  go_enter Tryz.func114, Tryz.ntmps114
  go_wp2_with fail
  go_end0
  exact HS.out
theorem one_src (w : World) (v : Value) (t : TypeId) : Src (w.alloc (.cells #[v] t)) 1 (some ⟨w.heap.size, 0, none⟩) 1 [v] :=
  ⟨rfl, fun _ => ⟨_, rfl, cell_one_new w v t⟩⟩
/-- A new block of bytes, or of texts, behind the reader's. -/
theorem Bx.grown {w w' : World} {B : Nat} {cs : Array Value} {t : TypeId} {row : Option Nat} (h : Bx w B cs t) (hg : w.grownBy w' row) (hne : some B ≠ row) : Bx w' B cs t := (hg.block B h.lt hne).trans h
theorem row_apart {w : World} {b d e f s t n m : Nat} {v u : Value} {xs ys : List Value} (h : w.ownsRow b e s v n xs) (k : w.ownsRow d f t u m ys) (hne : e ≠ f) : ∀ g, v.ownBlock = some g → some g ≠ u.ownBlock := by
  intro g hg e'
  rcases k.2 with ⟨rfl, _⟩ | ⟨g', cap, cur, rfl, _, h2, _⟩
  · simp [Value.ownBlock] at e'
  · simp [Value.ownBlock] at e'
    subst e'
    exact row_other h (show Bx w g cur f from h2) hne.symm g hg rfl
theorem below_row {w w1 : World} {n₀ e s n : Nat} {v : Value} {xs : List Value} {tmp : Obj} (h : w.ownsRow n₀ e s v n xs) (hn : n₀ ≤ w.heap.size) (hg : (w.alloc tmp).grownBy w1 v.ownBlock) : Below n₀ w w1 :=
  ((Below.refl n₀ w).alloc hn tmp).grown hg (by rw [World.size_alloc]; omega) fun g e => (h.lt g e).1
theorem heap_row {w w1 : World} {X : Nat} {row : Option Nat} {tmp : Obj} (hX : X < w.heap.size) (hne : some X ≠ row) (hg : (w.alloc tmp).grownBy w1 row) : w1.heap[X]? = w.heap[X]? :=
  (hg.block X (by rw [World.size_alloc]; omega) hne).trans (Below.heap_alloc w tmp X hX)
theorem kps_row {w w1 : World} {n₀ e s n : Nat} {v : Value} {xs : List Value} {tmp : Obj} (h : w.ownsRow n₀ e s v n xs) (he : 23 ≠ e) (hn : n₀ ≤ w.heap.size) (hg : (w.alloc tmp).grownBy w1 v.ownBlock) : KpS n₀ w w1 :=
  ⟨below_row h hn hg, fun k cs hk => (heap_row hk.lt (fun e' => row_other h hk he k e'.symm rfl) hg).trans hk⟩
/-- A byte more. -/
theorem app_vb {n₀ X B : Nat} {w w1 : World} {x : Sx} {r : Rd} {vr vb v1 : Value} {b : UInt8} {tmp : Obj} (h : RdM n₀ X w B x r vr vb) (hX : X < w.heap.size) (hXB : X ≠ B)
    (hown1 : w1.ownsRow n₀ 5 1 v1 (r.rc.length + 1) (bcs (r.rc ++ [b]))) (hg : (w.alloc tmp).grownBy w1 vb.ownBlock) (hblk : v1.ownBlock = vb.ownBlock ∨ v1.ownBlock = some (w.heap.size + 1)) :
    Bx w1 B (rds x r B vr vb) 78 ∧ RdM n₀ X (w1.setCell ⟨B, 9, none⟩ v1) B x { r with rc := r.rc ++ [b] } vr v1 ∧ KpX n₀ X w (w1.setCell ⟨B, 9, none⟩ v1) := by
  obtain ⟨h1, h2, h3, h4, h5⟩ := h
  have hn : n₀ ≤ w.heap.size := by have := h1.lt; omega
  have hb1 : Bx w1 B (rds x r B vr vb) 78 := (heap_row h1.lt (fun e => row_other h3 h1 (by decide) B e.symm rfl) hg).trans h1
  have hvr : OwnT n₀ w1 vr r.out := owns_kept2 h2 fun g hg' => heap_row (h2.lt g hg').2 (row_apart h2 h3 (by decide) g hg') hg
  have hs := (But.refl B w1).set 9 v1
  refine ⟨hb1, ⟨hb1.set 9 v1, ?_, ?_, ?_, h5⟩, ?_, ?_⟩
  · exact owns_kept2 hvr fun g hg' => hs.block g (row_other hvr hb1 (by decide) g hg')
  · show World.ownsRow _ n₀ 5 1 v1 (r.rc ++ [b]).length _
    rw [List.length_append]
    exact owns_kept2 hown1 fun g hg' => hs.block g (row_other hown1 hb1 (by decide) g hg')
  · rcases hblk with e | e
    · rw [e]; exact h4
    · rw [e]; intro e'; simp only [Option.some.injEq] at e'; omega
  · exact (kps_row h3 (by decide) hn hg).trans (hs.kps h5 hb1)
  · exact (hs.block X hXB).trans (heap_row hX (Ne.symm h4) hg)
/-- A record more. -/
theorem app_vr {n₀ X B : Nat} {w w1 : World} {x : Sx} {r : Rd} {vr vb v1 : Value} {y : BA} {tmp : Obj} (h : RdM n₀ X w B x r vr vb) (hX : X < w.heap.size) (hXB : X ≠ B) (hXt : ∀ cs, w.heap[X]? ≠ some (.cells cs 9 (0, 0)))
    (hown1 : w1.ownsRow n₀ 9 1 v1 (r.out.length + 1) (tcs (r.out ++ [y]))) (hg : (w.alloc tmp).grownBy w1 vr.ownBlock) :
    Bx w1 B (rds x r B vr vb) 78 ∧ RdM n₀ X (w1.setCell ⟨B, 2, none⟩ v1) B x { r with out := r.out ++ [y] } v1 vb ∧ KpX n₀ X w (w1.setCell ⟨B, 2, none⟩ v1) := by
  obtain ⟨h1, h2, h3, h4, h5⟩ := h
  have hn : n₀ ≤ w.heap.size := by have := h1.lt; omega
  have hb1 : Bx w1 B (rds x r B vr vb) 78 := (heap_row h1.lt (fun e => row_other h2 h1 (by decide) B e.symm rfl) hg).trans h1
  have hvb : w1.ownsRow n₀ 5 1 vb r.rc.length (bcs r.rc) := owns_kept2 h3 fun g hg' => heap_row (h3.lt g hg').2 (row_apart h3 h2 (by decide) g hg') hg
  have hs := (But.refl B w1).set 2 v1
  refine ⟨hb1, ⟨hb1.set 2 v1, ?_, ?_, h4, h5⟩, ?_, ?_⟩
  · show World.ownsRow _ n₀ 9 1 v1 (r.out ++ [y]).length _
    rw [List.length_append]
    exact owns_kept2 hown1 fun g hg' => hs.block g (row_other hown1 hb1 (by decide) g hg')
  · exact owns_kept2 hvb fun g hg' => hs.block g (row_other hvb hb1 (by decide) g hg')
  · exact (kps_row h2 (by decide) hn hg).trans (hs.kps h5 hb1)
  · exact (hs.block X hXB).trans (heap_row hX (fun e => by
      rcases h2.2 with ⟨rfl, _⟩ | ⟨g', cap, cur, rfl, _, h6, _⟩
      · simp [Value.ownBlock] at e
      · simp [Value.ownBlock] at e
        subst e
        exact hXt _ h6) hg)
theorem RdM.drewN {n₀ X B : Nat} {w : World} {x : Sx} {r : Rd} {vr vb : Value} (h : RdM n₀ X w B x r vr vb) (q : Nat) : RdM n₀ X (w.drewN q) B x r vr vb := h
theorem KpX.drewN {n₀ X : Nat} {w w' : World} (h : KpX n₀ X w w') (q : Nat) : KpX n₀ X w (w'.drewN q) := ⟨⟨below_drewN h.1.1 q, h.1.2⟩, h.2⟩
theorem RdM.held {n₀ X B : Nat} {w w' : World} {x : Sx} {r : Rd} {vr vb : Value} (h : RdM n₀ X w B x r vr vb) (hb : Below w.heap.size w w') : RdM n₀ X w' B x r vr vb :=
  ⟨h.1.held hb, h.2.1.kept hb, owns_kept2 h.2.2.1 fun g hg => hb.block g (h.2.2.1.lt g hg).2, h.2.2.2.1, h.2.2.2.2⟩
set_option maxHeartbeats 4000000 in
theorem body_any {n₀ X B : Nat} {w : World} {x : Sx} {r : Rd} {vr vb : Value} (b : UInt8) (h : RdM n₀ X w B x r vr vb) (hX : X < w.heap.size) (hXB : X ≠ B) (hXt : ∀ cs, w.heap[X]? ≠ some (.cells cs 9 (0, 0))) (hm : r.mode = 2) (hl : (r.rc.length : Int) < r.size) (hs : r.size ≤ 65535) (ho : r.out.length ≤ 1000000) (hi : 0 ≤ x.ix ∧ x.ix ≤ 65535) : Calls Tryz.prog 113 #[ptr B, .int .u8 (b.toNat : Int)] w fun e w' => StP n₀ X w B x (boR x r b) e w' := by
  have HH := Lib.hid h
  have HXS := Lib.hid hX
  have HXB := Lib.hid hXB
  have HXT := Lib.hid hXt
  have HM := Lib.hid hm
  obtain ⟨A, c, rfl⟩ := own_shape h.2.2.1
  obtain ⟨A2, c2r, rfl⟩ := own_shape h.2.1
  obtain ⟨c0, c1, c2, c3, c4, c5, c6, c7, c8, c9⟩ := h.cells
  have f9 := h.1.free 9
  obtain ⟨i0, hi0, hz0, hz1, hz2⟩ := info_parts info_b
  obtain ⟨j0, hj0, hy0, hy1, hy2⟩ := info_parts info_s
  have hown := h.2.2.1
  have hB := h.2.2.2.2
  have hBl := h.1.lt
  have hn0 : n₀ ≤ w.heap.size := by omega
  clear h hX hXB hXt hm
  have HBC := Lib.hid (show bcs (r.rc ++ [b]) = bcs r.rc ++ [.int .u8 (b.toNat : Int)] from by rw [bcs_append]; rfl)
  have HPR := Lib.hid (fun w' (k : StP n₀ X w B x (boR x r b) (.returned (.tuple #[])) w') => k)
  go_enter Tryz.func113, Tryz.ntmps113
  go_wp2_with (at_builtin; refine wpList_append_src _ rfl (.tmp 8) (.tmp 10) 64 rfl 5 i0 (.int .u8 0) 1 1 Tryz.underlying64 hi0 hz0 hz1 hz2 rfl (by decide) n₀ _ _ _ rfl (hown.alloc _) (some ⟨w.heap.size, 0, none⟩) 1 1 [.int .u8 (b.toNat : Int)] rfl (one_src _ _ _) ?d1 ?d2 ?d3 ?d4 ?_)
  case d1 => intro u hu; simp only [List.mem_cons, List.not_mem_nil, or_false] at hu; subst hu; rfl
  case d2 => unfold maxLen; omega
  case d3 => omega
  case d4 => rw [World.size_alloc]; omega
  intro v1 w1 hown1 hgrow1 hblk1
  rw [← HBC.out] at hown1
  obtain ⟨A1, c1', rfl⟩ := own_shape hown1
  obtain ⟨hb1, hR1, hK1⟩ := app_vb HH.out HXS.out HXB.out hown1 hgrow1 hblk1
  have k9 := hb1.cell 9
  have g9 := hb1.free 9
  have HR1 := Lib.hid hR1
  have HK1 := Lib.hid hK1
  obtain ⟨m0, m1, m2, m3, m4, m5, m6, m7, m8, m9⟩ := hR1.cells
  have g2 := hR1.1.free 2
  have hsz2 : w1.heap.size = (w1.setCell ⟨B, 9, none⟩ (.slice A1 (r.rc.length + 1) c1')).heap.size := by simp [World.setCell]
  have hbig : w.heap.size < w1.heap.size := by have := hgrow1.size; rw [World.size_alloc] at this; omega
  clear hown1 hgrow1 hblk1 hb1 hR1 hK1 hown c0 c1 c2 c3 c4 c5 c6 c7 c8 c9 f9
  go_upto_region 1 with fail
  have hWs : w.heap.size < (w1.setCell ⟨B, 9, none⟩ (.slice A1 (r.rc.length + 1) c1')).heap.size := by omega
  clear k9 g9 hbig hsz2
  generalize w1.setCell ⟨B, 9, none⟩ (.slice A1 (r.rc.length + 1) c1') = W at *
  by_cases hlt : (r.rc.length : Int) + 1 < r.size
  · have HF := Lib.hid (fun q => HPR.out (W.drewN q) (by unfold boR; rw [if_pos hlt]; exact ⟨rfl, _, _, HR1.out.drewN q, HK1.out.drewN q⟩))
    have hl1 : IntKind.i64.wrap ((r.rc.length : Int) + 1) = (r.rc.length : Int) + 1 := IntWalk.i64_in _ (by omega)
    have m8' : W.cell? ⟨B, 8, none⟩ = some (.int .i64 r.size) := m8
    have hlt2 : (((r.rc.length + 1 : Nat) : Int) < r.size) := by omega
    clear HPR HBC m0 m1 m2 m3 m4 m5 m6 m7 m8
    go_wp2_with fail
    go_quiet (fail)
    go_wp2_with fail
    refine bodyPost_ret (results_none rfl _ _ _) rfl ?_
    exact HF.out nq
  · have hlt2 : ¬ (((r.rc.length + 1 : Nat) : Int) < r.size) := by omega
    have hl1 : IntKind.i64.wrap ((r.rc.length : Int) + 1) = (r.rc.length : Int) + 1 := IntWalk.i64_in _ (by omega)
    have m8' : W.cell? ⟨B, 8, none⟩ = some (.int .i64 r.size) := m8
    go_wp2_with fail
    go_quiet (fail)
    go_wp2_with fail
    replace HR1 := Lib.hid (HR1.out.drewN nq)
    replace HK1 := Lib.hid (HK1.out.drewN nq)
    have hXV : X < (W.drewN nq).heap.size := Nat.lt_trans HXS.out hWs
    have hXtV : ∀ cs, (W.drewN nq).heap[X]? ≠ some (.cells cs 9 (0, 0)) := fun cs e => HXT.out cs (HK1.out.2.symm.trans e)
    generalize hV : W.drewN nq = V at *
    clear hV
    have hown2 : V.drew.ownsRow n₀ 9 1 (.slice A2 r.out.length c2r) r.out.length (tcs r.out) := HR1.out.2.1
    have hcv := own_string (w := V.drew) (l := r.rc ++ [b]) HR1.out.2.2.1 rfl
    obtain ⟨m0, m1, m2, m3, m4, m5, m6, m7, m8, m9⟩ := HR1.out.cells
    have g2 := HR1.out.1.free 2
    have HXV := Lib.hid hXV
    have HXTV := Lib.hid hXtV
    have hn1 : n₀ ≤ V.heap.size := by have := HR1.out.1.lt; omega
    have hlt0 := Lib.hid hlt
    clear hXV hXtV hWs hlt hlt2 hl1 m8'
    have HTC := Lib.hid (show tcs (r.out ++ [r.rc ++ [b]]) = tcs r.out ++ [.string (str (r.rc ++ [b]))] from by rw [tcs_append]; rfl)
    have hss : (str (r.rc ++ [b])).size ≤ 100000 := by rw [str_size, List.length_append]; simp; omega
    have m2a : (V.alloc (Obj.cells #[Value.string (str (r.rc ++ [b]))] 9)).cell? ⟨B, 2, none⟩ = some (.slice A2 r.out.length c2r) := (HR1.out.1.alloc _).cell 2
    go_cut [28] (fun s wx => s = s ∧ Hid (∃ A3 c3, RdM n₀ X wx B x { r with out := r.out ++ [r.rc ++ [b]], rc := r.rc ++ [b] } (.slice A3 (r.out.length + 1) c3) (.slice A1 (r.rc.length + 1) c1') ∧ KpX n₀ X w wx))
    case first =>
      go_region_law (first
        | (refine step_append_src _ (by rfl) (.tmp 28) (.tmp 34) 24 (by rfl) 9 j0 (.string ⟨#[]⟩) 1 16 Tryz.underlying24 hj0 hy0 hy1 hy2 rfl (by decide) n₀ (.slice A2 r.out.length c2r) r.out.length (tcs r.out) (by rfl) (hown2.alloc _) (some ⟨V.heap.size, 0, none⟩) 1 1 [.string (str (r.rc ++ [b]))] (by rfl) (one_src V.drew _ _) (by intro u hu; simp only [List.mem_cons, List.not_mem_nil, or_false] at hu; subst hu; rfl) (by unfold maxLen; omega) (by omega) (by show n₀ ≤ (V.alloc _).heap.size; rw [World.size_alloc]; omega) ?_; intro v3 w3 hown3 hgrow3 hblk3; rw [← HTC.out] at hown3; obtain ⟨A3, c3, rfl⟩ := own_shape hown3; obtain ⟨hb3, hR3, hK3⟩ := app_vr (w := V.drew) HR1.out HXV.out HXB.out HXTV.out hown3 hgrow3; have n2 : w3.cell? ⟨B, 2, none⟩ = some (.slice A2 r.out.length c2r) := hb3.cell 2; have n2f := hb3.free 2))
      all_goals have HR3 := Lib.hid hR3
      all_goals have HK3 := Lib.hid (HK1.out.trans (KpX.trans (⟨⟨(Below.refl n₀ V).drew, fun _ _ h => h⟩, rfl⟩ : KpX n₀ X V V.drew) hK3))
      all_goals (go_wp2_with fail; go_meet; exact ⟨trivial, A3, c3, HR3.out, HK3.out⟩)
    case rest =>
      obtain ⟨-, hq⟩ := hcut
      obtain ⟨A3, c3, hR3, hK3⟩ := hq.out
      have HR3 := Lib.hid hR3
      have HK3 := Lib.hid hK3
      clear hq hR3 hK3 m2a m0 m1 m2 m3 m4 m5 m6 m7 m8 m9 g2 hcv hown2 HR1 HK1
      obtain ⟨m0, m1, m2, m3, m4, m5, m6, m7, m8, m9⟩ := HR3.out.cells
      have g0 := HR3.out.1.free 0
      have g1 := HR3.out.1.free 1
      have g7 := HR3.out.1.free 7
      have hix : IntKind.i64.wrap (x.ix + 1) = x.ix + 1 := IntWalk.i64_in _ (by omega)
      go_upto_region 3 with fail
      go_region
      have HU := Lib.hid (show StP n₀ X w B x (boR x r b) (.returned (.tuple #[])) ((((wc.setCell ⟨B, 0, none⟩ (.int .i64 (x.ix + 1))).setCell ⟨B, 1, none⟩ (.int .i64 x.ep)).drew).setCell ⟨B, 7, none⟩ (.func (.func 85) #[ptr B] #[])) from by
        unfold boR
        rw [if_neg (Int.not_lt.2 hlt0.out)]
        have hbut : But B wc ((((wc.setCell ⟨B, 0, none⟩ (.int .i64 (x.ix + 1))).setCell ⟨B, 1, none⟩ (.int .i64 x.ep)).drew).setCell ⟨B, 7, none⟩ (.func (.func 85) #[ptr B] #[])) :=
          (show But B wc ((wc.setCell ⟨B, 0, none⟩ (.int .i64 (x.ix + 1))).setCell ⟨B, 1, none⟩ (.int .i64 x.ep)).drew from ((But.refl B wc).set 0 _).set 1 _ |>.drew).set 7 _
        refine ⟨rfl, _, _, HR3.out.but hbut (Bx.set (show Bx ((wc.setCell ⟨B, 0, none⟩ (.int .i64 (x.ix + 1))).setCell ⟨B, 1, none⟩ (.int .i64 x.ep)).drew B _ _ from (HR3.out.1.set 0 _).set 1 _) 7 _) rfl rfl, HK3.out.trans (hbut.kp hB HXB.out HR3.out.1)⟩)
      clear HR3 HK3 HPR
      go_wp2_with fail
      go_end0
      exact HU.out
end Go.Proofs.YtbdpmfgphhgigaaGreat
