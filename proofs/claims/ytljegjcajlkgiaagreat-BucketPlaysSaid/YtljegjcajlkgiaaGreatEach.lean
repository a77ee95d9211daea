/- The contracts of space.take and of each with it: what is left of some room behind cells. -/
import Derived.Test.YtljegjcajlkgiaaGreatMethods
import Derived.Deep.RegionWith
import Derived.StillTailTactics
namespace Go.Proofs.YtljegjcajlkgiaaGreat
open Go.ChangeShapes Go.WideShapes Go.ChangeAt Go.RowKit
set_option linter.unusedVariables false
set_option linter.unusedSimpArgs false
set_option maxRecDepth 100000
/-- Some room that is left, at p. -/
def Sp (w : World) (p : Nat) (x : Int) : Prop := w.heap[p]? = some (.cells #[.int .i64 x] 75 (0, 0))
theorem Sp.lt {w : World} {p : Nat} {x : Int} (h : Sp w p x) : p < w.heap.size := (Array.getElem?_eq_some_iff.1 h).1
theorem Sp.cell {w : World} {p : Nat} {x : Int} (h : Sp w p x) : w.cell? ⟨p, 0, none⟩ = some (.int .i64 x) := (cell_of_row _ _ _ _ _ _ h).trans rfl
theorem Sp.free {w : World} {p : Nat} {x : Int} (h : Sp w p x) : w.frozen? ⟨p, 0, none⟩ = false := frozen_of_row _ _ _ _ _ h
theorem Sp.kept {w w' : World} {p : Nat} {x : Int} (h : Sp w p x) (hb : Below w.heap.size w w') : Sp w' p x := (hb.block p h.lt).trans h
theorem Sp.set {w : World} {p : Nat} {x : Int} (h : Sp w p x) (y : Int) : Sp (w.setCell ⟨p, 0, none⟩ (.int .i64 y)) p y := by
  unfold Sp at h ⊢
  simp [World.setCell, Array.getElem?_modify, h]
theorem grownBy_store {a w : World} {p B i : Nat} {u : Value} (h : a.grownBy w (some p)) (hB : B = p ∨ a.heap.size ≤ B) : a.grownBy (w.setCell ⟨B, i, none⟩ u) (some p) := by
  refine ⟨h.os, h.tape, h.output, by simpa [World.setCell] using h.size, fun k hk hne => ?_⟩
  rw [← h.block k hk hne]
  have : k ≠ B := by
    rcases hB with rfl | hB
    · exact fun e => hne (by rw [e])
    · omega
  exact Below.heap_setCell w ⟨B, i, none⟩ u k this
set_option maxHeartbeats 1000000 in
theorem stake_any (p : Nat) (x : Int) (c : Ce) (hc : c.Ok) (h0 : 0 ≤ x) (h1 : x ≤ 1000) (w : World) (hp : Sp w p x) :
    Calls Tryz.prog 37 #[.pointer (some ⟨p, 0, none⟩), cvC c] w fun e w' => e = .returned (.tuple #[]) ∧ Sp w' p (x - sizeC c) ∧ w.grownBy w' (some p) := by
  have hz := size_ok hc
  have SI := Lib.hid (fun w => size_any c.key c.val c.blob c.size (by have := hc.1; unfold maxLen; omega) (by obtain ⟨_, h | h⟩ := hc <;> (unfold maxLen; omega)) w)
  unfold cvC cv at *
  change Hid (∀ w, Calls _ _ _ _ (fun e w' => e = .returned (.int .i64 (sizeC c : Nat)) ∧ _)) at SI
  generalize sizeC c = z at *
  have e1 : IntKind.i64.wrap (x - (z : Int)) = x - (z : Int) := IntWalk.i64_in _ (by omega)
  have HX := Lib.hid (Box.new w (.string c.key) (.string c.val) (.int .i64 c.blob) (.int .i64 c.size))
  have hal := (Below.refl w.heap.size w).alloc (Nat.le_refl _) (.cells #[.string c.key, .string c.val, .int .i64 c.blob, .int .i64 c.size] 42)
  have HP := Lib.hid (hp.kept hal)
  have HPL := Lib.hid hp.lt
  have HG := Lib.hid (grownBy_below (row := some p) hal)
  clear hal hp
  go_enter Tryz.func37, Tryz.ntmps37
  go_wp2_with fail
  obtain ⟨B, hB⟩ : ∃ B, B = w.heap.size := ⟨_, rfl⟩
  have HBE := Lib.hid hB
  rw [← hB] at HX ⊢
  clear hB
  generalize w.alloc (.cells #[.string c.key, .string c.val, .int .i64 c.blob, .int .i64 c.size] 42) = W at *
  obtain ⟨x0, x1, x2, x3⟩ := HX.out.cells
  have p0 := HP.out.cell
  have f0 := HP.out.free
  have HPD := Lib.hid (show Sp W.drew p x from HP.out.kept (Below.refl _ _).drew)
  have HGD := Lib.hid (show w.grownBy W.drew (some p) from ⟨HG.out.os, HG.out.tape, HG.out.output, HG.out.size, HG.out.block⟩)
  go_region_with (first | (go_at_call 83; refine (SI.out _).mono ?_; rintro e u ⟨rfl, hb⟩; have y0 := (HPD.out.kept hb).cell; have yf := (HPD.out.kept hb).free))
  all_goals (
    have HS := Lib.hid (show Sp (u.setCell ⟨p, 0, none⟩ (.int .i64 (x - z))) p (x - z) ∧ w.grownBy (u.setCell ⟨p, 0, none⟩ (.int .i64 (x - z))) (some p) from ⟨(HPD.out.kept hb).set _, grownBy_store (grownBy_trans HGD.out (grownBy_below hb)) (.inl rfl)⟩)
    go_end0
    exact ⟨rfl, HS.out⟩)
theorem Sp.step {w wr w2 : World} {p : Nat} {y : Int} (h1 : w.grownBy wr (some p)) (h2 : wr.grownBy w2 (some p)) (h : Sp w2 p y) : Sp w2 p y ∧ w.grownBy w2 (some p) := ⟨h, grownBy_trans h1 h2⟩
set_option maxHeartbeats 1000000 in
theorem each_walk {C n c : Nat} {A : Option Addr} {l : List Ce} (p : Nat) (w : World) (h : Ces C w A l) (hn : l.length = n) (hok : ∀ c ∈ l, c.Ok) (hsum : sums l ≤ 239) (hC : C ≤ p) (hp : Sp w p 239) :
    Calls Tryz.prog 36 #[.slice A n c, .func (.func 37) #[.pointer (some ⟨p, 0, none⟩)] #[]] w fun e w' => e = .returned (.tuple #[]) ∧ Sp w' p (239 - sums l) ∧ w.grownBy w' (some p) := by
  have hm := sums_five hok
  have HP := Lib.hid h
  have HN := Lib.hid hn
  have HC := Lib.hid hC
  have HOK := Lib.hid hok
  have HSM := Lib.hid hsum
  have hN : (n : Int) ≤ 100 := by omega
  have HSP := Lib.hid hp
  have HPL := Lib.hid hp.lt
  clear h hn hC hm hok hsum hp
  go_enter Tryz.func36, Tryz.ntmps36
  go_wp2_with fail
  go_loopw [8] (fun x wr => ∃ k : Nat, k ≤ n ∧ x = .int .i64 k ∧ Hid (Sp wr p (239 - sums (l.take k)) ∧ w.grownBy wr (some p))) (fun x _ => n - (intOf x).toNat)
  case atStart => exact ⟨0, Nat.zero_le _, rfl, HSP.out, ⟨rfl, rfl, rfl, Nat.le_refl _, fun _ _ _ => rfl⟩⟩
  case round =>
    obtain ⟨k, hk, rfl, hq⟩ := hrel
    have HQ := Lib.hid hq.out
    clear hq
    by_cases hlt : k < n
    · obtain ⟨b, off, rfl, hb, hp⟩ := HP.out.1 k (by rw [HN.out]; exact hlt)
      have hbl : b < p := Nat.lt_of_lt_of_le hb HC.out
      have hcl := fun i => World.cell?_of_block (w := w) (w' := wr) (a := ⟨b, off + k * 4 + i, none⟩) (HQ.out.2.block b (Nat.lt_trans hbl HPL.out) (fun e => by simp only [Option.some.injEq] at e; omega))
      have c0 := (hcl 0).trans hp.1
      have c1 := (hcl 1).trans hp.2.1
      have c2 := (hcl 2).trans hp.2.2.1
      have c3 := (hcl 3).trans hp.2.2.2
      simp only [Nat.add_zero] at c0
      have hkl : k < l.length := by rw [HN.out]; exact hlt
      have hst := sums_take l k hkl
      have hle1 := sums_le l k
      have hle2 := sums_le l (k + 1)
      have hsm := HSM.out
      have HST := Lib.hid (fun r (hr : Sp r p (239 - sums (l.take k))) => stake_any p (239 - sums (l.take k)) (l.getD k nilC) (HOK.out _ (getD_mem hkl)) (by omega) (by omega) r hr)
      have HE := Lib.hid (show (239 : Int) - sums (l.take k) - sizeC (l.getD k nilC) = 239 - sums (l.take (k + 1)) by omega)
      rw [HE.out] at HST
      clear hcl hp hb hst hle1 hle2 hsm HE
      generalize (239 : Int) - sums (l.take k) = y at *
      generalize hy2 : (239 : Int) - sums (l.take (k + 1)) = y2 at *
      have HY2 := Lib.hid hy2
      clear hy2
      generalize l.getD k nilC = x at *
      have HB := Lib.hid ((Below.refl wr.heap.size wr).alloc (Nat.le_refl _) (.cells #[.string x.key, .string x.val, .int .i64 x.blob, .int .i64 x.size] 42))
      have HX := Lib.hid (Box.new wr (.string x.key) (.string x.val) (.int .i64 x.blob) (.int .i64 x.size))
      have HS1 := Lib.hid (HQ.out.1.kept HB.out)
      have HG1 := Lib.hid (grownBy_trans HQ.out.2 (grownBy_below (row := some p) HB.out))
      unfold cvC cv at HST
      have b1 : (0 : Int) ≤ (k : Int) := by omega
      have b2 : (k : Int) < (n : Int) := by omega
      go_wp2_with fail
      obtain ⟨B, hB⟩ : ∃ B, B = wr.heap.size := ⟨_, rfl⟩
      rw [← hB] at HX ⊢
      clear hB c0 c1 c2 c3
      generalize wr.alloc (.cells #[.string x.key, .string x.val, .int .i64 x.blob, .int .i64 x.size] 42) = W at *
      obtain ⟨x0, x1, x2, x3⟩ := HX.out.cells
      go_wp2_with fail
      refine (HST.out _ HS1.out).mono ?_; rintro e w1 ⟨rfl, h1, h2⟩
      have HS2 := Lib.hid (Sp.step HG1.out h2 h1)
      clear h1 h2 x0 x1 x2 x3
      go_wp2_with fail
      go_roundw
      case rel => exact ⟨k + 1, by omega, by go_num, by rw [HY2.out]; exact HS2.out.1, HS2.out.2⟩
      case measure => simp [intOf]; omega
    · obtain rfl : n = k := by omega
      have b2 : ¬ (n : Int) < (n : Int) := by omega
      go_wp2_with fail
      go_end0
      have h1 := HQ.out
      rw [List.take_of_length_le (by rw [HN.out]; exact Nat.le_refl _)] at h1
      exact ⟨rfl, h1⟩
end Go.Proofs.YtljegjcajlkgiaaGreat
