/- The laws' alive(): the pool's first calls. -/
import Derived.Test.YtcecfageijkifaaRh
import Derived.Test.YtcecfageijkifaaPw
namespace Go.Proofs.Ytcecfageijkifaa.Po
open Go.ChangeShapes Go.WideShapes Go.ChangeAt Go.RowKit
set_option linter.unusedVariables false
set_option linter.unusedSimpArgs false
set_option maxRecDepth 100000
def bZero : BA := [122, 101, 114, 111]
def bOne : BA := [111, 110, 101]
def bNew : BA := [110, 101, 119]
def bNewer : BA := [110, 101, 119, 101, 114]
section
variable (r : Nat) (Ap : Option Addr) (cp : Nat)
abbrev hA : Host St := hostR r Ap 2 cp [bZero, bOne]
def a1 := getP (hA r Ap cp) (newP 1) [] 1
def a2 := setP (hA r Ap cp) (a1 r Ap cp).2.1 (a1 r Ap cp).2.2 1 bNew 7
def a3 := setP (hA r Ap cp) (a2 r Ap cp).2.1 (a2 r Ap cp).2.2 1 bNewer 9
def a4 := getP (hA r Ap cp) (a3 r Ap cp).2.1 (a3 r Ap cp).2.2 0
theorem a1_is : (a1 r Ap cp).1 = (bOne, 0) := rfl
theorem a2_is : (a2 r Ap cp).1 = 0 := rfl
theorem a3_is : (a3 r Ap cp).1 = 0 := by kernel_rfl
theorem a3_clean : isClean (a3 r Ap cp).2.1 1 = false := by kernel_rfl
theorem a3_dirty : dirtyL (a3 r Ap cp).2.1 = [(1, 7)] := by kernel_rfl
theorem a4_is : (a4 r Ap cp).1 = (bZero, 0) := by kernel_rfl
theorem a4_steps : (a4 r Ap cp).2.2 = [(114, 1, []), (114, 0, []), (108, 9, []), (119, 1, bNewer)] := by kernel_rfl
theorem a4_clean : isClean (a4 r Ap cp).2.1 1 = true := by kernel_rfl
end
/-- The first world: the record and its pages. -/
theorem rec_first (w : World) : ∃ w2, w2 = (w.alloc (.cells #[.string (str bZero), .string (str bOne)] 9)).alloc (.cells #[.slice none 0 0, .slice (some ⟨w.heap.size, 0, none⟩) 2 2, .int .i64 0] 28) ∧ Below w.heap.size w w2 ∧
    (hA (w.heap.size + 1) (some ⟨w.heap.size, 0, none⟩) 2).M (fun i => i = w.heap.size ∨ i = w.heap.size + 1) w2 [] := by
  have b1 : Below w.heap.size w (w.alloc (.cells #[.string (str bZero), .string (str bOne)] 9)) := (Below.refl _ w).alloc (Nat.le_refl _) _
  have x1 := Bx.new w #[.string (str bZero), .string (str bOne)] 9
  have x2 := Bx.new (w.alloc (.cells #[.string (str bZero), .string (str bOne)] 9)) #[.slice none 0 0, .slice (some ⟨w.heap.size, 0, none⟩) 2 2, .int .i64 0] 28
  rw [World.size_alloc] at x2
  have x3 := x1.alloc (.cells #[.slice none 0 0, .slice (some ⟨w.heap.size, 0, none⟩) 2 2, .int .i64 0] 28)
  refine ⟨_, rfl, b1.alloc b1.size _, ⟨.slice none 0 0, x2, World.ownsRow_nil _ _ _ _, rfl, fun i hi => ?_, fun g hg => by simp [Value.ownBlock] at hg, .inr rfl, fun i hi => ?_⟩, fun i => ?_⟩
  · refine ⟨_, _, rfl, .inl rfl, x3, ?_⟩
    rcases i with _ | _ | i
    · rfl
    · rfl
    · omega
  · rw [World.size_alloc, World.size_alloc]; rcases hi with hi | hi <;> omega
  · rcases i with _ | _ | i <;> simp [bZero, bOne]
set_option maxHeartbeats 4000000 in
theorem alive_yes (w : World) : Calls Try.prog 8 #[] w fun e w' => e = .returned (.bool true) ∧ Below w.heap.size w w' := by
  obtain ⟨w2, hw2, hb2, hm2⟩ := rec_first w
  have HM := Lib.hid hm2
  have HB := Lib.hid hb2
  have HW := Lib.hid hw2
  obtain ⟨r, hr⟩ : ∃ r, r = w.heap.size + 1 := ⟨_, rfl⟩
  obtain ⟨g, hgg⟩ : ∃ g, g = w.heap.size := ⟨_, rfl⟩
  clear hb2 hm2 hw2
  go_enter Try.func8, Try.ntmps8
  go_upto_region 2 with fail
  have HW2 : w2 = (w.alloc (.cells #[.string ⟨#[122, 101, 114, 111]⟩, .string ⟨#[111, 110, 101]⟩] 9)).alloc (.cells #[.slice none 0 0, .slice (some ⟨w.heap.size, 0, none⟩) 2 2, .int .i64 0] 28) := HW.out
  rw [← HW2]
  rw [← hr, ← hgg] at HM ⊢
  obtain ⟨h, hh⟩ : ∃ h, h = hA r (some ⟨g, 0, none⟩) 2 := ⟨_, rfl⟩
  have HG := Lib.hid (show h.Good from by rw [hh]; exact hostR_good r (some ⟨g, 0, none⟩) 2 2 [bZero, bOne])
  rw [← hh] at HM
  have NW := Lib.hid (show Calls Try.prog 9 #[.int .i64 1, .func (.func 10) #[ptr r] #[], .func (.func 11) #[ptr r] #[], .func (.func 12) #[ptr r] #[]] w2 (fun e w' => ∃ p, e = .returned (ptr p) ∧ PW h g p (newP 1) [] w' ∧ Below g w2 w') from by
    have := pw_new (C := g) (n := 1) HG.out HM.out (fun i hi => by rcases hi with hi | hi <;> omega) (by rw [hgg]; exact HB.out.size) (by omega) (by omega)
    subst hh
    exact this)
  have K0 := Lib.hid (new_ok (n := 1) (by omega) (by omega))
  have HBG := Lib.hid (show Below g w w2 from by rw [hgg]; exact HB.out)
  have HGG := Lib.hid hgg
  clear HW HW2 hr hgg HM
  go_wp2_with fail
  refine NW.out.mono ?_; rintro e w3 ⟨p, rfl, hp3, hb3⟩
  have P3 := Lib.hid hp3
  have B3 := Lib.hid (HBG.out.trans hb3)
  clear hp3 hb3 NW HB HBG
  obtain ⟨R1, hR1⟩ : ∃ R, a1 r (some ⟨g, 0, none⟩) 2 = R := ⟨_, rfl⟩
  obtain ⟨R2, hR2⟩ : ∃ R, a2 r (some ⟨g, 0, none⟩) 2 = R := ⟨_, rfl⟩
  obtain ⟨R3, hR3⟩ : ∃ R, a3 r (some ⟨g, 0, none⟩) 2 = R := ⟨_, rfl⟩
  obtain ⟨R4, hR4⟩ : ∃ R, a4 r (some ⟨g, 0, none⟩) 2 = R := ⟨_, rfl⟩
  have f1 := a1_is r (some ⟨g, 0, none⟩) 2
  have f2 := a2_is r (some ⟨g, 0, none⟩) 2
  have f3 := a3_is r (some ⟨g, 0, none⟩) 2
  have f3c := a3_clean r (some ⟨g, 0, none⟩) 2
  have f3d := a3_dirty r (some ⟨g, 0, none⟩) 2
  have f4 := a4_is r (some ⟨g, 0, none⟩) 2
  have f4s := a4_steps r (some ⟨g, 0, none⟩) 2
  have f4c := a4_clean r (some ⟨g, 0, none⟩) 2
  have g1 : getP h (newP 1) [] 1 = R1 := by rw [hh]; exact hR1
  have g2 : setP h R1.2.1 R1.2.2 1 bNew 7 = R2 := by rw [hh, ← hR1]; exact hR2
  have g3 : setP h R2.2.1 R2.2.2 1 bNewer 9 = R3 := by rw [hh, ← hR2]; exact hR3
  have g4 : getP h R3.2.1 R3.2.2 0 = R4 := by rw [hh, ← hR3]; exact hR4
  have r1 : rng 1 := ⟨by omega, by omega⟩
  have r0 : rng 0 := ⟨by omega, by omega⟩
  obtain ⟨SO, hm⟩ := P3.out.m
  obtain ⟨k1, c1, _⟩ := get_ok HG.out K0.out hm r1
  rw [g1] at k1 c1
  obtain ⟨k2, c2, _⟩ := set_ok (h := h) (o := R1.2.2) k1 r1 (c := bNew) (lsn := 7) (by decide) ⟨by omega, by omega⟩
  rw [g2] at k2 c2
  obtain ⟨k3, c3, _⟩ := set_ok (h := h) (o := R2.2.2) k2 r1 (c := bNewer) (lsn := 9) (by decide) ⟨by omega, by omega⟩
  rw [g3] at k3 c3
  have o0 : h.ok [] 23 := by rw [hh]; show 0 + 23 ≤ 1000000; omega
  have o1 := get_okn (A := newP 1) (k := 1) HG.out (n := 20) o0
  rw [g1] at o1
  have o2 := set_okn (A := R1.2.1) (k := 1) (c := bNew) (lsn := 7) HG.out (n := 18) o1
  rw [g2] at o2
  have o3 := set_okn (A := R2.2.1) (k := 1) (c := bNewer) (lsn := 9) HG.out (n := 16) o2
  rw [g3] at o3
  have z0 : (newP 1).acc = 0 := rfl
  rw [hR1] at f1
  rw [hR2] at f2
  rw [hR3] at f3 f3c f3d
  rw [hR4] at f4 f4s f4c
  obtain ⟨⟨s1, e1⟩, A1, O1⟩ := R1
  obtain ⟨e2, A2, O2⟩ := R2
  obtain ⟨e3, A3, O3⟩ := R3
  obtain ⟨⟨s4, e4⟩, A4, O4⟩ := R4
  simp only [Prod.mk.injEq] at f1 f2 f3 f4
  obtain ⟨rfl, rfl⟩ := f1
  obtain rfl := f2
  obtain rfl := f3
  obtain ⟨rfl, rfl⟩ := f4
  simp only at f3c f3d f4s f4c k1 k2 k3 c1 c2 c3 o1 o2 o3
  subst f4s
  have G1 := Lib.hid (fun (u : World) (hp : PW h g p (newP 1) [] u) => show Calls Try.prog 13 #[ptr p, .int .i64 1] u (fun e w' => e = .returned (.tuple #[.string ⟨#[111, 110, 101]⟩, .int .i64 0]) ∧ PW h g p A1 O1 w' ∧ Below g u w') from pw_get HG.out K0.out (n := 20) o0 (by omega) hp r1 g1)
  have G2 := Lib.hid (fun (u : World) (hp : PW h g p A1 O1 u) => show Calls Try.prog 14 #[ptr p, .int .i64 1, .string ⟨#[110, 101, 119]⟩, .int .i64 7] u (fun e w' => e = .returned (.int .i64 0) ∧ PW h g p A2 O2 w' ∧ Below g u w') from pw_set HG.out k1 (n := 18) o1 (by omega) hp r1 (c := bNew) (by decide) g2)
  have G3 := Lib.hid (fun (u : World) (hp : PW h g p A2 O2 u) => show Calls Try.prog 14 #[ptr p, .int .i64 1, .string ⟨#[110, 101, 119, 101, 114]⟩, .int .i64 9] u (fun e w' => e = .returned (.int .i64 0) ∧ PW h g p A3 O3 w' ∧ Below g u w') from pw_set HG.out k2 (n := 16) o2 (by omega) hp r1 (c := bNewer) (by decide) g3)
  have G3c := Lib.hid (fun (u : World) (hp : PW h g p A3 O3 u) => pw_clean hp r1 f3c)
  have G3d := Lib.hid (fun (u : World) (hp : PW h g p A3 O3 u) => pw_dirty HG.out k3 hp f3d)
  have G4 := Lib.hid (fun (u : World) (hp : PW h g p A3 O3 u) => show Calls Try.prog 13 #[ptr p, .int .i64 0] u (fun e w' => e = .returned (.tuple #[.string ⟨#[122, 101, 114, 111]⟩, .int .i64 0]) ∧ PW h g p A4 [(114, 1, []), (114, 0, []), (108, 9, []), (119, 1, bNewer)] w' ∧ Below g u w') from pw_get HG.out k3 (n := 13) o3 (by omega) hp r0 g4)
  have G4c := Lib.hid (fun (u : World) (hp : PW h g p A4 [(114, 1, []), (114, 0, []), (108, 9, []), (119, 1, bNewer)] u) => pw_clean hp r1 f4c)
  clear hR1 hR2 hR3 hR4 f3c f3d f4c g1 g2 g3 g4 k1 k2 k3 c1 c2 c3 o0 o1 o2 o3 z0 hm r1 r0 K0
  go_wp2_with fail
  refine (G1.out _ P3.out).mono ?_; rintro e w4 ⟨rfl, hp4, hb4⟩
  have P4 := Lib.hid hp4
  have B4 := Lib.hid (B3.out.trans hb4)
  clear hp4 hb4 P3 B3 G1
  go_wp2_with fail
  refine (G2.out _ P4.out).mono ?_; rintro e w5 ⟨rfl, hp5, hb5⟩
  have P5 := Lib.hid hp5
  have B5 := Lib.hid (B4.out.trans hb5)
  clear hp5 hb5 P4 B4 G2
  go_wp2_with fail
  refine (G3.out _ P5.out).mono ?_; rintro e w6 ⟨rfl, hp6, hb6⟩
  have P6 := Lib.hid hp6
  have B6 := Lib.hid (B5.out.trans hb6)
  clear hp6 hb6 P5 B5 G3
  go_wp2_with fail
  refine (G3c.out _ P6.out).mono ?_; rintro e w7 ⟨rfl, rfl⟩
  clear G3c
  go_wp2_with fail
  refine (G3d.out _ P6.out).mono ?_; rintro e w8 ⟨v8, rfl, ho8, hp8, hb8⟩
  have P8 := Lib.hid hp8
  have B8 := Lib.hid (B6.out.trans hb8)
  clear hp8 hb8 P6 B6 G3d
  obtain ⟨Ad, cd, rfl⟩ := own_shape ho8
  obtain ⟨gd, rfl, d0, d1⟩ : ∃ gd, Ad = some ⟨gd, 0, none⟩ ∧ w8.cell? ⟨gd, 0, none⟩ = some (.int .i64 1) ∧ w8.cell? ⟨gd, 1, none⟩ = some (.int .i64 7) := by
    rcases ho8.2 with ⟨e0, h0⟩ | ⟨gd, cap, cur, e0, _, h2, h3, h4, h5, h6⟩
    · simp at h0
    · simp only [Value.slice.injEq] at e0
      obtain ⟨rfl, _, _⟩ := e0
      have hx : Bx w8 gd cur 54 := h2
      have hc := fun (g' : Nat) (hg : (Value.slice (some ⟨gd, 0, none⟩) ([((1 : Int), (7 : Int))].length) cd).ownBlock = some g') => World.ownsRow.cells ho8 (g := g') hg
      have q0 := hc gd rfl 0 (.int .i64 1) rfl
      have q1 := hc gd rfl 1 (.int .i64 7) rfl
      rw [add_plain] at q0 q1
      exact ⟨gd, rfl, q0, q1⟩
  clear ho8
  go_wp2_with fail
  refine (G4.out _ P8.out).mono ?_; rintro e w9 ⟨rfl, hp9, hb9⟩
  have P9 := Lib.hid hp9
  have B9 := Lib.hid (B8.out.trans hb9)
  obtain ⟨S9, SP9, F9, T9, bk9, tf9, ⟨_, ⟨SO9, hm9, _⟩, _⟩, _⟩ := hp9
  rw [hh] at hm9
  obtain ⟨⟨v9, hr9⟩, _⟩ := hm9
  have q0 : w9.cell? ⟨r, 0, none⟩ = some v9 := hr9.box.cell 0
  obtain ⟨As, cs, rfl⟩ := own_shape hr9.row
  obtain ⟨gs, rfl, s6, s7, s8, s9, s10, s11⟩ : ∃ gs, As = some ⟨gs, 0, none⟩ ∧ w9.cell? ⟨gs, 6, none⟩ = some (.int .u8 108) ∧ w9.cell? ⟨gs, 7, none⟩ = some (.int .i64 9) ∧ w9.cell? ⟨gs, 8, none⟩ = some (.string ⟨#[]⟩) ∧
      w9.cell? ⟨gs, 9, none⟩ = some (.int .u8 119) ∧ w9.cell? ⟨gs, 10, none⟩ = some (.int .i64 1) ∧ w9.cell? ⟨gs, 11, none⟩ = some (.string ⟨#[110, 101, 119, 101, 114]⟩) := by
    rcases hr9.row.2 with ⟨e0, h0⟩ | ⟨gs, cap, cur, e0, _, h2, h3, h4, h5, h6⟩
    · simp at h0
    · simp only [Value.slice.injEq] at e0
      obtain ⟨rfl, _, _⟩ := e0
      have hc := fun (j : Nat) (u : Value) (hu : (scs [(114, 1, []), (114, 0, []), (108, 9, []), (119, 1, bNewer)])[j]? = some u) => by
        have := World.ownsRow.cells hr9.row (g := gs) rfl j u hu
        rw [add_plain] at this
        exact this
      exact ⟨gs, rfl, hc 6 _ rfl, hc 7 _ rfl, hc 8 _ rfl, hc 9 _ rfl, hc 10 _ rfl, hc 11 _ rfl⟩
  clear hr9 hb9 P8 B8 G4 d0 d1
  go_wp2_with fail
  refine (G4c.out _ P9.out).mono ?_; rintro e w10 ⟨rfl, rfl⟩
  go_wp2_with fail
  go_ret
  exact ⟨rfl, by rw [← HGG.out]; exact B9.out⟩
end Go.Proofs.Ytcecfageijkifaa.Po
