/- Are two records the same? -/
import Derived.Test.YtbmnagfjpenemaaGreatDoorSame
namespace Go.Proofs.YtbmnagfjpenemaaGreatDoor
open Go.ChangeShapes Go.WideShapes Go.ChangeAt Go.RowKit
set_option linter.unusedVariables false
set_option linter.unusedSimpArgs false
set_option maxRecDepth 100000
theorem quietB {P : Program} {f : FuncId} {args : Array Value} {w : World} {v : Value} (h : Calls P f args w fun e w' => e = .returned v ∧ ∃ q, w' = w.drewN q) : Calls P f args w fun e w' => e = .returned v ∧ Below w.heap.size w w' :=
  h.mono fun _ _ ⟨he, q, hw⟩ => ⟨he, by subst hw; exact ⟨rfl, rfl, rfl, Nat.le_refl _, fun _ _ => rfl⟩⟩
set_option maxHeartbeats 8000000 in
theorem samer_is {C D : Nat} (a b : Rc) (h k : Hd) (w : World) (ha : RcM C w a h) (hb : RcM D w b k) (hC : C ≤ w.heap.size) (hD : D ≤ w.heap.size) :
    Calls Tryz.prog 18 #[rcv a h, rcv b k] w fun e w' => e = .returned (.bool (eqR a b)) ∧ Below w.heap.size w w' := by
  obtain ⟨x1, x2, x3, x4, x5, x6, ⟨x7, x8, x9, x10⟩, xg, xp, xt, xd⟩ := a
  obtain ⟨y1, y2, y3, y4, y5, y6, ⟨y7, y8, y9, y10⟩, yg, yp, yt, yd⟩ := b
  obtain ⟨⟨xA, xn, xc⟩, ⟨xB, xm, xdd⟩, ⟨xC, xo, xe⟩, ⟨xD, xpp, xf⟩⟩ := h
  obtain ⟨⟨yA, yn, yc⟩, ⟨yB, ym, ydd⟩, ⟨yC, yo, ye⟩, ⟨yD, ypp, yf⟩⟩ := k
  obtain ⟨_, _, _, _, _, _, m1, m2, m3, m4⟩ := ha
  obtain ⟨_, _, _, _, _, _, q1, q2, q3, q4⟩ := hb
  dsimp only at m1 m2 m3 m4 q1 q2 q3 q4
  have HA := Lib.hid (((Below.refl w.heap.size w).alloc (Nat.le_refl _) (.cells #[.int .i64 x1, .int .i64 x2, .int .i64 x3, .int .i64 x4, .string x5, .bool x6, .string x7, .string x8, .int .i64 x9, .int .i64 x10, .slice xA xn xc, .slice xB xm xdd, .slice xC xo xe, .slice xD xpp xf] 29)).alloc (by simp) (.cells #[.int .i64 y1, .int .i64 y2, .int .i64 y3, .int .i64 y4, .string y5, .bool y6, .string y7, .string y8, .int .i64 y9, .int .i64 y10, .slice yA yn yc, .slice yB ym ydd, .slice yC yo ye, .slice yD ypp yf] 29))
  have HX := Lib.hid ((Bx.new w #[.int .i64 x1, .int .i64 x2, .int .i64 x3, .int .i64 x4, .string x5, .bool x6, .string x7, .string x8, .int .i64 x9, .int .i64 x10, .slice xA xn xc, .slice xB xm xdd, .slice xC xo xe, .slice xD xpp xf] 29).alloc (.cells #[.int .i64 y1, .int .i64 y2, .int .i64 y3, .int .i64 y4, .string y5, .bool y6, .string y7, .string y8, .int .i64 y9, .int .i64 y10, .slice yA yn yc, .slice yB ym ydd, .slice yC yo ye, .slice yD ypp yf] 29))
  have HY := Lib.hid (Bx.new (w.alloc (.cells #[.int .i64 x1, .int .i64 x2, .int .i64 x3, .int .i64 x4, .string x5, .bool x6, .string x7, .string x8, .int .i64 x9, .int .i64 x10, .slice xA xn xc, .slice xB xm xdd, .slice xC xo xe, .slice xD xpp xf] 29)) #[.int .i64 y1, .int .i64 y2, .int .i64 y3, .int .i64 y4, .string y5, .bool y6, .string y7, .string y8, .int .i64 y9, .int .i64 y10, .slice yA yn yc, .slice yB ym ydd, .slice yC yo ye, .slice yD ypp yf] 29)
  have S1 := Lib.hid (fun u (hb : Below w.heap.size w u) => quietB (sameI_is (c := xc) (d := yc) u (m1.kept (hb.mono hC)) (q1.kept (hb.mono hD))))
  have S2 := Lib.hid (fun u (hb : Below w.heap.size w u) => quietB (sameP_is (c := xdd) (d := ydd) u (m2.kept (hb.mono hC)) (q2.kept (hb.mono hD))))
  have S3 := Lib.hid (fun u (hb : Below w.heap.size w u) => sameT_is (c := xe) (d := ye) u (m3.kept (hb.mono hC)) (q3.kept (hb.mono hD)) (Nat.le_trans hC hb.size) (Nat.le_trans hD hb.size))
  have S4 := Lib.hid (fun u (hb : Below w.heap.size w u) => quietB (sameD_is (c := xf) (d := yf) u (m4.kept (hb.mono hC)) (q4.kept (hb.mono hD))))
  have EC := eq_cl x7 x8 x9 x10 y7 y8 y9 y10
  unfold rcv eqR
  dsimp only
  clear m1 m2 m3 m4 q1 q2 q3 q4 hC hD
  generalize sameL eqI 0 xg yg = z8 at *
  generalize sameL eqP nilP xp yp = z9 at *
  generalize sameL eqT nilT xt yt = z10 at *
  generalize sameL eqD nilD xd yd = z11 at *
  generalize eqC ⟨x7, x8, x9, x10⟩ ⟨y7, y8, y9, y10⟩ = z7 at *
  go_enter Tryz.func18, Tryz.ntmps18
  go_upto_region 1 with fail
  generalize (w.alloc (.cells #[.int .i64 x1, .int .i64 x2, .int .i64 x3, .int .i64 x4, .string x5, .bool x6, .string x7, .string x8, .int .i64 x9, .int .i64 x10, .slice xA xn xc, .slice xB xm xdd, .slice xC xo xe, .slice xD xpp xf] 29)).alloc (.cells #[.int .i64 y1, .int .i64 y2, .int .i64 y3, .int .i64 y4, .string y5, .bool y6, .string y7, .string y8, .int .i64 y9, .int .i64 y10, .slice yA yn yc, .slice yB ym ydd, .slice yC yo ye, .slice yD ypp yf] 29) = W at *
  have HLx0 := Lib.hid HX.out.lt
  have HLy0 := Lib.hid HY.out.lt
  have hcx := fun j => HX.out.cell j
  have hcy := fun j => HY.out.cell j
  rw [World.size_alloc] at hcy HLy0
  have cx0 := hcx 0
  have cy0 := hcy 0
  have cx1 := hcx 1
  have cy1 := hcy 1
  have cx2 := hcx 2
  have cy2 := hcy 2
  have cx3 := hcx 3
  have cy3 := hcy 3
  have cx4 := hcx 4
  have cy4 := hcy 4
  have cx5 := hcx 5
  have cy5 := hcy 5
  have cx6 := hcx 6
  have cy6 := hcy 6
  have cx7 := hcx 7
  have cy7 := hcy 7
  have cx8 := hcx 8
  have cy8 := hcy 8
  have cx9 := hcx 9
  have cy9 := hcy 9
  have cx10 := hcx 10
  have cy10 := hcy 10
  have cx11 := hcx 11
  have cy11 := hcy 11
  have cx12 := hcx 12
  have cy12 := hcy 12
  have cx13 := hcx 13
  have cy13 := hcy 13
  clear hcx hcy
  simp only [List.getElem?_toArray, List.getElem?_cons_zero, List.getElem?_cons_succ] at cx0 cy0 cx1 cy1 cx2 cy2 cx3 cy3 cx4 cy4 cx5 cy5 cx6 cy6 cx7 cy7 cx8 cy8 cx9 cy9 cx10 cy10 cx11 cy11 cx12 cy12 cx13 cy13
  by_cases g1 : x1 = y1
  · subst g1
    by_cases g2 : x2 = y2
    · subst g2
      by_cases g3 : x3 = y3
      · subst g3
        by_cases g4 : x4 = y4
        · subst g4
          by_cases g5 : x5.toList = y5.toList
          · have e5 : (x5.toList == y5.toList) = true := by rw [g5]; simp
            by_cases g6 : x6 = y6
            · subst g6
              cases z7 with
              | false =>
                as_aux_lemma =>
                  go_wp2_with fail
                  go_ret
                  exact ⟨by simp [e5], HA.out⟩
              | true =>
                go_wp2_with fail
                refine (S1.out _ HA.out).mono ?_; rintro e u1 ⟨rfl, hb⟩
                have HA1 := Lib.hid (HA.out.trans (hb.mono HA.out.size))
                replace cx11 := (hb.cell HLx0.out).trans cx11
                replace cy11 := (hb.cell HLy0.out).trans cy11
                replace cx12 := (hb.cell HLx0.out).trans cx12
                replace cy12 := (hb.cell HLy0.out).trans cy12
                replace cx13 := (hb.cell HLx0.out).trans cx13
                replace cy13 := (hb.cell HLy0.out).trans cy13
                have HLx1 := Lib.hid (Nat.lt_of_lt_of_le HLx0.out hb.size)
                have HLy1 := Lib.hid (Nat.lt_of_lt_of_le HLy0.out hb.size)
                clear hb
                cases z8 with
                | false =>
                  as_aux_lemma =>
                    go_wp2_with fail
                    go_ret
                    exact ⟨by simp [e5], HA1.out⟩
                | true =>
                  go_wp2_with fail
                  refine (S2.out _ HA1.out).mono ?_; rintro e u2 ⟨rfl, hb⟩
                  have HA2 := Lib.hid (HA1.out.trans (hb.mono HA1.out.size))
                  replace cx12 := (hb.cell HLx1.out).trans cx12
                  replace cy12 := (hb.cell HLy1.out).trans cy12
                  replace cx13 := (hb.cell HLx1.out).trans cx13
                  replace cy13 := (hb.cell HLy1.out).trans cy13
                  have HLx2 := Lib.hid (Nat.lt_of_lt_of_le HLx1.out hb.size)
                  have HLy2 := Lib.hid (Nat.lt_of_lt_of_le HLy1.out hb.size)
                  clear hb
                  cases z9 with
                  | false =>
                    as_aux_lemma =>
                      go_wp2_with fail
                      go_ret
                      exact ⟨by simp [e5], HA2.out⟩
                  | true =>
                    go_wp2_with fail
                    refine (S3.out _ HA2.out).mono ?_; rintro e u3 ⟨rfl, hb⟩
                    have HA3 := Lib.hid (HA2.out.trans (hb.mono HA2.out.size))
                    replace cx13 := (hb.cell HLx2.out).trans cx13
                    replace cy13 := (hb.cell HLy2.out).trans cy13
                    have HLx3 := Lib.hid (Nat.lt_of_lt_of_le HLx2.out hb.size)
                    have HLy3 := Lib.hid (Nat.lt_of_lt_of_le HLy2.out hb.size)
                    clear hb
                    cases z10 with
                    | false =>
                      as_aux_lemma =>
                        go_wp2_with fail
                        go_ret
                        exact ⟨by simp [e5], HA3.out⟩
                    | true =>
                      go_wp2_with fail
                      refine (S4.out _ HA3.out).mono ?_; rintro e u4 ⟨rfl, hb⟩
                      have HA4 := Lib.hid (HA3.out.trans (hb.mono HA3.out.size))
                      clear hb
                      go_wp2_with fail
                      go_ret
                      exact ⟨by simp [e5], HA4.out⟩
            · have e6 : (x6 == y6) = false := by rw [beq_eq_false_iff_ne]; exact g6
              go_wp2_with fail
              go_ret
              exact ⟨by simp [e6], HA.out⟩
          · have e5 : (x5.toList == y5.toList) = false := by rw [beq_eq_false_iff_ne]; exact g5
            go_wp2_with fail
            go_ret
            exact ⟨by simp [e5], HA.out⟩
        · have e4 : (x4 == y4) = false := by rw [beq_eq_false_iff_ne]; exact g4
          go_wp2_with fail
          go_ret
          exact ⟨by simp [e4], HA.out⟩
      · have e3 : (x3 == y3) = false := by rw [beq_eq_false_iff_ne]; exact g3
        go_wp2_with fail
        go_ret
        exact ⟨by simp [e3], HA.out⟩
    · have e2 : (x2 == y2) = false := by rw [beq_eq_false_iff_ne]; exact g2
      go_wp2_with fail
      go_ret
      exact ⟨by simp [e2], HA.out⟩
  · have e1 : (x1 == y1) = false := by rw [beq_eq_false_iff_ne]; exact g1
    go_wp2_with fail
    go_ret
    exact ⟨by simp [e1], HA.out⟩
end Go.Proofs.YtbmnagfjpenemaaGreatDoor
