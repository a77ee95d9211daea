/- PoolOrder: the map of what was made; the steps as they are read; 40 empty pages. -/
import Derived.Test.YtcecfageijkifaaOp
import Derived.Laws.MakeOwn
namespace Go.Proofs.Ytcecfageijkifaa.Po
open Go.ChangeShapes Go.WideShapes Go.ChangeAt Go.RowKit
set_option linter.unusedVariables false
set_option linter.unusedSimpArgs false
set_option maxRecDepth 100000
theorem keyedS : Maps.Keyed Try.prog 9 := Maps.string_keyed Try.underlying9
theorem keyS {s : BA} (h : s.length ≤ maxLen) : keyOf Try.prog 9 (.string (str s)) = some (.string s) := WideMaps.keyOf_string_mk Try.underlying9 h
def MapB (w : World) (b n : Nat) (f : BA → Nat) : Prop :=
  ∃ D : DW, w.ownsMap Try.prog 9 (plainElem Try.prog 3) b n D ∧ ∀ s, D.atKey (.string s) (.lit (.int .i64 0)) = .lit (.int .i64 (f s))
section
variable {w w' : World} {b n : Nat} {f : BA → Nat}
theorem MapB.made (w : World) : MapB (w.alloc (.map #[] 0)) w.heap.size 0 (fun _ => 0) := ⟨.map [], World.ownsMap_made w _ _ _, fun s => rfl⟩
theorem MapB.kept {S : Nat → Prop} (h : MapB w b n f) (t : Tn S w w') (hs : ¬ S b) : MapB w' b n f := by
  obtain ⟨D, h1, h2⟩ := h
  exact ⟨D, t.map h1 hs, h2⟩
theorem MapB.held {K : Nat → Prop} (h : MapB w b n f) (t : Kp K w w') (hk : K b) : MapB w' b n f := by
  obtain ⟨D, ⟨es, clock, h1, h2⟩, h3⟩ := h
  exact ⟨D, ⟨es, clock, (t.2 b hk).trans h1, h2⟩, h3⟩
theorem MapB.mono {m : Nat} (h : MapB w b n f) (hn : n ≤ m) : MapB w b m f := by
  obtain ⟨D, h1, h2⟩ := h
  exact ⟨D, h1.mono hn, h2⟩
theorem MapB.look (h : MapB w b n f) {s : BA} (hs : s.length ≤ maxLen) : (Instr.lookup 34 (.map (some b)) (.string (str s)) false).run Try.prog w = .ok (.int .i64 (f s)) w := by
  obtain ⟨D, h1, h2⟩ := h
  obtain ⟨c, h3, h4, _⟩ := h1.lookup_int keyedS Try.underlying34 Try.underlying3 (Try.zeroValue3 w) (keyS hs)
  rw [h2] at h4
  simp only [DataW.lit.injEq, Lit.int.injEq, true_and] at h4
  rw [h3, ← h4]
theorem MapB.put (h : MapB w b n f) (hn : n < maxLen) {s : BA} (hs : s.length ≤ maxLen) {v : Nat} (hv : v ≤ 1000) :
    ∃ w', (Instr.mapUpdate 34 (.map (some b)) (.string (str s)) (.int .i64 v)).run Try.prog w = .ok () w' ∧ MapB w' b (n + 1) (fun x => if x = s then v else f x) ∧ w.grownBy w' (some b) := by
  obtain ⟨D, h1, h2⟩ := h
  obtain ⟨w', h4, h5, h6⟩ := h1.update keyedS Try.underlying34 hn (keyS hs) (plainElem_int Try.underlying3 (rng_wf (v := (v : Int)) ⟨by omega, by omega⟩))
  refine ⟨w', h4, ⟨_, h5, fun k => ?_⟩, h6⟩
  by_cases hkk : k = s
  · subst hkk
    rw [Maps.atKey_put_same h1.isMap (show WideAt.IsKeyLit (.string k) from trivial)]
    simp
  · rw [Maps.atKey_put_other (fun e => hkk (by simpa using e))]
    simp only [hkk, if_false]
    exact h2 k
end
theorem MapB.block {w : World} {b n : Nat} {f : BA → Nat} {B : Nat} {cs : Array Value} {t : TypeId} (h : MapB w b n f) (hb : Bx w B cs t) : B ≠ b := by
  intro e
  subst e
  obtain ⟨D, ⟨es, clock, h1, _⟩, _⟩ := h
  unfold Bx at hb
  rw [hb] at h1
  cases h1
theorem scs_get : ∀ (o : St) (j : Nat), j < o.length → (scs o)[j * 3]? = some (.int .u8 (o.getD j (0, 0, [])).1) ∧ (scs o)[j * 3 + 1]? = some (.int .i64 (o.getD j (0, 0, [])).2.1) ∧ (scs o)[j * 3 + 2]? = some (.string (str (o.getD j (0, 0, [])).2.2))
  | x :: r, 0, _ => ⟨rfl, rfl, rfl⟩
  | x :: r, j + 1, h => by
    have h1 := scs_get r j (by simpa using h)
    rw [show (j + 1) * 3 = j * 3 + 3 by omega]
    exact h1
/-- 40 empty pages. -/
def p40 : List BA := List.replicate 40 []
theorem p40_get (i : Nat) : p40.getD i [] = [] := by
  unfold p40
  rw [List.getD_eq_getElem?_getD, List.getElem?_replicate]
  split <;> rfl
abbrev hO (r g cp : Nat) : Host St := hostR r (some ⟨g, 0, none⟩) 40 cp p40
theorem hO_3 (r g cp : Nat) : Good3 (hO r g cp) where
  rd := fun o k k0 k1 => by
    show rdR 40 p40 o k = _
    unfold rdR
    rw [if_pos ⟨k0, by omega⟩, p40_get]
  wr := fun _ _ _ => rfl
  lg := fun _ _ => rfl
/-- Four bytes, as a text. -/
theorem four_text (w : World) (i pg : Nat) (hi : i < 256) (hp : pg < 256) :
    (convert 40 9 (.slice (some ⟨w.heap.size, 0, none⟩) 4 4)).run Try.prog (w.alloc (.cells #[.int .u8 i, .int .u8 0, .int .u8 pg, .int .u8 98] 5)) = .ok (.string (str (mkB i pg))) (w.alloc (.cells #[.int .u8 i, .int .u8 0, .int .u8 pg, .int .u8 98] 5)) := by
  have hx := Bx.new w #[.int .u8 i, .int .u8 0, .int .u8 pg, .int .u8 98] 5
  refine run_convert_bytes_back _ 40 9 5 ⟨w.heap.size, 0, none⟩ 4 (mkB i pg) Try.underlying40 Try.underlying5 Try.underlying9 fun j hj => ?_
  rw [add_plain, Nat.zero_add]
  rw [hx.cell j]
  have e1 : ((UInt8.ofNat i).toNat : Int) = i := by simp; omega
  have e2 : ((UInt8.ofNat pg).toNat : Int) = pg := by simp; omega
  rcases j with _ | _ | _ | _ | j
  · simp [mkB]; omega
  · simp [mkB]
  · simp [mkB]; omega
  · simp [mkB]
  · simp [mkB] at hj; omega
def tcs (l : List BA) : List Value := l.map fun x => Value.string (str x)
theorem info_s : (Try.prog.info? 9).map (fun i => (i.zero, i.size, i.bytes)) = some (some (.string ⟨#[]⟩), 1, 16) := by kernel_rfl
theorem make_40 (w : World) : ∃ w2, (Instr.makeSlice 25 (.int .i64 40) (.int .i64 40)).run Try.prog w = .ok (.slice (some ⟨w.heap.size, 0, none⟩) 40 40) w2 ∧ Bx w2 w.heap.size (tcs p40).toArray 9 ∧ Below w.heap.size w w2 ∧ w2.heap.size = w.heap.size + 1 := by
  obtain ⟨i0, hi0⟩ : ∃ i, Try.prog.info? 9 = some i := by have := info_s; cases hq : Try.prog.info? 9 with
    | none => rw [hq] at this; cases this
    | some i => exact ⟨i, rfl⟩
  have hz := info_s
  rw [hi0] at hz
  simp only [Option.map_some, Option.some.injEq, Prod.mk.injEq] at hz
  obtain ⟨hz0, hz1, hz2⟩ := hz
  have hmk := run_make (P := Try.prog) w 25 9 i0 _ Try.underlying25 hi0 hz0 .i64 .i64 (40 : Int) (40 : Int) (by omega) (Int.le_refl _) (by rw [hz2]; omega) (by omega)
  rw [hz1] at hmk
  simp only [Value.cells, Nat.mul_one] at hmk
  refine ⟨_, hmk, ?_, (Below.refl _ _).alloc (Nat.le_refl _) _, by rw [World.size_alloc]⟩
  have e : (tcs p40).toArray = madeCells #[Value.string ⟨#[]⟩] 40 := by kernel_rfl
  rw [e]
  exact heap_alloc_new w _
/-- The record's first state: 40 empty pages. -/
theorem rec_40 {w w2 : World} (hx : Bx w2 w.heap.size (tcs p40).toArray 9) (hs : w2.heap.size = w.heap.size + 1) :
    (hO (w.heap.size + 1) w.heap.size 40).M (fun i => i = w.heap.size ∨ i = w.heap.size + 1) (w2.alloc (.cells #[.slice none 0 0, .slice (some ⟨w.heap.size, 0, none⟩) 40 40, .int .i64 0] 28)) [] := by
  have x2 := Bx.new w2 #[.slice none 0 0, .slice (some ⟨w.heap.size, 0, none⟩) 40 40, .int .i64 0] 28
  rw [hs] at x2
  have x3 := hx.alloc (.cells #[.slice none 0 0, .slice (some ⟨w.heap.size, 0, none⟩) 40 40, .int .i64 0] 28)
  refine ⟨⟨.slice none 0 0, x2, World.ownsRow_nil _ _ _ _, by simp [p40], fun i hi => ?_, fun g hg => by simp [Value.ownBlock] at hg, .inr rfl, fun i hi => ?_⟩, fun i => ?_⟩
  · refine ⟨_, _, rfl, .inl rfl, x3, ?_⟩
    rw [p40_get, List.getElem?_toArray]
    unfold tcs p40
    rw [List.getElem?_map, List.getElem?_replicate, if_pos hi]
    rfl
  · rw [World.size_alloc, hs]; rcases hi with hi | hi <;> omega
  · rw [p40_get]; simp
/-- The steps, as the law reads them. -/
theorem steps_read {r g cp C p : Nat} {K : Nat → Prop} {A : Pl} {o : St} {w : World} (hp : PK (hO r g cp) C p K A o w) : ∃ Av c, w.cell? ⟨r, 0, none⟩ = some (.slice Av o.length c) ∧ ∀ w', Below w.heap.size w w' → ∀ j, j < o.length → ∃ gs, Av = some ⟨gs, 0, none⟩ ∧ w'.cell? ⟨gs, j * 3, none⟩ = some (.int .u8 (o.getD j (0, 0, [])).1) ∧ w'.cell? ⟨gs, j * 3 + 1, none⟩ = some (.int .i64 (o.getD j (0, 0, [])).2.1) ∧ w'.cell? ⟨gs, j * 3 + 2, none⟩ = some (.string (str (o.getD j (0, 0, [])).2.2)) := by
  obtain ⟨SO, ⟨v, hr⟩, _⟩ := hp.m
  obtain ⟨Av, c, rfl⟩ := own_shape hr.row
  refine ⟨Av, c, hr.box.cell 0, fun w' hb j hj => ?_⟩
  have hlt := hr.row.lt
  rcases hr.row.2 with ⟨e0, h0⟩ | ⟨gs, cap, cur, e0, _⟩
  · omega
  · simp only [Value.slice.injEq] at e0
    obtain ⟨rfl, _, _⟩ := e0
    have hg := (hlt gs rfl).2
    obtain ⟨k0, k1, k2⟩ := scs_get o j hj
    have hc := fun (i : Nat) (u : Value) (hu : (scs o)[i]? = some u) => show w'.cell? ⟨gs, i, none⟩ = some u from by
      have := World.ownsRow.cells hr.row (g := gs) rfl i u hu
      rw [add_plain, Nat.zero_add] at this
      exact (hb.cell (p := ⟨gs, i, none⟩) hg).trans this
    exact ⟨gs, rfl, hc _ _ k0, hc _ _ k1, hc _ _ k2⟩
end Go.Proofs.Ytcecfageijkifaa.Po
