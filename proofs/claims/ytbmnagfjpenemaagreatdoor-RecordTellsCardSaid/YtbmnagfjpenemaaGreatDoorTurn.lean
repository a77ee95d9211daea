/- A byte put in the place of another one. -/
import Derived.Test.YtbmnagfjpenemaaGreatDoorAlive
import Derived.Deep.RegionHeld3
namespace Go.Proofs.YtbmnagfjpenemaaGreatDoor
open Go.ChangeShapes Go.WideShapes Go.ChangeAt Go.RowKit
set_option linter.unusedVariables false
set_option linter.unusedSimpArgs false
/-- The place that a number leads to, of m. -/
theorem place (a : Int) (m : Nat) (h0 : 0 < m) (h1 : m ≤ 1000000) : ∃ k : Nat, k < m ∧ (wrap64 (a.tmod m + m)).tmod m = (k : Int) ∧ wrap64 (a.tmod m + m) = a.tmod m + m ∧ (a.tmod m + m).tmod m = (k : Int) ∧ wrap64 (a.tmod m) = a.tmod m ∧ wrap64 (k : Int) = k := by
  have e1 : a.tmod m < m := Int.tmod_lt_of_pos a (by omega)
  have e2 : -(m : Int) < a.tmod m := by
    have := Int.tmod_lt_of_pos (-a) (b := (m : Int)) (by omega)
    rw [Int.neg_tmod] at this
    omega
  generalize a.tmod m = x at *
  have e3 : wrap64 (x + m) = x + m := by unfold wrap64; omega
  have e4 : (x + m).tmod m = (((x + m).toNat % m : Nat) : Int) := by
    rw [Int.tmod_eq_emod_of_nonneg (by omega)]
    rw [Int.natCast_emod, Int.toNat_of_nonneg (by omega)]
  have e5 : (x + m).toNat % m < m := Nat.mod_lt _ h0
  exact ⟨(x + m).toNat % m, e5, by rw [e3]; exact e4, e3, e4, by unfold wrap64; omega, by unfold wrap64; omega⟩
def patch (l : BA) (k : Nat) (c : UInt8) : BA := l.take k ++ c :: l.drop (k + 1)
theorem patch_length {l : BA} {k : Nat} (h : k < l.length) (c : UInt8) : (patch l k c).length = l.length := by
  simp [patch]; omega
theorem patch_ne {l : BA} {k : Nat} (h : k < l.length) {c : UInt8} (hc : c ≠ l.getD k 0) : patch l k c ≠ l := by
  intro e
  apply hc
  have : (patch l k c).getD k 0 = c := by
    unfold patch
    rw [List.getD_eq_getElem?_getD, List.getElem?_append_right (by rw [List.length_take]; omega), List.length_take, show k - min k l.length = 0 by omega]
    rfl
  rw [e] at this
  exact this.symm
theorem turned_ne {r : Rc} {k : Nat} (h : k < (encR r).length) {c : UInt8} (hc : c ≠ (encR r).getD k 0) (hg : getOk (patch (encR r) k c) = true) : readR (patch (encR r) k c) ≠ r := by
  intro e
  have := (getOk_iff.1 hg).2
  rw [e] at this
  exact patch_ne h hc this.symm
theorem str_join (a b : BA) : str a ++ str b = str (a ++ b) := by
  apply ByteArray.ext
  apply Array.ext'
  simp [str]
theorem xor_u8 (x y : UInt8) : bits .xor .u8 (x.toNat : Int) (y.toNat : Int) = ((x ^^^ y).toNat : Int) := by
  show IntKind.u8.wrap ((BitVec.ofInt 8 (x.toNat : Int) ^^^ BitVec.ofInt 8 (y.toNat : Int)).toNat : Int) = _
  rw [BitVec.ofInt_natCast, BitVec.ofInt_natCast, BitVec.toNat_xor, BitVec.toNat_ofNat, BitVec.toNat_ofNat, Nat.mod_eq_of_lt x.toNat_lt, Nat.mod_eq_of_lt y.toNat_lt, UInt8.toNat_xor]
  have h : x.toNat ^^^ y.toNat < 256 := by rw [← UInt8.toNat_xor]; exact UInt8.toNat_lt _
  exact IntWalk.u8_in _ (by omega)
theorem xor_ne (x y : UInt8) (hy : y ≠ 0) : x ^^^ y ≠ x := by
  intro h
  apply hy
  have : x ^^^ (x ^^^ y) = 0 := by rw [h]; exact UInt8.xor_self
  rwa [← UInt8.xor_assoc, UInt8.xor_self, UInt8.zero_xor] at this
theorem u8_of_int (b : Int) (h : (Lit.int .u8 b).wf = true) : ∃ c : UInt8, b = (c.toNat : Int) := by
  have h2 : 0 ≤ b ∧ b ≤ 255 := by
    simp [Lit.wf, IntKind.min, IntKind.max, IntKind.signed, IntKind.bits] at h
    omega
  refine ⟨byte b, ?_⟩
  rw [byte_toNat b h2.1]
  omega
theorem run_ix (b : ByteArray) (i : Nat) (hi : i < b.size) (w : World) : (Instr.index 9 (.string b) (.int .i64 i)).run Tryz.prog w = .ok (.int .u8 ((b.data.toList.getD i 0).toNat : Int)) w := by
  rw [run_index_string w 9 b .i64 (i : Int) Tryz.underlying9, dif_pos ⟨by omega, by omega⟩]
  have e : b[((i : Int)).toNat]'(by omega) = b.data.toList.getD i 0 := by
    rw [List.getD_eq_getElem?_getD, List.getElem?_eq_getElem (by simpa using hi)]
    rfl
  rw [e]
theorem extract_is (s : ByteArray) (i j : Nat) : s.extract i j = str ((s.data.toList.take j).drop i) := by
  apply ByteArray.ext
  apply Array.ext'
  simp [str, ByteArray.data_extract, List.drop_take]
theorem run_slice_hi (s : ByteArray) (m : Nat) (hm : m ≤ s.size) (w : World) : (Instr.slice 9 (.string s) none (some (.int .i64 (m : Int))) none).run Tryz.prog w = .ok (.string (str (s.data.toList.take m))) w := by
  rw [run_slice_string_h (P := Tryz.prog) w 9 s Tryz.underlying9 .i64 (m : Int) (by omega) (by omega), extract_is, Int.toNat_natCast]
  rfl
theorem run_slice_lo (s : ByteArray) (m : Nat) (hm : m ≤ s.size) (w : World) : (Instr.slice 9 (.string s) (some (.int .i64 (m : Int))) none none).run Tryz.prog w = .ok (.string (str (s.data.toList.drop m))) w := by
  rw [run_slice_string_l (P := Tryz.prog) w 9 s Tryz.underlying9 .i64 (m : Int) (by omega) (by omega), extract_is, Int.toNat_natCast, List.take_of_length_le (by rw [size_data]; omega)]
/-- One byte, as a string. -/
theorem convert1 {X : World} {B : Nat} {c : UInt8} (hx : X.heap[B]? = some (.cells #[.int .u8 (c.toNat : Int)] 5 (0, 0))) (w : World) (h : Held X w) :
    (convert 63 9 (.slice (some ⟨B, 0, none⟩) 1 1)).run Tryz.prog w = .ok (.string (str [c])) w := by
  rw [show str [c] = strOfNums [(c.toNat : Int)] from by simp [str, strOfNums]]
  have hw : w.heap[B]? = _ := (Below.block h B (Array.getElem?_eq_some_iff.1 hx).1).trans hx
  refine run_convert_bytes_arg w 63 5 Tryz.underlying63 Tryz.underlying5 B 0 1 1 _ rfl (fun i hi => ?_) 9 Tryz.underlying9
  obtain rfl : i = 0 := by omega
  rw [cell_of_row _ _ _ _ _ _ hw, Nat.zero_add]
  rfl
/-- Behind V: all that was there stands; and block g holds one byte. -/
def HR (V : World) (g : Nat) (c : UInt8) (w : World) : Prop := Held V w ∧ w.heap[g]? = some (.cells #[.int .u8 (c.toNat : Int)] 5 (0, 0))
theorem HR.lt {V w : World} {g : Nat} {c : UInt8} (h : HR V g c w) : g < w.heap.size := (Array.getElem?_eq_some_iff.1 h.2).1
theorem HR.step {V w w' : World} {g : Nat} {c : UInt8} (h : HR V g c w) (hb : Below w.heap.size w w') : HR V g c w' := ⟨Held.step h.1 hb, (hb.block g h.lt).trans h.2⟩
theorem HR.row {V w : World} {g b : Nat} {c : UInt8} (h : HR V g c w) (hB : V.heap.size ≤ b) (hne : g ≠ b) (ds : Array Value) : HR V g c (w.setRow b ds) := by
  refine ⟨below_row h.1 hB, ?_⟩
  rw [row_other w b g ds hne]
  exact h.2
theorem HR.alloc {V w : World} {g : Nat} {c : UInt8} (h : HR V g c w) (o : Obj) : HR V g c (w.alloc o) := h.step ((Below.refl _ _).alloc (Nat.le_refl _) o)
theorem HR.convert {V w : World} {g : Nat} {c : UInt8} (h : HR V g c w) : (convert 63 9 (.slice (some ⟨g, 0, none⟩) 1 1)).run Tryz.prog w = .ok (.string (str [c])) w := convert1 h.2 w (Below.refl _ _)
/-- What Get hands back, in one shape. -/
def gotR (b : BA) : Rc := if getOk b then readR b else nilR
theorem rco_nil (B : Nat) (w : World) : RcO B w nilR hd0 := by
  refine ⟨⟨rfl, World.ownsRow_nil _ _ _ _⟩, ⟨rfl, World.ownsRow_nil _ _ _ _⟩, ⟨[], rfl, rfl, World.ownsRow_nil _ _ _ _, fun k hk => absurd hk (Nat.not_lt_zero _)⟩, ⟨rfl, World.ownsRow_nil _ _ _ _⟩⟩
theorem rcw_nil : RcW nilR where
  kind := zero_rng
  tx := zero_rng
  prev := zero_rng
  next := zero_rng
  key := Nat.zero_le _
  old := ⟨zero_rng, zero_rng, Nat.zero_le _, Nat.zero_le _⟩
  g := ⟨Nat.zero_le _, fun x hx => absurd hx List.not_mem_nil⟩
  p := ⟨Nat.zero_le _, fun x hx => absurd hx List.not_mem_nil⟩
  t := ⟨Nat.zero_le _, fun x hx => absurd hx List.not_mem_nil⟩
  d := ⟨Nat.zero_le _, fun x hx => absurd hx List.not_mem_nil⟩
theorem got_w {b : BA} (hb : b.length ≤ 800000) : RcW (gotR b) := by
  unfold gotR
  split
  · exact rec_w (s := (b, true)) hb
  · exact rcw_nil
theorem got_any (b : BA) (hb : b.length ≤ 800000) (w : World) : Calls Tryz.prog 14 #[.string (str b)] w fun e w' => ∃ h, e = .returned (.tuple #[rcv (gotR b) h, .bool (getOk b)]) ∧ Below w.heap.size w w' ∧ RcO w.heap.size w' (gotR b) h := by
  refine (get_any b hb w).mono ?_
  rintro e w' ⟨hl, ⟨hg, h, rfl, ho⟩ | ⟨hg, rfl⟩⟩
  · refine ⟨h, ?_, hl, ?_⟩
    · unfold gotR; rw [hg]; rfl
    · unfold gotR; rw [hg]; exact ho
  · refine ⟨hd0, ?_, hl, ?_⟩
    · unfold gotR; rw [hg]; rfl
    · unfold gotR; rw [hg]; exact rco_nil _ _
/-- A record in a block of its own, behind V. -/
def Got (V : World) (B : Nat) (r : Rc) (h : Hd) (w : World) : Prop := Held V w ∧ Bx w B (rcs r h) 29 ∧ RcM w.heap.size w r h
theorem Got.put {V w : World} {B D : Nat} {r : Rc} {h : Hd} {cs : Array Value} (hv : Held V w) (hB : V.heap.size ≤ B) (hz : Bx w B cs 29) (ho : RcO D w r h) (hr : RcW r) : Got V B r h (w.setRow B (rcs r h)) :=
  ⟨below_row hv hB, hz.row _, (ho.aside (Aside.row B w _) hz).m hr⟩
theorem wpAnyH_mono {P : Program} {md : Region.Mode} {ops : Array Oper} {Q : Exit → Act → World → Prop} {S S' : World → Prop} (hS : ∀ w, S' w → S w) : ∀ {fuel : Nat} {listed : Array Bool} {a : Act} {w : World}, wpAnyH P md ops Q S' fuel listed a w → wpAnyH P md ops Q S fuel listed a w
  | 0, _, _, _, h => h
  | fuel + 1, _, _, _, h => ⟨h.1, fun i hi => wpOp_mono (fun a' w' h' => ⟨hS _ h'.1, wpAnyH_mono hS h'.2⟩) (h.2 i hi)⟩
end Go.Proofs.YtbmnagfjpenemaaGreatDoor
