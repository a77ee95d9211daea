/- The contracts of the reader: take, number, cell; strings.Clone. -/
import Derived.Test.YtljegjcajlkgiaaGreatMem
import Derived.Shelf.LaysM
import Derived.Shelf.Strconv.Clone
import Derived.Laws.BitsAllLaws
import Derived.Laws.Entries
namespace Go.Proofs
open Go.Shelf
def Tryz.cloL_ren : Go.Shelf.Ren := ⟨fun | 316 => 102 | n => n, fun | 9 => 9 | 3 => 3 | 4 => 4 | 37 => 70 | 0 => 0 | 127 => 148 | 5 => 5 | n => n, fun | n => n⟩
theorem Tryz.cloL : Go.Proofs.LaysM.n316 Tryz.prog Tryz.cloL_ren := {
  mixed := by kernel_rfl
  f316 := Tryz.func102.trans (congrArg some (by kernel_rfl))
  t0 := Tryz.underlying0
  a0 := Tryz.isAgg0
  z0 := Tryz.sizeOf0
  v0 := Tryz.zeroValue0
  t3 := Tryz.underlying3
  a3 := Tryz.isAgg3
  z3 := Tryz.sizeOf3
  v3 := Tryz.zeroValue3
  t4 := Tryz.underlying4
  a4 := Tryz.isAgg4
  z4 := Tryz.sizeOf4
  v4 := Tryz.zeroValue4
  t9 := Tryz.underlying9
  a9 := Tryz.isAgg9
  z9 := Tryz.sizeOf9
  v9 := Tryz.zeroValue9
  t37 := Tryz.underlying70
  a37 := Tryz.isAgg70
  z37 := Tryz.sizeOf70
  v37 := Tryz.zeroValue70
  t127 := Tryz.underlying148
  a127 := Tryz.isAgg148
  z127 := Tryz.sizeOf148
  v127 := Tryz.zeroValue148
  t5 := Tryz.underlying5
  a5 := Tryz.isAgg5
  z5 := Tryz.sizeOf5
  v5 := Tryz.zeroValue5
  i0 := by kernel_rfl
  i3 := by kernel_rfl
  i4 := by kernel_rfl
  i5 := by kernel_rfl
  i9 := by kernel_rfl
  i37 := by kernel_rfl
  i127 := by kernel_rfl }
end Go.Proofs
namespace Go.Proofs.YtljegjcajlkgiaaGreat
open Go.ChangeShapes Go.WideShapes Go.ChangeAt Go.RowKit Go.Shelf
set_option linter.unusedVariables false
set_option linter.unusedSimpArgs false
theorem clone_any (s : ByteArray) (hs : s.size ≤ 281474976710656) (w : World) : Calls Tryz.prog 79 #[.string s] w fun e w' => e = .returned (.string s) ∧ Below w.heap.size w w' := by
  have R := Lib.hid (fun w => Any.stringslite_Clone Tryz.cloL s w hs)
  go_enter Tryz.func79, Tryz.ntmps79
  go_wp2_with fail
  refine (R.out _).mono ?_; rintro e w1 ⟨rfl, hb⟩
  have HB := Lib.hid hb
  clear hb
  go_wp2_with fail
  go_ret
  exact ⟨rfl, HB.out⟩
abbrev ptr (p : Nat) : Value := .pointer (some ⟨p, 0, none⟩)
/-- A reader at p, what is left. -/
def Rd (w : World) (p : Nat) (s : BA) : Prop := w.heap[p]? = some (.cells #[.string (str s)] 145 (0, 0))
theorem Rd.lt {w : World} {p : Nat} {s : BA} (h : Rd w p s) : p < w.heap.size := (Array.getElem?_eq_some_iff.1 h).1
theorem Rd.cell {w : World} {p : Nat} {s : BA} (h : Rd w p s) : w.cell? ⟨p, 0, none⟩ = some (.string (str s)) := (cell_of_row _ _ _ _ _ _ h).trans rfl
theorem Rd.free {w : World} {p : Nat} {s : BA} (h : Rd w p s) : w.frozen? ⟨p, 0, none⟩ = false := frozen_of_row _ _ _ _ _ h
theorem Rd.kept {w w' : World} {p : Nat} {s : BA} (h : Rd w p s) (hb : Below w.heap.size w w') : Rd w' p s := (hb.block p h.lt).trans h
theorem Rd.cut {w : World} {p : Nat} {s : BA} (h : Rd w p s) (r : BA) : Rd (w.setCell ⟨p, 0, none⟩ (.string (str r))) p r := by
  unfold Rd at h ⊢
  simp [World.setCell, Array.getElem?_modify, h]
theorem grownBy_setCell {a w : World} {p B i : Nat} {u : Value} (h : a.grownBy w (some p)) (hB : B = p ∨ a.heap.size ≤ B) : a.grownBy (w.setCell ⟨B, i, none⟩ u) (some p) := by
  refine ⟨h.os, h.tape, h.output, by simpa [World.setCell] using h.size, fun k hk hne => ?_⟩
  rw [← h.block k hk hne]
  have : k ≠ B := by
    rcases hB with rfl | hB
    · exact fun e => hne (by rw [e])
    · omega
  exact Below.heap_setCell w ⟨B, i, none⟩ u k this
/-- What a reading call leaves. -/
def Took (p : Nat) (w : World) (r : BA) (w' : World) : Prop := Rd w' p r ∧ w.grownBy w' (some p)
theorem Took.then {p : Nat} {w w1 w2 : World} {r q : BA} (h : Took p w r w1) (k : Took p w1 q w2) : Took p w q w2 := ⟨k.1, grownBy_trans h.2 k.2⟩
theorem Took.on {p : Nat} {w w1 w2 : World} {r : BA} (h : Took p w r w1) (k : Below w1.heap.size w1 w2) : Took p w r w2 := ⟨h.1.kept k, grownBy_trans h.2 (grownBy_below k)⟩
theorem min_facts (n : Nat) (s : BA) : ∃ m, m ≤ s.length ∧ s.take n = s.take m ∧ s.drop n = s.drop m ∧ min (n : Int) (s.length : Int) = (m : Int) := by
  by_cases h : n ≤ s.length
  · exact ⟨n, h, rfl, rfl, by omega⟩
  · exact ⟨s.length, Nat.le_refl _, by rw [List.take_of_length_le (by omega), List.take_length], by rw [List.drop_of_length_le (by omega), List.drop_length], by omega⟩
theorem extract_take (l : BA) (n : Nat) : (str l).extract 0 n = str (l.take n) := by
  rw [extract_str, str_toList]; simp
theorem extract_drop (l : BA) (n : Nat) : (str l).extract n (str l).size = str (l.drop n) := by
  rw [extract_str, str_toList, str_size, List.take_of_length_le (by simp)]
set_option maxHeartbeats 1000000 in
theorem take_any (p n : Nat) (s : BA) (hs : s.length ≤ 1000000) (hn : n ≤ 65535) (w : World) (hr : Rd w p s) :
    Calls Tryz.prog 114 #[ptr p, .int .i64 (n : Int)] w fun e w' => e = .returned (.string (str (s.take n))) ∧ Took p w (s.drop n) w' := by
  obtain ⟨m, hm, h1, h2, h3⟩ := min_facts n s
  rw [h1, h2]
  have hc := hr.cell
  have hf := hr.free
  have HR := Lib.hid hr
  have HT := Lib.hid (show Took p w (s.drop m) (w.setCell ⟨p, 0, none⟩ (.string (str (s.drop m)))) from ⟨hr.cut _, grownBy_setCell ⟨rfl, rfl, rfl, Nat.le_refl _, fun _ _ _ => rfl⟩ (.inl rfl)⟩)
  have CL := Lib.hid (fun w => clone_any (str (s.take m)) (by rw [str_size, List.length_take]; omega) w)
  rw [← extract_take] at CL ⊢
  rw [← extract_drop] at HT
  have hsz : (str s).size = s.length := str_size s
  rw [← hsz] at hm h3 hs
  have hm' : (m : Int) ≤ ((str s).size : Int) := by omega
  have hm0 : (0 : Int) ≤ (m : Int) := by omega
  have hs' : ((str s).size : Int) ≤ 1000000 := by omega
  generalize hx : str s = x at *
  clear hsz hr hx h1 h2
  go_enter Tryz.func114, Tryz.ntmps114
  go_wp2_with fail
  refine (CL.out _).mono ?_; rintro e w1 ⟨rfl, hb⟩
  have HT1 := Lib.hid (HT.out.on hb)
  clear hb HT hc hf
  go_wp2_with fail
  go_ret
  exact ⟨rfl, HT1.out⟩
theorem wrap_in (x : Int) (h0 : 0 ≤ x) (h1 : x ≤ 100000) : IntKind.i64.wrap x = x := IntWalk.i64_in _ (by omega)
theorem or_add (x y : Nat) (hx : x < 256) (hy : y < 256) : bits .or .i64 ((x : Int) * 256) (y : Int) = ((x * 256 + y : Nat) : Int) := by
  have e1 : BitVec.ofInt 64 ((x : Int) * 256) = BitVec.ofNat 64 (x * 256) := by
    rw [show ((x : Int) * 256) = ((x * 256 : Nat) : Int) by omega, BitVec.ofInt_natCast]
  have e2 : BitVec.ofInt 64 (y : Int) = BitVec.ofNat 64 y := BitVec.ofInt_natCast ..
  show IntKind.i64.wrap ((BitVec.ofInt 64 ((x : Int) * 256) ||| BitVec.ofInt 64 (y : Int)).toNat : Int) = _
  rw [e1, e2, BitVec.toNat_or, BitVec.toNat_ofNat, BitVec.toNat_ofNat, Nat.mod_eq_of_lt (by omega), Nat.mod_eq_of_lt (by omega)]
  have := Nat.shiftLeft_add_eq_or_of_lt (i := 8) (b := y) hy x
  rw [Nat.shiftLeft_eq] at this
  rw [show (2 : Nat) ^ 8 = 256 from rfl] at this
  rw [← this, wrap_in _ (by omega) (by omega)]
theorem to_bytes (w : World) (m : BA) : ∃ c w2, (convert 9 70 (.string (str m))).run Tryz.prog w = .ok (.slice (some ⟨w.heap.size, 0, none⟩) m.length c) w2 ∧
    (∀ k (hk : k < m.length), w2.cell? ⟨w.heap.size, k, none⟩ = some (.int .u8 ((m[k]'hk).toNat : Int))) ∧ Below w.heap.size w w2 ∧ m.length ≤ c := by
  refine ⟨_, _, run_bytes_of_string (P := Tryz.prog) w 9 70 5 (str m) Tryz.underlying9 Tryz.underlying70 Tryz.underlying5, fun k hk => ?_, (Below.refl _ _).drew.alloc (Nat.le_refl _) _, grownCap_ge _ _ _ _⟩
  have hh := World.cell?_alloc_mark w.drew (bytesRow (str m) (grownCap w (str m).size 0 5)) 5 ((bytesRow (str m) (grownCap w (str m).size 0 5)).size, (bytesRow (str m) (grownCap w (str m).size 0 5)).size + 1) k
  refine hh.trans ?_
  rw [bytesRow_at (str m) _ k (by simpa [str] using hk)]
  simp [str]
theorem numB_take (m : BA) (k : Nat) (hk : k < m.length) : numB (m.take (k + 1)) = numB (m.take k) * 256 + m[k].toNat := by
  rw [List.take_succ_eq_append_getElem hk, numB_snoc]
set_option maxHeartbeats 1000000 in
theorem number_any (p n : Nat) (s : BA) (hs : s.length ≤ 1000000) (hn : n ≤ 2) (w : World) (hr : Rd w p s) :
    Calls Tryz.prog 109 #[ptr p, .int .i64 (n : Int)] w fun e w' => e = .returned (.int .i64 (numB (s.take n) : Nat)) ∧ Took p w (s.drop n) w' := by
  have Ht := Lib.hid (take_any p n s hs (by omega) w hr)
  have hm : (s.take n).length ≤ 2 := by rw [List.length_take]; omega
  generalize s.take n = m at *
  generalize s.drop n = r at *
  clear hr hs hn
  go_enter Tryz.func109, Tryz.ntmps109
  go_wp2_with fail
  refine (Ht.out).mono ?_; rintro e w1 ⟨rfl, hq⟩
  obtain ⟨c, w2, hcv, hcell, hb, hmc⟩ := to_bytes w1 m
  have Hq := Lib.hid (hq.on hb)
  have Hc := Lib.hid hcell
  clear hq hcell hb
  go_wp2_with fail
  go_loop [5, 7, 13] (fun v _ i => ∃ k : Nat, k ≤ m.length ∧ i = .int .i64 k ∧ v = .int .i64 (numB (m.take k) : Nat)) (fun _ _ i => m.length - (intOf i).toNat)
  case atStart => exact ⟨0, Nat.zero_le _, rfl, rfl⟩
  case round =>
    obtain ⟨k, hk, rfl, rfl⟩ := hrel
    by_cases hlt : k < m.length
    · have hce := Hc.out k hlt
      have hb3 : numB (m.take k) < 256 := numB_lt1 _ (by rw [List.length_take]; omega)
      have hb8 : m[k].toNat < 256 := m[k].toNat_lt
      have Hn := Lib.hid (numB_take m k hlt)
      generalize m[k].toNat = b at *
      generalize numB (m.take k) = a at *
      have hA : (a : Int) < 256 := by omega
      have hB : (b : Int) < 256 := by omega
      have hbb : (k : Int) < (m.length : Int) := by omega
      go_wp2_with fail
      go_round
      case rel => exact ⟨k + 1, by omega, by go_num, by rw [Hn.out]; exact congrArg (Value.int IntKind.i64) (or_add a b hb3 hb8)⟩
      case measure => simp [intOf]; omega
    · have hkm : m.length ≤ k := by omega
      have Hn := Lib.hid (show m.take k = m from List.take_of_length_le hkm)
      go_wp2_with fail
      go_ret
      exact ⟨by show Ending.returned (.int .i64 ((numB (m.take k) : Nat) : Int)) = _; rw [Hn.out], Hq.out⟩
theorem Box.grown {w w' : World} {b p : Nat} {v0 v1 v2 v3 : Value} (h : Box w b v0 v1 v2 v3) (hb : w.grownBy w' (some p)) (hp : b ≠ p) : Box w' b v0 v1 v2 v3 := (hb.block _ h.lt (fun e => hp (Option.some.inj e))).trans h
theorem Rd.set {w : World} {p B i : Nat} {s : BA} {u : Value} (h : Rd w p s) (hB : p ≠ B) : Rd (w.setCell ⟨B, i, none⟩ u) p s := (Below.heap_setCell w ⟨B, i, none⟩ u p hB).trans h
theorem Took.set {p B i : Nat} {w w1 : World} {r : BA} {u : Value} (h : Took p w r w1) (hB : w.heap.size ≤ B) (hp : p ≠ B) : Took p w r (w1.setCell ⟨B, i, none⟩ u) := ⟨h.1.set hp, grownBy_setCell h.2 (.inr hB)⟩
def nilV : Value := .string ⟨#[]⟩
set_option maxHeartbeats 2000000 in
theorem cell_any (p : Nat) (s : BA) (hs : s.length ≤ 1000000) (w : World) (hr : Rd w p s) :
    Calls Tryz.prog 110 #[ptr p] w fun e w' => e = .returned (cvC (cell1 s)) ∧ Took p w (rest1 s) w' := by
  have l1 : (s.drop 1).length ≤ 1000000 := by rw [List.length_drop]; omega
  have l2 : (mid1 s).length ≤ 1000000 := by unfold mid1; rw [List.length_drop]; omega
  have l3 : ((mid1 s).drop 1).length ≤ 1000000 := by rw [List.length_drop]; omega
  have l4 : (tail1 s).length ≤ 1000000 := by unfold tail1; rw [List.length_drop]; omega
  have N1 := Lib.hid (fun w => number_any p 1 s hs (by omega) w)
  have T1 := Lib.hid (fun w => take_any p (numB (s.take 1)) (s.drop 1) l1 (by have := numB_lt1 (s.take 1) (by rw [List.length_take]; omega); omega) w)
  have N2 := Lib.hid (fun w => number_any p 1 (mid1 s) l2 (by omega) w)
  have N3 := Lib.hid (fun w => number_any p 2 ((mid1 s).drop 1) l3 (by omega) w)
  have T4 := Lib.hid (fun w => take_any p (size1 s) (tail1 s) l4 (by have := numB_lt (((mid1 s).drop 1).take 2) (by rw [List.length_take]; omega); unfold size1; omega) w)
  have N4 := Lib.hid (fun w => number_any p 2 (tail1 s) l4 (by omega) w)
  clear l1 l2 l3 l4 hs
  change Hid (∀ w, Rd w p (s.drop 1) → Calls _ _ _ _ (fun e w' => e = .returned (.string (str (key1 s))) ∧ Took p w (mid1 s) w')) at T1
  change Hid (∀ w, Rd w p (mid1 s) → Calls _ _ _ _ (fun e w' => e = .returned (.int .i64 (kind1 s : Nat)) ∧ Took p w ((mid1 s).drop 1) w')) at N2
  change Hid (∀ w, Rd w p ((mid1 s).drop 1) → Calls _ _ _ _ (fun e w' => e = .returned (.int .i64 (size1 s : Nat)) ∧ Took p w (tail1 s) w')) at N3
  unfold cell1 rest1
  generalize numB (s.take 1) = n1 at *
  generalize s.drop 1 = r1 at *
  generalize key1 s = k1 at *
  generalize kind1 s = kd at *
  generalize (mid1 s).drop 1 = r3 at *
  generalize mid1 s = r2 at *
  generalize size1 s = sz at *
  generalize tail1 s = r4 at *
  have hz : Box (w.alloc (.cells #[nilV, nilV, .int .i64 0, .int .i64 0] 42)) w.heap.size nilV nilV (.int .i64 0) (.int .i64 0) := Box.new w _ _ _ _
  have hal := (Below.refl w.heap.size w).alloc (Nat.le_refl _) (.cells #[nilV, nilV, .int .i64 0, .int .i64 0] 42)
  have hne : w.heap.size ≠ p := by have := hr.lt; omega
  have hr0 := hr.kept hal
  have HG := Lib.hid (grownBy_below (row := some p) hal)
  have HX := Lib.hid hz
  have HR := Lib.hid hr0
  clear hz hal hr0 hr
  unfold nilV at HX HG HR
  by_cases hk : kd = 0
  · simp only [if_pos hk]
    subst hk
    unfold cvC cv
    go_enter Tryz.func110, Tryz.ntmps110
    go_wp2_with fail
    obtain ⟨B, hB⟩ : ∃ B, B = w.heap.size := ⟨_, rfl⟩
    have hle : w.heap.size ≤ B := by omega
    rw [← hB] at hne HX ⊢
    clear hB
    generalize w.alloc (.cells #[.string ⟨#[]⟩, .string ⟨#[]⟩, .int .i64 0, .int .i64 0] 42) = W at *
    refine (N1.out _ HR.out).mono ?_; rintro e w1 ⟨rfl, ht⟩
    have H1 := Lib.hid ht
    clear ht
    go_wp2_with fail
    refine (T1.out _ H1.out.1).mono ?_; rintro e w2 ⟨rfl, ht⟩
    have H2 := Lib.hid (H1.out.then ht)
    clear ht H1
    go_wp2_with fail
    refine (N2.out _ H2.out.1).mono ?_; rintro e w3 ⟨rfl, ht⟩
    have H3 := Lib.hid (H2.out.then ht)
    clear ht H2
    go_wp2_with fail
    refine (N3.out _ H3.out.1).mono ?_; rintro e w4 ⟨rfl, ht⟩
    have H4 := Lib.hid (H3.out.then ht)
    clear ht H3
    go_wp2_with fail
    refine (T4.out _ H4.out.1).mono ?_; rintro e w5 ⟨rfl, ht⟩
    have H5 := Lib.hid (H4.out.then ht)
    clear ht H4
    obtain ⟨⟨x0, x1, x2, x3⟩, f0, f1, f2, f3⟩ := And.intro (HX.out.grown H5.out.2 hne).cells (HX.out.grown H5.out.2 hne).free
    have H6 := Lib.hid (show Took p w (r4.drop sz) w5 from ⟨H5.out.1, grownBy_trans HG.out H5.out.2⟩)
    clear H5
    go_wp2_with fail
    refine bodyPost_ret (v := .agg #[.string (str k1), .string (str (r4.take sz)), .int .i64 0, .int .i64 0]) (by simp [results, Tryz.results110, go_sem, x0, x1, x2, x3]) rfl ⟨rfl, ?_⟩
    exact (((H6.out.set hle hne.symm).set hle hne.symm).set hle hne.symm).set hle hne.symm
  · simp only [if_neg hk]
    have hk1 : ¬ (kd : Int) = 0 := by omega
    have hk2 : ((kd : Int) == 0) = false := by rw [beq_eq_false_iff_ne]; exact hk1
    unfold cvC cv
    go_enter Tryz.func110, Tryz.ntmps110
    go_wp2_with fail
    obtain ⟨B, hB⟩ : ∃ B, B = w.heap.size := ⟨_, rfl⟩
    have hle : w.heap.size ≤ B := by omega
    rw [← hB] at hne HX ⊢
    clear hB
    generalize w.alloc (.cells #[.string ⟨#[]⟩, .string ⟨#[]⟩, .int .i64 0, .int .i64 0] 42) = W at *
    refine (N1.out _ HR.out).mono ?_; rintro e w1 ⟨rfl, ht⟩
    have H1 := Lib.hid ht
    clear ht
    go_wp2_with fail
    refine (T1.out _ H1.out.1).mono ?_; rintro e w2 ⟨rfl, ht⟩
    have H2 := Lib.hid (H1.out.then ht)
    clear ht H1
    go_wp2_with fail
    refine (N2.out _ H2.out.1).mono ?_; rintro e w3 ⟨rfl, ht⟩
    have H3 := Lib.hid (H2.out.then ht)
    clear ht H2
    go_wp2_with fail
    refine (N3.out _ H3.out.1).mono ?_; rintro e w4 ⟨rfl, ht⟩
    have H4 := Lib.hid (H3.out.then ht)
    clear ht H3
    go_wp2_with fail
    refine (N4.out _ H4.out.1).mono ?_; rintro e w5 ⟨rfl, ht⟩
    have H5 := Lib.hid (H4.out.then ht)
    clear ht H4
    obtain ⟨⟨x0, x1, x2, x3⟩, f0, f1, f2, f3⟩ := And.intro (HX.out.grown H5.out.2 hne).cells (HX.out.grown H5.out.2 hne).free
    have H6 := Lib.hid (show Took p w (r4.drop 2) w5 from ⟨H5.out.1, grownBy_trans HG.out H5.out.2⟩)
    clear H5
    go_wp2_with fail
    refine bodyPost_ret (v := .agg #[.string (str k1), .string (ByteArray.mk #[]), .int .i64 (numB (r4.take 2) : Nat), .int .i64 sz]) (by simp [results, Tryz.results110, go_sem, x0, x1, x2, x3]) rfl ⟨rfl, ?_⟩
    exact (((H6.out.set hle hne.symm).set hle hne.symm).set hle hne.symm).set hle hne.symm
end Go.Proofs.YtljegjcajlkgiaaGreat
