/- The plain mathematics of chapter 13: numbers as bytes and back; sectors, streams of records, batches, what is read of sectors. -/
import Derived.Test.YtnjggoeahaglbaaGreatRows
import Derived.Below
import Derived.OwnWalk
import Derived.Laws.OwnMore
import Derived.Laws.BytesArg
import Derived.Lib.AppendStr
import Derived.Laws.IdiomStrings
import Derived.Laws.BitsAllLaws
namespace Go.Proofs.YtnjggoeahaglbaaGreat.Fr
open Go.RowKit
set_option linter.unusedVariables false
abbrev BA := List UInt8
/-- The least byte of a number. -/
def byte (v : Int) : UInt8 := UInt8.ofNat v.toNat
/-- A number in two bytes, in four. -/
def w2 (v : Int) : BA := [byte (v / 256), byte v]
def w4 (v : Int) : BA := w2 (v / 65536) ++ w2 (v % 65536)
/-- Bytes as cells. -/
def bcs (l : BA) : List Value := l.map fun b => Value.int .u8 (b.toNat : Int)
/-- Bytes as a string. -/
def str (l : BA) : ByteArray := ⟨l.toArray⟩
/-- The number that bytes are. -/
def num (l : BA) : Nat := l.foldl (fun a b => a * 256 + b.toNat) 0
theorem str_size (l : BA) : (str l).size = l.length := rfl
theorem str_data (s : ByteArray) : str s.data.toList = s := rfl
theorem data_str (l : BA) : (str l).data.toList = l := rfl
theorem size_data (s : ByteArray) : s.data.toList.length = s.size := rfl
theorem w2_length (v : Int) : (w2 v).length = 2 := rfl
theorem w4_length (v : Int) : (w4 v).length = 4 := rfl
theorem byte_toNat (v : Int) (h : 0 ≤ v) : ((byte v).toNat : Int) = v % 256 := by
  unfold byte; simp; omega
theorem bcs_append (l m : BA) : bcs (l ++ m) = bcs l ++ bcs m := by simp [bcs]
theorem bcs_length (l : BA) : (bcs l).length = l.length := by simp [bcs]
theorem bcs_one (v : Int) (h : 0 ≤ v) : bcs [byte v] = [.int .u8 (v % 256)] := by simp [bcs, byte_toNat v h]
theorem byte_mod (v : Int) (h : 0 ≤ v) : byte (v % 256) = byte v := by
  unfold byte
  apply UInt8.toNat_inj.1
  simp; omega
theorem num_snoc (l : BA) (b : UInt8) : num (l ++ [b]) = num l * 256 + b.toNat := by simp [num]
theorem num_nil : num [] = 0 := rfl
theorem num_lt (l : BA) (h : l.length ≤ 4) : num l < 256 ^ l.length := by
  have hb : ∀ b : UInt8, b.toNat < 256 := fun b => b.toNat_lt
  match l, h with
  | [], _ => simp [num]
  | [a], _ => simp [num]; exact hb a
  | [a, b], _ => have := hb a; have := hb b; simp [num]; omega
  | [a, b, c], _ => have := hb a; have := hb b; have := hb c; simp [num]; omega
  | [a, b, c, d], _ => have := hb a; have := hb b; have := hb c; have := hb d; simp [num]; omega
theorem num_w2 (v : Int) (h0 : 0 ≤ v) (h1 : v ≤ 65535) : (num (w2 v) : Int) = v := by
  have ha := byte_toNat (v / 256) (by omega)
  have hb := byte_toNat v h0
  simp [num, w2]; omega
theorem num_w4 (v : Int) (h0 : 0 ≤ v) (h1 : v ≤ 4294967295) : (num (w4 v) : Int) = v := by
  have ha := byte_toNat (v / 65536 / 256) (by omega)
  have hb := byte_toNat (v / 65536) (by omega)
  have hc := byte_toNat (v % 65536 / 256) (by omega)
  have hd := byte_toNat (v % 65536) (by omega)
  simp [num, w4, w2]; omega
theorem mask8 (v : Int) (h0 : 0 ≤ v) (h1 : v < 4294967296) : bits .and .u32 v 255 = v % 256 := by
  obtain ⟨n, rfl⟩ := Int.eq_ofNat_of_zero_le h0
  rw [show (255 : Int) = ((255 : Nat) : Int) from rfl, u32_and_nat n 255 (by omega) (by omega), show (255 : Nat) = 2 ^ 8 - 1 from rfl, Nat.and_two_pow_sub_one_eq_mod]
  omega
theorem mask16 (v : Int) (h0 : 0 ≤ v) (h1 : v < 4294967296) : bits .and .u32 v 65535 = v % 65536 := by
  obtain ⟨n, rfl⟩ := Int.eq_ofNat_of_zero_le h0
  rw [show (65535 : Int) = ((65535 : Nat) : Int) from rfl, u32_and_nat n 65535 (by omega) (by omega), show (65535 : Nat) = 2 ^ 16 - 1 from rfl, Nat.and_two_pow_sub_one_eq_mod]
  omega
/-! Sectors. -/
structure Sx where
  ep : Int
  ix : Int
  fr : Bool
  pl : BA
def nilX : Sx := ⟨0, 0, false, []⟩
def okX (x : Sx) : Bool := decide (1 ≤ x.ep ∧ x.ep ≤ 4294967295 ∧ 0 ≤ x.ix ∧ x.ix ≤ 65535 ∧ 1 ≤ x.pl.length ∧ x.pl.length ≤ 56)
theorem okX_iff {x : Sx} : okX x = true ↔ 1 ≤ x.ep ∧ x.ep ≤ 4294967295 ∧ 0 ≤ x.ix ∧ x.ix ≤ 65535 ∧ 1 ≤ x.pl.length ∧ x.pl.length ≤ 56 := by simp [okX]
def flagX (b : Bool) : UInt8 := if b then 2 else 1
def lenX (n : Nat) : UInt8 := UInt8.ofNat n
def padX (n : Nat) : BA := List.replicate (56 - n) 0
def headX (x : Sx) : BA := w4 x.ep ++ (w2 x.ix ++ [flagX x.fr, lenX x.pl.length])
def encX (x : Sx) : BA := headX x ++ (x.pl ++ padX x.pl.length)
def readX (b : BA) : Sx := ⟨num (b.take 4), num ((b.drop 4).take 2), decide (b.getD 6 0 = 2), (b.drop 8).take (b.getD 7 0).toNat⟩
def getOkX (b : BA) : Bool := decide (b.length = 64) && (decide ((b.getD 7 0).toNat ≤ 56) && (okX (readX b) && decide (encX (readX b) = b)))
def gotX (b : BA) : Sx := if getOkX b then readX b else nilX
def putX (x : Sx) : BA := if okX x then encX x else []
theorem headX_length (x : Sx) : (headX x).length = 8 := rfl
theorem encX_length {x : Sx} (h : x.pl.length ≤ 56) : (encX x).length = 64 := by
  unfold encX padX
  rw [List.length_append, headX_length, List.length_append, List.length_replicate]
  omega
theorem lenX_toNat {n : Nat} (h : n ≤ 56) : (lenX n).toNat = n := by
  unfold lenX; simp; omega
theorem readX_enc {x : Sx} (h : okX x = true) : readX (encX x) = x := by
  obtain ⟨h1, h2, h3, h4, h5, h6⟩ := okX_iff.1 h
  have e4 : (encX x).take 4 = w4 x.ep := rfl
  have e2 : ((encX x).drop 4).take 2 = w2 x.ix := rfl
  have e6 : (encX x).getD 6 0 = flagX x.fr := rfl
  have e7 : (encX x).getD 7 0 = lenX x.pl.length := rfl
  have e8 : (encX x).drop 8 = x.pl ++ padX x.pl.length := rfl
  unfold readX
  rw [e4, e2, e6, e7, e8, num_w4 _ (by omega) h2, num_w2 _ h3 h4, lenX_toNat h6, List.take_left']
  · obtain ⟨ep, ix, fr, pl⟩ := x
    cases fr <;> rfl
  · rfl
theorem getOkX_enc {x : Sx} (h : okX x = true) : getOkX (encX x) = true := by
  obtain ⟨h1, h2, h3, h4, h5, h6⟩ := okX_iff.1 h
  have e7 : (encX x).getD 7 0 = lenX x.pl.length := rfl
  unfold getOkX
  rw [readX_enc h, h, encX_length h6, e7, lenX_toNat h6]
  simp [h6]
theorem gotX_enc {x : Sx} (h : okX x = true) : gotX (encX x) = x := by
  unfold gotX; rw [getOkX_enc h, if_pos rfl, readX_enc h]
theorem getOkX_iff {b : BA} : getOkX b = true ↔ okX (readX b) = true ∧ encX (readX b) = b := by
  constructor
  · intro h
    unfold getOkX at h
    simp only [Bool.and_eq_true, decide_eq_true_eq] at h
    exact ⟨h.2.2.1, h.2.2.2⟩
  · rintro ⟨h1, h2⟩
    have := getOkX_enc h1
    rwa [h2] at this
/-- A byte turned makes another one, or none. -/
theorem turnX {x : Sx} {b : BA} (h : okX x = true) (hb : b ≠ encX x) (hg : getOkX b = true) : gotX b ≠ x := by
  intro e
  unfold gotX at e
  rw [hg, if_pos rfl] at e
  obtain ⟨_, h2⟩ := getOkX_iff.1 hg
  rw [e] at h2
  exact hb h2.symm
/-! Streams. -/
def recX (l : BA) : BA := w2 l.length ++ l
def strmB (l : List BA) : BA := l.flatMap recX
def strmOk (l : List BA) : Bool := decide (l ≠ []) && l.all fun x => decide (1 ≤ x.length ∧ x.length ≤ 65535)
theorem strmOk_iff {l : List BA} : strmOk l = true ↔ l ≠ [] ∧ ∀ x ∈ l, 1 ≤ x.length ∧ x.length ≤ 65535 := by
  unfold strmOk
  rw [Bool.and_eq_true, decide_eq_true_eq, List.all_eq_true]
  simp
theorem recX_length (l : BA) : (recX l).length = 2 + l.length := by unfold recX; rw [List.length_append, w2_length]
theorem strmB_cons (x : BA) (l : List BA) : strmB (x :: l) = recX x ++ strmB l := by simp [strmB]
theorem strmB_append (l m : List BA) : strmB (l ++ m) = strmB l ++ strmB m := by simp [strmB]
theorem strm_pos {l : List BA} (h : strmOk l = true) : 0 < (strmB l).length := by
  obtain ⟨h1, h2⟩ := strmOk_iff.1 h
  cases l with
  | nil => exact absurd rfl h1
  | cons x l => rw [strmB_cons, List.length_append, recX_length]; omega
/-- How many sectors. -/
def cntB (l : List BA) : Nat := if strmOk l then ((strmB l).length + 55) / 56 else 0
def pieceX (s : BA) (k : Nat) : BA := (s.drop (56 * k)).take 56
def secX (e i : Int) (s : BA) (k : Nat) : Sx := ⟨e, i + k, decide (k = 0), pieceX s k⟩
def npX (s : BA) : Nat := (s.length + 55) / 56
def batOk (e i : Int) (l : List BA) : Bool := strmOk l && (List.range (npX (strmB l))).all fun k => okX (secX e i (strmB l) k)
def batB (e i : Int) (l : List BA) : List BA := if batOk e i l then (List.range (npX (strmB l))).map fun k => encX (secX e i (strmB l) k) else []
theorem piece_length (s : BA) (k : Nat) : (pieceX s k).length = min 56 (s.length - 56 * k) := by unfold pieceX; rw [List.length_take, List.length_drop]
theorem np_at {s : BA} {k : Nat} (h : k < npX s) : 56 * k < s.length := by unfold npX at h; omega
theorem piece_ok {s : BA} {k : Nat} (h : k < npX s) : 1 ≤ (pieceX s k).length ∧ (pieceX s k).length ≤ 56 := by
  have := np_at h
  rw [piece_length]; omega
theorem take_piece (s : BA) (k : Nat) : s.take (56 * k) ++ pieceX s k = s.take (56 * (k + 1)) := by
  unfold pieceX
  rw [show 56 * (k + 1) = 56 * k + 56 by omega, List.take_add]
theorem batOk_iff {e i : Int} {l : List BA} : batOk e i l = true ↔ strmOk l = true ∧ ∀ k, k < npX (strmB l) → okX (secX e i (strmB l) k) = true := by
  unfold batOk
  rw [Bool.and_eq_true, List.all_eq_true]
  simp
theorem batB_length {e i : Int} {l : List BA} (h : batOk e i l = true) : (batB e i l).length = npX (strmB l) := by unfold batB; rw [if_pos h]; simp
theorem batB_at {e i : Int} {l : List BA} (h : batOk e i l = true) {k : Nat} (hk : k < npX (strmB l)) : (batB e i l)[k]? = some (encX (secX e i (strmB l) k)) := by
  unfold batB; rw [if_pos h]; simp [hk]
theorem bat_in {e i : Int} {l : List BA} (hs : strmOk l = true) (he : 1 ≤ e ∧ e ≤ 4294967295) (hi : 0 ≤ i) (hn : i + npX (strmB l) ≤ 65536) : batOk e i l = true := by
  refine batOk_iff.2 ⟨hs, fun k hk => okX_iff.2 ?_⟩
  have := piece_ok hk
  unfold secX
  dsimp only
  omega
/-! Reading. -/
structure Sc where
  out : List BA
  next : Nat
  ep : Int
  last : Int
  op : BA
  dead : Bool
def sc0 : Sc := ⟨[], 0, 0, 0, [], false⟩
def canX (op : BA) : Prop := 2 ≤ op.length ∧ 2 + num (op.take 2) ≤ op.length
instance (op : BA) : Decidable (canX op) := inferInstanceAs (Decidable (_ ∧ _))
/-- The records of what is there. -/
def drainX : Nat → List BA → BA → Bool → List BA × BA × Bool
  | 0, out, op, d => (out, op, d)
  | f + 1, out, op, d => if d = false ∧ canX op then (if num (op.take 2) = 0 then (out, op, true) else drainX f (out ++ [(op.drop 2).take (num (op.take 2))]) (op.drop (2 + num (op.take 2))) false) else (out, op, d)
theorem drain_stop (f : Nat) (out : List BA) (op : BA) (d : Bool) (h : ¬ (d = false ∧ canX op)) : drainX f out op d = (out, op, d) := by
  cases f with
  | zero => rfl
  | succ f => unfold drainX; rw [if_neg h]
theorem drain_fuel : ∀ (f g : Nat) (out : List BA) (op : BA) (d : Bool), op.length < f → op.length < g → drainX f out op d = drainX g out op d
  | 0, _, _, _, _, h, _ => absurd h (Nat.not_lt_zero _)
  | _ + 1, 0, _, _, _, _, h => absurd h (Nat.not_lt_zero _)
  | f + 1, g + 1, out, op, d, h1, h2 => by
    unfold drainX
    by_cases hc : d = false ∧ canX op
    · rw [if_pos hc, if_pos hc]
      by_cases h0 : num (op.take 2) = 0
      · rw [if_pos h0, if_pos h0]
      · rw [if_neg h0, if_neg h0]
        have := hc.2.1
        have := hc.2.2
        exact drain_fuel f g _ _ _ (by rw [List.length_drop]; omega) (by rw [List.length_drop]; omega)
    · rw [if_neg hc, if_neg hc]
def drX (out : List BA) (op : BA) (d : Bool) : List BA × BA × Bool := drainX (op.length + 1) out op d
theorem drX_stop {out : List BA} {op : BA} {d : Bool} (h : ¬ (d = false ∧ canX op)) : drX out op d = (out, op, d) := drain_stop _ _ _ _ h
theorem drX_dead {out : List BA} {op : BA} (h : canX op) (h0 : num (op.take 2) = 0) : drX out op false = (out, op, true) := by
  unfold drX drainX; rw [if_pos ⟨rfl, h⟩, if_pos h0]
theorem drX_step {out : List BA} {op : BA} (h : canX op) (h0 : num (op.take 2) ≠ 0) : drX out op false = drX (out ++ [(op.drop 2).take (num (op.take 2))]) (op.drop (2 + num (op.take 2))) false := by
  have e : drX out op false = drainX op.length (out ++ [(op.drop 2).take (num (op.take 2))]) (op.drop (2 + num (op.take 2))) false := by
    show drainX (op.length + 1) out op false = _
    rw [drainX]; rw [if_pos ⟨rfl, h⟩, if_neg h0]
  rw [e]
  have := h.1
  have := h.2
  exact drain_fuel _ _ _ _ _ (by rw [List.length_drop]; omega) (by omega)
/-- May the sector be read next? -/
def accX (i : Nat) (last : Int) (b : BA) : Bool := getOkX b && (decide ((gotX b).ix = i) && (decide (last ≤ (gotX b).ep) && (decide ((gotX b).ep = last) || (gotX b).fr)))
def feedX (i : Nat) (s : Sc) (x : Sx) : Sc :=
  ⟨(drX s.out ((if x.fr then [] else s.op) ++ x.pl) (if x.fr then false else s.dead)).1,
    if (drX s.out ((if x.fr then [] else s.op) ++ x.pl) (if x.fr then false else s.dead)).1 = s.out then s.next else i + 1,
    if (drX s.out ((if x.fr then [] else s.op) ++ x.pl) (if x.fr then false else s.dead)).1 = s.out then s.ep else x.ep,
    x.ep, (drX s.out ((if x.fr then [] else s.op) ++ x.pl) (if x.fr then false else s.dead)).2.1, (drX s.out ((if x.fr then [] else s.op) ++ x.pl) (if x.fr then false else s.dead)).2.2⟩
def scanX : Nat → Sc → List BA → Sc
  | _, s, [] => s
  | i, s, b :: l => if accX i s.last b then scanX (i + 1) (feedX i s (gotX b)) l else s
def scan (l : List BA) : Sc := scanX 0 sc0 l
/-- What drains only adds. -/
theorem drain_adds : ∀ (f : Nat) (out : List BA) (op : BA) (d : Bool), ∃ m, (drainX f out op d).1 = out ++ m
  | 0, out, op, d => ⟨[], by simp [drainX]⟩
  | f + 1, out, op, d => by
    unfold drainX
    split
    · split
      · exact ⟨[], by simp⟩
      · obtain ⟨m, h⟩ := drain_adds f (out ++ [(op.drop 2).take (num (op.take 2))]) (op.drop (2 + num (op.take 2))) false
        exact ⟨_, by rw [h, List.append_assoc]⟩
    · exact ⟨[], by simp⟩
theorem feed_adds (i : Nat) (s : Sc) (x : Sx) : ∃ m, (feedX i s x).out = s.out ++ m := drain_adds _ _ _ _
theorem scan_adds : ∀ (l : List BA) (i : Nat) (s : Sc), ∃ m, (scanX i s l).out = s.out ++ m
  | [], _, s => ⟨[], by simp [scanX]⟩
  | b :: l, i, s => by
    unfold scanX
    split
    · obtain ⟨m, h⟩ := feed_adds i s (gotX b)
      obtain ⟨m', h'⟩ := scan_adds l (i + 1) (feedX i s (gotX b))
      exact ⟨m ++ m', by rw [h', h, List.append_assoc]⟩
    · exact ⟨[], by simp⟩
/-- Read through to the end, or broken off. -/
theorem scan_app : ∀ (l m : List BA) (i : Nat) (s : Sc), (∀ k, k < l.length → accX (i + k) (scanX i s (l.take k)).last (l.getD k []) = true) → scanX i s (l ++ m) = scanX (i + l.length) (scanX i s l) m
  | [], m, i, s, _ => by simp [scanX]
  | b :: l, m, i, s, h => by
    have h0 : accX i s.last b = true := by have := h 0 (by simp); simpa [scanX] using this
    rw [List.cons_append]
    show (if accX i s.last b then scanX (i + 1) (feedX i s (gotX b)) (l ++ m) else s) = scanX (i + (l.length + 1)) (if accX i s.last b then scanX (i + 1) (feedX i s (gotX b)) l else s) m
    rw [if_pos h0, if_pos h0, scan_app l m (i + 1) _ fun k hk => ?_]
    · rw [show i + 1 + l.length = i + (l.length + 1) by omega]
    · have := h (k + 1) (by simp; omega)
      rw [List.take_succ_cons, List.getD_cons_succ, show i + (k + 1) = i + 1 + k by omega] at this
      show accX (i + 1 + k) (scanX (i + 1) (feedX i s (gotX b)) (l.take k)).last (l.getD k []) = true
      have e : scanX i s (b :: l.take k) = scanX (i + 1) (feedX i s (gotX b)) (l.take k) := by
        show (if accX i s.last b then _ else _) = _
        rw [if_pos h0]
      rw [e] at this
      exact this
/-- While a stream is read: p bytes of it have come. -/
def Into (l : List BA) (r0 : List BA) (p : Nat) (s : Sc) : Prop := s.dead = false ∧ ∃ a c, l = a ++ c ∧ s.out = r0 ++ a ∧ strmB a ++ s.op = (strmB l).take p ∧ ¬ canX s.op
theorem num_rec {x t : BA} (h : x.length ≤ 65535) : num ((recX x ++ t).take 2) = x.length := by
  have e : (recX x ++ t).take 2 = w2 x.length := rfl
  rw [e]
  have := num_w2 (x.length : Int) (by omega) (by omega)
  omega
/-- A piece of a stream, drained. -/
theorem drain_into : ∀ (c : List BA) (out : List BA) (op : BA), (∀ x ∈ c, 1 ≤ x.length ∧ x.length ≤ 65535) → op <+: strmB c → ∃ a c', c = a ++ c' ∧ (drX out op false).1 = out ++ a ∧ strmB a ++ (drX out op false).2.1 = op ∧ (drX out op false).2.2 = false ∧ ¬ canX (drX out op false).2.1
  | [], out, op, _, hp => by
    have h0 : op = [] := by simpa [strmB] using hp
    subst h0
    have hn : ¬ canX [] := by unfold canX; simp
    rw [drX_stop (fun h => hn h.2)]
    exact ⟨[], [], rfl, by simp, rfl, rfl, hn⟩
  | x :: c, out, op, hc, hp => by
    obtain ⟨hx1, hx2⟩ := hc x (List.mem_cons_self ..)
    obtain ⟨t, ht⟩ := hp
    by_cases hcan : canX op
    · have h2 : op.take 2 = (recX x ++ strmB c).take 2 := by
        rw [← strmB_cons, ← ht, List.take_append_of_le_length hcan.1]
      have hnum : num (op.take 2) = x.length := by rw [h2, num_rec hx2]
      have hlen := hcan.2
      rw [hnum] at hlen
      have e1 : op = recX x ++ op.drop (2 + x.length) := by
        have e : op.take (2 + x.length) = recX x := by
          have h3 : (op ++ t).take (2 + x.length) = (recX x ++ strmB c).take (2 + x.length) := by rw [ht, strmB_cons]
          rw [List.take_append_of_le_length hlen, List.take_append_of_le_length (by rw [recX_length]; omega)] at h3
          rw [h3, List.take_of_length_le (by rw [recX_length]; omega)]
        rw [← e, List.take_append_drop]
      have e2 : (op.drop 2).take x.length = x := by
        rw [e1]
        show (x ++ _).take x.length = x
        rw [List.take_left']
        rfl
      rw [drX_step hcan (by rw [hnum]; omega), hnum, e2]
      have hp2 : op.drop (2 + x.length) <+: strmB c := by
        refine ⟨t, ?_⟩
        have : recX x ++ (op.drop (2 + x.length) ++ t) = recX x ++ strmB c := by rw [← List.append_assoc, ← e1, ht, strmB_cons]
        exact List.append_cancel_left this
      obtain ⟨a, c', q1, q2, q3, q4, q5⟩ := drain_into c (out ++ [x]) (op.drop (2 + x.length)) (fun y hy => hc y (List.mem_cons_of_mem _ hy)) hp2
      refine ⟨x :: a, c', by rw [q1]; rfl, by rw [q2]; simp, ?_, q4, q5⟩
      rw [strmB_cons, List.append_assoc, q3, ← e1]
    · rw [drX_stop (fun h => hcan h.2)]
      exact ⟨[], x :: c, rfl, by simp, rfl, rfl, hcan⟩
theorem prefix_take {s : BA} {p : Nat} {a b : BA} (h : a ++ b = s.take p) : a ++ b <+: s := by rw [h]; exact List.take_prefix _ _
/-- One piece more. -/
theorem Into.piece {l r0 : List BA} {k : Nat} {s : Sc} {i : Nat} {x : Sx} (hs : strmOk l = true) (h : Into l r0 (56 * k) s) (hf : x.fr = false) (hp : x.pl = pieceX (strmB l) k) : Into l r0 (56 * (k + 1)) (feedX i s x) := by
  obtain ⟨hd, a, c, h1, h2, h3, h4⟩ := h
  have hc : ∀ y ∈ c, 1 ≤ y.length ∧ y.length ≤ 65535 := fun y hy => (strmOk_iff.1 hs).2 y (by rw [h1]; exact List.mem_append_right _ hy)
  have hpre : s.op ++ x.pl <+: strmB c := by
    have e : strmB a ++ (s.op ++ x.pl) = (strmB l).take (56 * (k + 1)) := by rw [← List.append_assoc, h3, hp, take_piece]
    have := prefix_take e
    rw [show strmB l = strmB a ++ strmB c from by rw [h1, strmB_append]] at this
    exact (List.prefix_append_right_inj _).1 this
  obtain ⟨a', c', q1, q2, q3, q4, q5⟩ := drain_into c s.out (s.op ++ x.pl) hc hpre
  unfold feedX Into
  rw [hf, hd]
  dsimp only [Bool.false_eq_true, if_false]
  simp only [Bool.false_eq_true, if_false]
  refine ⟨q4, a ++ a', c', by rw [h1, q1, List.append_assoc], by rw [q2, h2, List.append_assoc], ?_, q5⟩
  rw [strmB_append, List.append_assoc, q3, ← List.append_assoc, h3, hp, take_piece]
theorem Into.first {l : List BA} {s : Sc} {i : Nat} {x : Sx} (hs : strmOk l = true) (hf : x.fr = true) (hp : x.pl = pieceX (strmB l) 0) : Into l s.out 56 (feedX i s x) := by
  have hpre : ([] : BA) ++ x.pl <+: strmB l := by
    rw [List.nil_append, hp]; unfold pieceX; rw [Nat.mul_zero, List.drop_zero]; exact List.take_prefix _ _
  obtain ⟨a', c', q1, q2, q3, q4, q5⟩ := drain_into l s.out ([] ++ x.pl) (strmOk_iff.1 hs).2 hpre
  unfold feedX Into
  rw [hf]
  simp only [if_true]
  refine ⟨q4, a', c', q1, q2, ?_, q5⟩
  rw [q3, List.nil_append, hp]
  unfold pieceX
  rw [Nat.mul_zero, List.drop_zero]
/-- The whole stream has come: all its records are there, and nothing is left. -/
theorem Into.whole {l r0 : List BA} {p : Nat} {s : Sc} (hs : strmOk l = true) (h : Into l r0 p s) (hp : (strmB l).length ≤ p) : s.out = r0 ++ l ∧ s.op = [] := by
  obtain ⟨hd, a, c, h1, h2, h3, h4⟩ := h
  rw [List.take_of_length_le hp, show strmB l = strmB a ++ strmB c from by rw [h1, strmB_append]] at h3
  have ho : s.op = strmB c := List.append_cancel_left h3
  cases c with
  | nil => exact ⟨by rw [h2, h1, List.append_nil], by rw [ho]; rfl⟩
  | cons x c =>
    exfalso
    apply h4
    obtain ⟨hx1, hx2⟩ := (strmOk_iff.1 hs).2 x (by rw [h1]; simp)
    rw [ho, strmB_cons]
    have := recX_length x
    refine ⟨by rw [List.length_append]; omega, ?_⟩
    rw [num_rec hx2, List.length_append]
    omega
/-! What is read of batches. -/
/-- All up to n are accepted. -/
def AccTo (i : Nat) (st : Sc) (D : List BA) (n : Nat) : Prop := ∀ k, k < n → accX (i + k) (scanX i st (D.take k)).last (D.getD k []) = true
theorem scan_snoc {D : List BA} {i : Nat} {st : Sc} {k : Nat} (h : AccTo i st D k) (hk : k < D.length) (ha : accX (i + k) (scanX i st (D.take k)).last (D.getD k []) = true) : scanX i st (D.take (k + 1)) = feedX (i + k) (scanX i st (D.take k)) (gotX (D.getD k [])) := by
  have e : D.take (k + 1) = D.take k ++ [D.getD k []] := by
    rw [List.take_succ_eq_append_getElem hk, List.getD_eq_getElem?_getD, List.getElem?_eq_getElem hk]; rfl
  rw [e, scan_app (D.take k) [D.getD k []] i st ?_]
  · rw [List.length_take, Nat.min_eq_left (by omega)]
    show (if accX (i + k) _ (D.getD k []) then _ else _) = _
    rw [if_pos ha]
    rfl
  · intro j hj
    rw [List.length_take, Nat.min_eq_left (by omega)] at hj
    have := h j hj
    rw [List.take_take, Nat.min_eq_left (by omega), List.getD_eq_getElem?_getD, List.getElem?_take, if_pos hj, ← List.getD_eq_getElem?_getD]
    exact this
theorem scan_to {D m : List BA} {i : Nat} {st : Sc} (h : AccTo i st D D.length) : scanX i st (D ++ m) = scanX (i + D.length) (scanX i st D) m := scan_app D m i st h
theorem AccTo.mono {i : Nat} {st : Sc} {D : List BA} {n k : Nat} (h : AccTo i st D n) (hk : k ≤ n) : AccTo i st D k := fun j hj => h j (by omega)
theorem AccTo.app {i : Nat} {st : Sc} {D m : List BA} (h : AccTo i st D D.length) : AccTo i st (D ++ m) D.length := fun k hk => by
  have := h k hk
  rw [List.take_append_of_le_length (by omega), List.getD_eq_getElem?_getD, List.getElem?_append_left hk, ← List.getD_eq_getElem?_getD]
  exact this
theorem acc_stop {b : BA} {i : Nat} {s : Sc} {l : List BA} (h : accX i s.last b = false) : scanX i s (b :: l) = s := by
  show (if accX i s.last b then _ else s) = s
  rw [h]; rfl
theorem acc_nil (i : Nat) (s : Sc) : scanX i s [] = s := rfl
/-- What does not go on behind s. -/
def Halts (i : Nat) (last : Int) (m : List BA) : Prop := m = [] ∨ ∃ b t, m = b :: t ∧ accX i last b = false
theorem Halts.scan {i : Nat} {s : Sc} {m : List BA} (h : Halts i s.last m) : scanX i s m = s := by
  rcases h with rfl | ⟨b, t, rfl, h⟩
  · rfl
  · exact acc_stop h
/-- The first k sectors of a batch, read behind s. -/
theorem bat_part {e : Int} {i : Nat} {l : List BA} {s : Sc} (hb : batOk e i l = true) (hl : s.last ≤ e) : ∀ k, k ≤ npX (strmB l) → AccTo i s (batB e i l) k ∧ (0 < k → Into l s.out (56 * k) (scanX i s ((batB e i l).take k)) ∧ (scanX i s ((batB e i l).take k)).last = e)
  | 0, _ => ⟨fun j hj => absurd hj (Nat.not_lt_zero _), fun h => absurd h (Nat.lt_irrefl _)⟩
  | k + 1, hk => by
    obtain ⟨hs, hok⟩ := batOk_iff.1 hb
    obtain ⟨h1, h2⟩ := bat_part hb hl k (by omega)
    have hx := hok k (by omega)
    have hat := batB_at hb (k := k) (by omega)
    have hlen : k < (batB e i l).length := by rw [batB_length hb]; omega
    have hg : (batB e i l).getD k [] = encX (secX e i (strmB l) k) := by rw [List.getD_eq_getElem?_getD, hat]; rfl
    have hgo : gotX ((batB e i l).getD k []) = secX e i (strmB l) k := by rw [hg, gotX_enc hx]
    have hacc : accX (i + k) (scanX i s ((batB e i l).take k)).last ((batB e i l).getD k []) = true := by
      unfold accX
      rw [hgo, hg, getOkX_enc hx]
      by_cases h0 : k = 0
      · subst h0
        have e0 : scanX i s ((batB e i l).take 0) = s := by simp [scanX]
        rw [e0]
        simp [secX, hl]
      · rw [(h2 (by omega)).2]
        simp [secX]
    refine ⟨fun j hj => ?_, fun _ => ?_⟩
    · by_cases hjk : j < k
      · exact h1 j hjk
      · have : j = k := by omega
        subst this
        exact hacc
    · rw [scan_snoc h1 hlen hacc, hgo]
      refine ⟨?_, rfl⟩
      by_cases h0 : k = 0
      · subst h0
        have e0 : scanX i s ((batB e i l).take 0) = s := by simp [scanX]
        rw [e0]
        exact Into.first hs rfl rfl
      · exact Into.piece hs (h2 (by omega)).1 (by simp [secX, h0]) rfl
theorem feed_next {i : Nat} {s : Sc} {x : Sx} (h : (feedX i s x).out ≠ s.out) : (feedX i s x).next = i + 1 ∧ (feedX i s x).ep = x.ep := by
  unfold feedX at h ⊢
  dsimp only at h ⊢
  rw [if_neg h, if_neg h]
  exact ⟨rfl, rfl⟩
/-- A batch, read behind s. -/
theorem bat_read {e : Int} {i : Nat} {l : List BA} {s : Sc} (hb : batOk e i l = true) (hl : s.last ≤ e) :
    AccTo i s (batB e i l) (batB e i l).length ∧ (scanX i s (batB e i l)).out = s.out ++ l ∧ (scanX i s (batB e i l)).next = i + (batB e i l).length ∧ (scanX i s (batB e i l)).ep = e ∧ (scanX i s (batB e i l)).last = e := by
  obtain ⟨hs, hok⟩ := batOk_iff.1 hb
  have hn := batB_length hb
  have hpos := strm_pos hs
  obtain ⟨n, hnn⟩ : ∃ n, npX (strmB l) = n + 1 := ⟨npX (strmB l) - 1, by unfold npX; omega⟩
  obtain ⟨a1, a2⟩ := bat_part hb hl (n + 1) (by omega)
  obtain ⟨a3, a4⟩ := a2 (by omega)
  have hfull : (batB e i l).take (n + 1) = batB e i l := List.take_of_length_le (by omega)
  rw [hfull] at a3 a4
  obtain ⟨w1, w2'⟩ := a3.whole hs (by unfold npX at hnn; omega)
  obtain ⟨b1, b2⟩ := bat_part hb hl n (by omega)
  have hlen : n < (batB e i l).length := by omega
  have hsn := scan_snoc (D := batB e i l) (i := i) (st := s) b1 hlen (a1 n (by omega))
  rw [hfull] at hsn
  have hx := hok n (by omega)
  have hg : gotX ((batB e i l).getD n []) = secX e i (strmB l) n := by rw [List.getD_eq_getElem?_getD, batB_at hb (by omega)]; exact gotX_enc hx
  rw [hg] at hsn
  have hne : (scanX i s (batB e i l)).out ≠ (scanX i s ((batB e i l).take n)).out := by
    intro heq
    have hln : l ≠ [] := (strmOk_iff.1 hs).1
    by_cases h0 : n = 0
    · subst h0
      have e0 : scanX i s ((batB e i l).take 0) = s := by simp [scanX]
      rw [e0, w1] at heq
      exact hln (by simpa using heq)
    · obtain ⟨⟨_, a, c, q1, q2, q3, _⟩, _⟩ := b2 (by omega)
      rw [w1, q2] at heq
      have ha : a = l := (List.append_cancel_left heq).symm
      rw [ha] at q3
      have hl2 := congrArg List.length q3
      rw [List.length_append, List.length_take] at hl2
      unfold npX at hnn
      omega
  rw [hsn] at hne
  have hfn := feed_next hne
  rw [hn]
  refine ⟨by rw [hnn]; exact a1, w1, ?_, ?_, a4⟩
  · rw [hsn, hfn.1]; omega
  · rw [hsn, hfn.2]; rfl
theorem scan_bat {e : Int} {i : Nat} {l m : List BA} {s : Sc} (hb : batOk e i l = true) (hl : s.last ≤ e) : scanX i s (batB e i l ++ m) = scanX (i + (batB e i l).length) (scanX i s (batB e i l)) m := scan_to (bat_read hb hl).1
/-- Where reading stands when the last record has been read. -/
theorem scan_stand : ∀ (D : List BA) (i : Nat) (st : Sc), ((scanX i st D).out = st.out ∧ (scanX i st D).next = st.next ∧ (scanX i st D).ep = st.ep) ∨
    ∃ k, k < D.length ∧ (scanX i st D).next = i + k + 1 ∧ AccTo i st D (k + 1) ∧ (scanX i st (D.take (k + 1))).out = (scanX i st D).out ∧ (scanX i st (D.take (k + 1))).last = (scanX i st D).ep
  | [], i, st => .inl ⟨rfl, rfl, rfl⟩
  | b :: l, i, st => by
    by_cases ha : accX i st.last b = true
    · have e : ∀ t, scanX i st (b :: t) = scanX (i + 1) (feedX i st (gotX b)) t := fun t => by
        show (if accX i st.last b then _ else _) = _
        rw [if_pos ha]
      rw [e l]
      rcases scan_stand l (i + 1) (feedX i st (gotX b)) with ⟨h1, h2, h3⟩ | ⟨k, h1, h2, h3, h4, h5⟩
      · by_cases ho : (feedX i st (gotX b)).out = st.out
        · left
          refine ⟨h1.trans ho, h2.trans ?_, h3.trans ?_⟩
          · unfold feedX at ho ⊢
            dsimp only at ho ⊢
            rw [if_pos ho]
          · unfold feedX at ho ⊢
            dsimp only at ho ⊢
            rw [if_pos ho]
        · right
          obtain ⟨f1, f2⟩ := feed_next ho
          refine ⟨0, by simp, by rw [h2, f1], fun j hj => ?_, ?_, ?_⟩
          · obtain rfl : j = 0 := by omega
            simpa [scanX] using ha
          · rw [List.take_succ_cons, List.take_zero, e [], h1]; rfl
          · rw [List.take_succ_cons, List.take_zero, e [], h3, f2]; rfl
      · right
        refine ⟨k + 1, by simp; omega, by rw [h2]; omega, fun j hj => ?_, ?_, ?_⟩
        · cases j with
          | zero => simpa [scanX] using ha
          | succ j =>
            rw [List.take_succ_cons, e, List.getD_cons_succ, show i + (j + 1) = i + 1 + j by omega]
            exact h3 j (by omega)
        · rw [List.take_succ_cons, e]; exact h4
        · rw [List.take_succ_cons, e]; exact h5
    · left
      have : scanX i st (b :: l) = st := acc_stop (by simpa using ha)
      rw [this]
      exact ⟨rfl, rfl, rfl⟩
theorem scan_next_le (D : List BA) : (scan D).next ≤ D.length := by
  rcases scan_stand D 0 sc0 with ⟨_, h, _⟩ | ⟨k, h1, h2, _⟩
  · have : (scan D).next = 0 := h
    omega
  · have : (scan D).next = 0 + k + 1 := h2
    omega
/-- Written anew from where it goes on, in a later epoch, it is read whole. -/
theorem scan_anew {D D' again m : List BA} {e : Int} (hD : D' = D.take (scan D).next ++ (batB e (scan D).next again ++ m)) (he : (scan D).ep ≤ e) (hb : batOk e (scan D).next again = true) (hm : Halts ((scan D).next + (batB e (scan D).next again).length) e m) :
    (scan D').out = (scan D).out ++ again ∧ (scan D').next = (scan D).next + (batB e (scan D).next again).length ∧ (scan D').ep = e := by
  rcases scan_stand D 0 sc0 with ⟨h1, h2, h3⟩ | ⟨k, h1, h2, h3, h4, h5⟩
  · have h1' : (scan D).out = [] := h1
    have h2' : (scan D).next = 0 := h2
    have h3' : (scan D).ep = 0 := h3
    rw [h2'] at hD hb hm ⊢
    rw [h3'] at he
    rw [h1']
    rw [List.take_zero, List.nil_append] at hD
    obtain ⟨r1, r2, r3, r4, r5⟩ := bat_read (s := sc0) hb he
    have e1 : scan D' = scanX 0 sc0 (batB e ((0 : Nat) : Int) again) := by
      rw [hD]
      unfold scan
      rw [scan_bat hb he]
      exact Halts.scan (by rw [r5]; exact hm)
    rw [e1]
    exact ⟨by rw [r2]; rfl, by rw [r3], r4⟩
  · have h2' : (scan D).next = k + 1 := by have : (scan D).next = 0 + k + 1 := h2; omega
    have hlk : (D.take (k + 1)).length = k + 1 := by rw [List.length_take]; omega
    have hacc : AccTo 0 sc0 (D.take (k + 1)) (D.take (k + 1)).length := by
      intro j hj
      rw [hlk] at hj
      have := h3 j hj
      rw [List.take_take, Nat.min_eq_left (by omega), List.getD_eq_getElem?_getD, List.getElem?_take, if_pos hj, ← List.getD_eq_getElem?_getD]
      exact this
    obtain ⟨st, hst⟩ : ∃ st, scanX 0 sc0 (D.take (k + 1)) = st := ⟨_, rfl⟩
    rw [hst] at h4 h5
    have h4' : st.out = (scan D).out := h4
    have h5' : st.last = (scan D).ep := h5
    rw [h2'] at hD hb hm ⊢
    obtain ⟨r1, r2, r3, r4, r5⟩ := bat_read (s := st) hb (by rw [h5']; exact he)
    have e1 : scan D' = scanX (k + 1) st (batB e ((k + 1 : Nat) : Int) again) := by
      rw [hD]
      unfold scan
      rw [scan_to hacc, hlk, hst, Nat.zero_add, scan_bat hb (by rw [h5']; exact he)]
      exact Halts.scan (by rw [r5]; exact hm)
    rw [e1]
    exact ⟨by rw [r2, h4'], r3, r4⟩
/-! The laws' own. -/
/-- Sectors that are cut off at the end. -/
theorem scan_cut {e : Int} {l : List BA} (hb : batOk e 0 l = true) (he : 0 ≤ e) (k : Nat) (hk : k ≤ (batB e 0 l).length) : ∃ a c, l = a ++ c ∧ (scan ((batB e 0 l).take k)).out = a ∧ (k = (batB e 0 l).length → a = l) := by
  have hn := batB_length hb
  obtain ⟨a1, a2⟩ := bat_part (i := 0) (s := sc0) hb he k (by omega)
  by_cases h0 : k = 0
  · subst h0
    refine ⟨[], l, rfl, by simp [scan, scanX, sc0], fun h => ?_⟩
    have := strm_pos (batOk_iff.1 hb).1
    unfold npX at hn
    omega
  · obtain ⟨⟨_, a, c, q1, q2, _, _⟩, _⟩ := a2 (by omega)
    refine ⟨a, c, q1, by have : (scan ((batB e 0 l).take k)).out = [] ++ a := q2; simpa using this, fun h => ?_⟩
    have hr := (bat_read (i := 0) (s := sc0) hb he).2.1
    have e1 : (batB e 0 l).take k = batB e 0 l := List.take_of_length_le (by omega)
    rw [show ((0 : Nat) : Int) = 0 from rfl] at *
    rw [e1, hr] at q2
    exact (List.append_cancel_left q2).symm
/-- Older sectors behind. -/
theorem scan_old {a b : Int} {l old : List BA} (hx : batOk a 0 l = true) (ha : 0 ≤ a) (hy : batOk b (batB a 0 l).length old = true) (hab : b < a) : (scan (batB a 0 l ++ batB b (batB a 0 l).length old)).out = l ∧ (scan (batB a 0 l ++ batB b (batB a 0 l).length old)).next = (batB a 0 l).length ∧ (scan (batB a 0 l ++ batB b (batB a 0 l).length old)).ep = a := by
  obtain ⟨r1, r2, r3, r4, r5⟩ := bat_read (i := 0) (s := sc0) hx ha
  rw [show ((0 : Nat) : Int) = 0 from rfl] at *
  obtain ⟨hs, hok⟩ := batOk_iff.1 hy
  have hpos := strm_pos hs
  have hny := batB_length hy
  have h0 : 0 < npX (strmB old) := by unfold npX; omega
  have e1 : scan (batB a 0 l ++ batB b (batB a 0 l).length old) = scanX 0 sc0 (batB a 0 l) := by
    unfold scan
    rw [scan_to r1]
    refine Halts.scan ?_
    rw [r5, Nat.zero_add]
    obtain ⟨y, t, hyt⟩ : ∃ y t, batB b (batB a 0 l).length old = y :: t := by
      cases h : batB b (batB a 0 l).length old with
      | nil => rw [h] at hny; simp at hny; omega
      | cons y t => exact ⟨y, t, rfl⟩
    refine .inr ⟨y, t, hyt, ?_⟩
    have hy0 : y = encX (secX b (batB a 0 l).length (strmB old) 0) := by
      have := batB_at hy h0
      rw [hyt] at this
      simpa using this
    have : (gotX y).ep = b := by rw [hy0, gotX_enc (hok 0 h0)]; rfl
    unfold accX
    rw [this, show decide (a ≤ b) = false from decide_eq_false (by omega)]
    simp
  rw [e1]
  exact ⟨by rw [r2]; rfl, by rw [r3]; omega, r4⟩
/-- They do not stand where they say. -/
theorem scan_off {e : Int} {l m : List BA} {off : Int} (hb : batOk e off l = true) (ho : off ≠ 0) : scan (batB e off l ++ m) = sc0 := by
  obtain ⟨hs, hok⟩ := batOk_iff.1 hb
  have hpos := strm_pos hs
  have hny := batB_length hb
  have h0 : 0 < npX (strmB l) := by unfold npX; omega
  obtain ⟨y, t, hyt⟩ : ∃ y t, batB e off l = y :: t := by
    cases h : batB e off l with
    | nil => rw [h] at hny; simp at hny; omega
    | cons y t => exact ⟨y, t, rfl⟩
  have hy0 : y = encX (secX e off (strmB l) 0) := by
    have := batB_at hb h0
    rw [hyt] at this
    simpa using this
  rw [hyt]
  refine acc_stop ?_
  have : (gotX y).ix = off := by rw [hy0, gotX_enc (hok 0 h0)]; simp [secX]
  unfold accX
  rw [this, show decide (off = ((0 : Nat) : Int)) = false from decide_eq_false ho]
  simp
/-- It begins with a fresh one. -/
theorem scan_begins {x : Sx} {m : List BA} (h : okX x = true) (hf : x.fr = false) : scan (encX x :: m) = sc0 := by
  refine acc_stop ?_
  have hx := okX_iff.1 h
  unfold accX
  rw [gotX_enc h, hf, show decide (x.ep = sc0.last) = false from decide_eq_false (by show x.ep ≠ 0; omega)]
  simp
theorem zeros_none {b : BA} (hb : b = List.replicate 64 0) : getOkX b = false := by
  rw [Bool.eq_false_iff]
  intro h
  have := okX_iff.1 (getOkX_iff.1 h).1
  subst hb
  have e : (readX (List.replicate 64 0)).ep = 0 := rfl
  omega
theorem scan_zeros {z : BA} {m : List BA} (h : getOkX z = false) : scan (z :: m) = sc0 := by
  refine acc_stop ?_
  unfold accX
  rw [h]
  rfl
/-- Batch upon batch. -/
def batsB : List (List BA) → List Int → Nat → List BA
  | [], _, _ => []
  | _ :: _, [], _ => []
  | l :: ls, e :: es, n => batB e n l ++ batsB ls es (n + (batB e n l).length)
theorem scan_bats : ∀ (ls : List (List BA)) (es : List Int) (n : Nat) (s : Sc), ls.length = es.length → (∀ k, k < ls.length → s.last ≤ es.getD k 0) → es.Pairwise (fun a b => a ≤ b) →
    (∀ k, k < ls.length → batOk (es.getD k 0) ((n + (batsB (ls.take k) (es.take k) n).length : Nat) : Int) (ls.getD k []) = true) →
    AccTo n s (batsB ls es n) (batsB ls es n).length ∧ (scanX n s (batsB ls es n)).out = s.out ++ ls.flatten ∧ (0 < ls.length → (scanX n s (batsB ls es n)).next = n + (batsB ls es n).length ∧ (scanX n s (batsB ls es n)).ep = es.getLastD 0 ∧ (scanX n s (batsB ls es n)).last = es.getLastD 0)
  | [], es, n, s, _, _, _, _ => ⟨fun k hk => by simp [batsB] at hk, by simp [batsB, scanX], fun h => by simp at h⟩
  | _ :: _, [], _, _, h, _, _, _ => by simp at h
  | l :: ls, e :: es, n, s, hlen, hle, hp, hok => by
    have hb : batOk e n l = true := by have := hok 0 (by simp); simpa [batsB] using this
    have h0 : s.last ≤ e := by have := hle 0 (by simp); simpa using this
    obtain ⟨r1, r2, r3, r4, r5⟩ := bat_read hb h0
    obtain ⟨st, hst⟩ : ∃ st, scanX n s (batB e n l) = st := ⟨_, rfl⟩
    rw [hst] at r2 r3 r4 r5
    have ih := scan_bats ls es (n + (batB e n l).length) st (by simpa using hlen) (fun k hk => by
      rw [r5]
      have hke : k < es.length := by simp at hlen; omega
      rw [List.getD_eq_getElem?_getD, List.getElem?_eq_getElem hke]
      exact (List.pairwise_cons.1 hp).1 _ (List.getElem_mem hke)) (List.pairwise_cons.1 hp).2 (fun k hk => by
      have := hok (k + 1) (by simp; omega)
      rw [List.take_succ_cons, List.take_succ_cons, List.getD_cons_succ, List.getD_cons_succ] at this
      rw [show n + (batB e n l).length + (batsB (ls.take k) (es.take k) (n + (batB e n l).length)).length = n + (batsB (l :: ls.take k) (e :: es.take k) n).length by rw [show batsB (l :: ls.take k) (e :: es.take k) n = batB e n l ++ batsB (ls.take k) (es.take k) (n + (batB e n l).length) from rfl, List.length_append]; omega]
      exact this)
    obtain ⟨i1, i2, i3⟩ := ih
    have es1 : ∀ m, scanX n s (batB e n l ++ m) = scanX (n + (batB e n l).length) st m := fun m => by rw [scan_to r1, hst]
    show AccTo n s (batB e n l ++ batsB ls es (n + (batB e n l).length)) (batB e n l ++ batsB ls es (n + (batB e n l).length)).length ∧ (scanX n s (batB e n l ++ batsB ls es (n + (batB e n l).length))).out = _ ∧ (0 < (l :: ls).length → (scanX n s (batB e n l ++ batsB ls es (n + (batB e n l).length))).next = n + (batB e n l ++ batsB ls es (n + (batB e n l).length)).length ∧ (scanX n s (batB e n l ++ batsB ls es (n + (batB e n l).length))).ep = _ ∧ (scanX n s (batB e n l ++ batsB ls es (n + (batB e n l).length))).last = _)
    rw [es1]
    refine ⟨fun k hk => ?_, by rw [i2, r2]; simp, fun _ => ?_⟩
    · by_cases hkl : k < (batB e n l).length
      · exact (r1.app (m := batsB ls es (n + (batB e n l).length))) k hkl
      · obtain ⟨j, rfl⟩ : ∃ j, k = (batB e n l).length + j := ⟨k - (batB e n l).length, by omega⟩
        rw [List.length_append] at hk
        rw [List.take_length_add_append, es1, List.getD_eq_getElem?_getD, List.getElem?_append_right (by omega), Nat.add_sub_cancel_left, ← List.getD_eq_getElem?_getD, show n + ((batB e n l).length + j) = n + (batB e n l).length + j by omega]
        exact i1 j (by omega)
    · cases ls with
      | nil =>
        have he0 : es = [] := by simp at hlen; exact hlen
        subst he0
        rw [List.length_append]
        simp only [batsB, List.length_nil, Nat.add_zero]
        exact ⟨r3, r4, r5⟩
      | cons l2 ls2 =>
        obtain ⟨j1, j2, j3⟩ := i3 (by simp)
        cases es with
        | nil => simp at hlen
        | cons e2 es2 =>
          refine ⟨by rw [j1, List.length_append]; omega, ?_, ?_⟩
          · rw [j2]; rfl
          · rw [j3]; rfl
/-! Holes. -/
/-- A sector of no later epoch than q, or none. -/
def Low (q : Int) (b : BA) : Prop := getOkX b = false ∨ (gotX b).ep ≤ q
theorem Low.stop {q e : Int} {b : BA} (h : Low q b) (hq : q < e) (i : Nat) : accX i e b = false := by
  unfold accX
  rcases h with h | h
  · rw [h]; rfl
  · rw [show decide (e ≤ (gotX b).ep) = false from decide_eq_false (by omega)]; simp
theorem halts_low {q e : Int} {i : Nat} {m : List BA} (h : ∀ b ∈ m, Low q b) (hq : q < e) : Halts i e m := by
  cases m with
  | nil => exact .inl rfl
  | cons b t => exact .inr ⟨b, t, rfl, (h b (List.mem_cons_self ..)).stop hq i⟩
theorem low_bat {e i : Int} {l : List BA} : ∀ b ∈ batB e i l, Low e b := by
  intro b hb
  unfold batB at hb
  split at hb
  · rename_i h
    obtain ⟨k, hk, rfl⟩ := List.mem_map.1 hb
    exact .inr (by rw [gotX_enc ((batOk_iff.1 h).2 k (List.mem_range.1 hk))]; exact Int.le_refl _)
  · simp at hb
theorem low_getD {q : Int} {o : List BA} {z : BA} (h : ∀ b ∈ o, Low q b) (hz : Low q z) (t : Nat) : Low q (o.getD t z) := by
  by_cases ht : t < o.length
  · rw [List.getD_eq_getElem?_getD, List.getElem?_eq_getElem ht]; exact h _ (List.getElem_mem ht)
  · rw [List.getD_eq_getElem?_getD, List.getElem?_eq_none (by omega)]; exact hz
theorem Low.mono {p q : Int} {b : BA} (h : Low p b) (hpq : p ≤ q) : Low q b := h.imp id fun h => by omega
/-- A disk: a ahead; of b what was kept, over o, over zeros. -/
def diskX (a o b : List BA) (keep : Nat → Bool) (z : BA) (N : Nat) : List BA := (List.range N).map fun j => if j < a.length then a.getD j z else if j - a.length < b.length ∧ keep (j - a.length) = true then b.getD (j - a.length) z else o.getD (j - a.length) z
theorem disk_length (a o b : List BA) (keep : Nat → Bool) (z : BA) (N : Nat) : (diskX a o b keep z N).length = N := by simp [diskX]
theorem disk_at (a o b : List BA) (keep : Nat → Bool) (z : BA) (N : Nat) {j : Nat} (h : j < N) : (diskX a o b keep z N)[j]? = some (if j < a.length then a.getD j z else if j - a.length < b.length ∧ keep (j - a.length) = true then b.getD (j - a.length) z else o.getD (j - a.length) z) := by
  simp [diskX, h]
theorem disk_low {a o b : List BA} {keep : Nat → Bool} {z : BA} {N : Nat} {q : Int} (ha : ∀ x ∈ a, Low q x) (ho : ∀ x ∈ o, Low q x) (hb : ∀ x ∈ b, Low q x) (hz : Low q z) : ∀ x ∈ diskX a o b keep z N, Low q x := by
  intro x hx
  obtain ⟨j, _, rfl⟩ := List.mem_map.1 hx
  split
  · exact low_getD ha hz _
  · split
    · exact low_getD hb hz _
    · exact low_getD ho hz _
theorem disk_split {a o b : List BA} {keep : Nat → Bool} {z : BA} {N first : Nat} (hN : a.length + first ≤ N) (hf : first ≤ b.length) (hk : ∀ t, t < first → keep t = true) : diskX a o b keep z N = a ++ (b.take first ++ (diskX a o b keep z N).drop (a.length + first)) := by
  refine List.ext_getElem? fun j => ?_
  by_cases h1 : j < a.length
  · rw [disk_at _ _ _ _ _ _ (by omega), if_pos h1, List.getElem?_append_left h1, List.getD_eq_getElem?_getD, List.getElem?_eq_getElem h1]; rfl
  · rw [List.getElem?_append_right (by omega)]
    by_cases h2 : j - a.length < first
    · rw [disk_at _ _ _ _ _ _ (by omega), if_neg h1, if_pos ⟨by omega, hk _ h2⟩, List.getElem?_append_left (by rw [List.length_take]; omega), List.getElem?_take, if_pos h2, List.getD_eq_getElem?_getD, List.getElem?_eq_getElem (by omega)]; rfl
    · rw [List.getElem?_append_right (by rw [List.length_take]; omega), List.length_take, List.getElem?_drop]
      congr 1
      omega
theorem scan_ep {D : List BA} {q : Int} (h : ∀ b ∈ D, Low q b) (hq : 0 ≤ q) : 0 ≤ (scan D).ep ∧ (scan D).ep ≤ q := by
  rcases scan_stand D 0 sc0 with ⟨_, _, h3⟩ | ⟨k, h1, _, h3, _, h5⟩
  · have : (scan D).ep = 0 := h3
    omega
  · have ha := h3 k (by omega)
    have hs := scan_snoc (h3.mono (Nat.le_succ k)) h1 ha
    have he : (scan D).ep = (gotX (D.getD k [])).ep := by
      show (scanX 0 sc0 D).ep = _
      rw [← h5, hs]; rfl
    have hm : D.getD k [] ∈ D := by rw [List.getD_eq_getElem?_getD, List.getElem?_eq_getElem h1]; exact List.getElem_mem h1
    have hg : getOkX (D.getD k []) = true := by
      unfold accX at ha
      simp only [Bool.and_eq_true] at ha
      exact ha.1
    have hx : okX (gotX (D.getD k [])) = true := by
      unfold gotX
      rw [hg, if_pos rfl]
      exact (getOkX_iff.1 hg).1
    have := okX_iff.1 hx
    rcases h _ hm with hl | hl
    · rw [hl] at hg; cases hg
    · omega
theorem take_acc {i : Nat} {st : Sc} {D : List BA} {n : Nat} (h : AccTo i st D n) (hn : n ≤ D.length) : AccTo i st (D.take n) (D.take n).length := by
  intro j hj
  rw [List.length_take, Nat.min_eq_left hn] at hj
  have := h j hj
  rw [List.take_take, Nat.min_eq_left (by omega), List.getD_eq_getElem?_getD, List.getElem?_take, if_pos hj, ← List.getD_eq_getElem?_getD]
  exact this
/-- Of a batch with holes, over an older one, the first records are read. -/
theorem scan_holes {ahead old l : List BA} {keep : Nat → Bool} {z : BA} {N first : Nat} (h1 : batOk 1 0 ahead = true) (h3 : batOk 3 ((batB 1 0 ahead).length : Nat) l = true) (hz : Low 2 z)
    (hN : (batB 1 0 ahead).length + (batB 3 ((batB 1 0 ahead).length : Nat) l).length ≤ N) (hf : first ≤ (batB 3 ((batB 1 0 ahead).length : Nat) l).length) (hk : ∀ t, t < first → keep t = true) (hno : first < (batB 3 ((batB 1 0 ahead).length : Nat) l).length → keep first = false) :
    (∃ m, (scan (diskX (batB 1 0 ahead) (batB 2 ((batB 1 0 ahead).length : Nat) old) (batB 3 ((batB 1 0 ahead).length : Nat) l) keep z N)).out = ahead ++ m) ∧
    (0 < first → ∃ u c, l = u ++ c ∧ (scan (diskX (batB 1 0 ahead) (batB 2 ((batB 1 0 ahead).length : Nat) old) (batB 3 ((batB 1 0 ahead).length : Nat) l) keep z N)).out = ahead ++ u ∧ (first = (batB 3 ((batB 1 0 ahead).length : Nat) l).length → u = l)) := by
  obtain ⟨r1, r2, r3, r4, r5⟩ := bat_read (i := 0) (s := sc0) h1 (by decide)
  rw [show ((0 : Nat) : Int) = 0 from rfl] at r1 r2 r3 r4 r5
  generalize ho : batB 2 ((batB 1 0 ahead).length : Nat) old = o at *
  have hol : ∀ x ∈ o, Low 2 x := by rw [← ho]; exact low_bat
  obtain ⟨A, hA⟩ : ∃ A, scanX 0 sc0 (batB 1 0 ahead) = A := ⟨_, rfl⟩
  rw [hA] at r2 r3 r4 r5
  obtain ⟨a, ha⟩ : ∃ a, batB 1 0 ahead = a := ⟨_, rfl⟩
  rw [ha] at r1 hA h3 hN hf hno ⊢
  have hs := disk_split (a := a) (o := o) (b := batB 3 (a.length : Nat) l) (keep := keep) (z := z) (N := N) (first := first) (by omega) hf hk
  have hsc : scan (diskX a o (batB 3 (a.length : Nat) l) keep z N) = scanX a.length A ((batB 3 (a.length : Nat) l).take first ++ (diskX a o (batB 3 (a.length : Nat) l) keep z N).drop (a.length + first)) := by
    rw [hs]
    unfold scan
    rw [scan_to r1, hA, Nat.zero_add, ← hs]
  rw [hsc]
  constructor
  · obtain ⟨m, hm⟩ := scan_adds ((batB 3 (a.length : Nat) l).take first ++ (diskX a o (batB 3 (a.length : Nat) l) keep z N).drop (a.length + first)) a.length A
    exact ⟨m, by rw [hm, r2]; rfl⟩
  · intro h0
    have hn := batB_length h3
    obtain ⟨p1, p2⟩ := bat_part (s := A) h3 (by rw [r5]; decide) first (by omega)
    obtain ⟨p3, p4⟩ := p2 h0
    obtain ⟨_, u, c, q1, q2, _, _⟩ := id p3
    rw [scan_to (take_acc p1 hf)]
    have hh : Halts (a.length + ((batB 3 (a.length : Nat) l).take first).length) (scanX a.length A ((batB 3 (a.length : Nat) l).take first)).last ((diskX a o (batB 3 (a.length : Nat) l) keep z N).drop (a.length + first)) := by
      rw [p4]
      cases hd : (diskX a o (batB 3 (a.length : Nat) l) keep z N).drop (a.length + first) with
      | nil => exact .inl rfl
      | cons y t =>
        refine .inr ⟨y, t, rfl, ?_⟩
        have hlt : a.length + first < N := by
          have := congrArg List.length hd
          rw [List.length_drop, disk_length] at this
          simp at this
          omega
        have hy : y = o.getD first z := by
          have e := congrArg (fun l => l[0]?) hd
          simp only [List.getElem?_drop, List.getElem?_cons_zero, Nat.add_zero] at e
          rw [disk_at _ _ _ _ _ _ hlt, if_neg (by omega), Nat.add_sub_cancel_left] at e
          by_cases hfb : first < (batB 3 (a.length : Nat) l).length
          · rw [if_neg (by rw [hno hfb]; simp)] at e
            exact (by simpa using e.symm)
          · rw [if_neg (by omega)] at e
            exact (by simpa using e.symm)
        rw [hy]
        exact (low_getD hol hz first).stop (by decide) _
    rw [hh.scan]
    refine ⟨u, c, q1, by rw [q2, r2]; rfl, fun hfull => ?_⟩
    have e : (batB 3 (a.length : Nat) l).take first = batB 3 (a.length : Nat) l := List.take_of_length_le (by omega)
    have hr := (bat_read (s := A) h3 (by rw [r5]; decide)).2.1
    rw [e, hr] at q2
    exact (List.append_cancel_left q2).symm
/-- Written anew behind what is read. -/
theorem scan_holes2 {D again : List BA} {q : Int} (hD : ∀ b ∈ D, Low q b) (hq : 0 ≤ q) (hq9 : q < 9) (hb : batOk ((scan D).ep + 9) (scan D).next again = true) :
    (scan (D.take (scan D).next ++ (batB ((scan D).ep + 9) (scan D).next again ++ D.drop ((scan D).next + (batB ((scan D).ep + 9) (scan D).next again).length)))).out = (scan D).out ++ again ∧
    (scan (D.take (scan D).next ++ (batB ((scan D).ep + 9) (scan D).next again ++ D.drop ((scan D).next + (batB ((scan D).ep + 9) (scan D).next again).length)))).next = (scan D).next + (batB ((scan D).ep + 9) (scan D).next again).length ∧
    (scan (D.take (scan D).next ++ (batB ((scan D).ep + 9) (scan D).next again ++ D.drop ((scan D).next + (batB ((scan D).ep + 9) (scan D).next again).length)))).ep = (scan D).ep + 9 := by
  have he := scan_ep hD hq
  exact scan_anew rfl (by omega) hb (halts_low (fun b hb => hD b (List.mem_of_mem_drop hb)) (by omega))
end Go.Proofs.YtnjggoeahaglbaaGreat.Fr
