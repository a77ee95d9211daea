/- The plain mathematics of chapter 12: numbers and texts as bytes and back; records, which may be, as bytes, and back. -/
import Derived.Below
import Derived.OwnWalk
import Derived.Laws.OwnMore
import Derived.Laws.BytesArg
import Derived.Lib.AppendStr
import Derived.Laws.IdiomStrings
import Derived.Laws.BitsAllLaws
import Derived.Test.YtnjggoeahaglbaaGreatRows
import Derived.Lib.Hide
import Derived.WalkKit
import Derived.ProofKit
import Derived.OpenShut
import Derived.ShutString
import Derived.LoopTactic
import Derived.Outline
import Derived.WalkLawsBesides
import Derived.WalkSpells
import Derived.Deep.QuietTactic
import Derived.BigQuiet
import Derived.Laws.Entries
import Derived.IntWalk
import Derived.Lib.Strings
import Derived.Test.YtnjggoeahaglbaaGreatChecked
import Derived.Deep.RegionHeld3
import Derived.Deep.RegionLaw
namespace Go.Proofs.YtnjggoeahaglbaaGreat.Rc
open Go.RowKit
set_option linter.unusedVariables false
abbrev BA := List UInt8
/-- The least byte of a number. -/
def byte (v : Int) : UInt8 := UInt8.ofNat v.toNat
/-- A number in two bytes, in four. -/
def w2 (v : Int) : BA := [byte (v / 256), byte v]
def w4 (v : Int) : BA := w2 (v / 65536) ++ w2 (v % 65536)
/-- Bytes as cells. -/
def bcs (l : BA) : List Value := l.map fun b => Value.int .u8 (b.toNat : Int)
/-- Bytes as a string. -/
def str (l : BA) : ByteArray := ⟨l.toArray⟩
/-- The number that bytes are. -/
def num (l : BA) : Nat := l.foldl (fun a b => a * 256 + b.toNat) 0
theorem str_size (l : BA) : (str l).size = l.length := rfl
theorem str_data (s : ByteArray) : str s.data.toList = s := rfl
theorem data_str (l : BA) : (str l).data.toList = l := rfl
theorem size_data (s : ByteArray) : s.data.toList.length = s.size := rfl
theorem w2_length (v : Int) : (w2 v).length = 2 := rfl
theorem w4_length (v : Int) : (w4 v).length = 4 := rfl
theorem byte_toNat (v : Int) (h : 0 ≤ v) : ((byte v).toNat : Int) = v % 256 := by
  unfold byte; simp; omega
theorem bcs_append (l m : BA) : bcs (l ++ m) = bcs l ++ bcs m := by simp [bcs]
theorem bcs_length (l : BA) : (bcs l).length = l.length := by simp [bcs]
theorem bcs_one (v : Int) (h : 0 ≤ v) : bcs [byte v] = [.int .u8 (v % 256)] := by simp [bcs, byte_toNat v h]
theorem byte_mod (v : Int) (h : 0 ≤ v) : byte (v % 256) = byte v := by
  unfold byte
  apply UInt8.toNat_inj.1
  simp; omega
theorem num_snoc (l : BA) (b : UInt8) : num (l ++ [b]) = num l * 256 + b.toNat := by simp [num]
theorem num_nil : num [] = 0 := rfl
theorem num_lt (l : BA) (h : l.length ≤ 4) : num l < 256 ^ l.length := by
  have hb : ∀ b : UInt8, b.toNat < 256 := fun b => b.toNat_lt
  match l, h with
  | [], _ => simp [num]
  | [a], _ => simp [num]; exact hb a
  | [a, b], _ => have := hb a; have := hb b; simp [num]; omega
  | [a, b, c], _ => have := hb a; have := hb b; have := hb c; simp [num]; omega
  | [a, b, c, d], _ => have := hb a; have := hb b; have := hb c; have := hb d; simp [num]; omega
theorem num_w2 (v : Int) (h0 : 0 ≤ v) (h1 : v ≤ 65535) : (num (w2 v) : Int) = v := by
  have ha := byte_toNat (v / 256) (by omega)
  have hb := byte_toNat v h0
  simp [num, w2]; omega
theorem num_w4 (v : Int) (h0 : 0 ≤ v) (h1 : v ≤ 4294967295) : (num (w4 v) : Int) = v := by
  have ha := byte_toNat (v / 65536 / 256) (by omega)
  have hb := byte_toNat (v / 65536) (by omega)
  have hc := byte_toNat (v % 65536 / 256) (by omega)
  have hd := byte_toNat (v % 65536) (by omega)
  simp [num, w4, w2]; omega
theorem mask8 (v : Int) (h0 : 0 ≤ v) (h1 : v < 4294967296) : bits .and .u32 v 255 = v % 256 := by
  obtain ⟨n, rfl⟩ := Int.eq_ofNat_of_zero_le h0
  rw [show (255 : Int) = ((255 : Nat) : Int) from rfl, u32_and_nat n 255 (by omega) (by omega), show (255 : Nat) = 2 ^ 8 - 1 from rfl, Nat.and_two_pow_sub_one_eq_mod]
  omega
theorem mask16 (v : Int) (h0 : 0 ≤ v) (h1 : v < 4294967296) : bits .and .u32 v 65535 = v % 65536 := by
  obtain ⟨n, rfl⟩ := Int.eq_ofNat_of_zero_le h0
  rw [show (65535 : Int) = ((65535 : Nat) : Int) from rfl, u32_and_nat n 65535 (by omega) (by omega), show (65535 : Nat) = 2 ^ 16 - 1 from rfl, Nat.and_two_pow_sub_one_eq_mod]
  omega
/-! The things that a record has. -/
structure Cl where
  k : ByteArray
  v : ByteArray
  b : Int
  z : Int
structure Pt where
  pg : Int
  ofs : Int
  bs : ByteArray
structure Tx where
  id : Int
  last : Int
  com : Bool
  pages : List Int
structure Dy where
  page : Int
  lsn : Int
structure Rc where
  kind : Int
  tx : Int
  prev : Int
  next : Int
  key : ByteArray
  had : Bool
  old : Cl
  pages : List Int
  pts : List Pt
  txs : List Tx
  dys : List Dy
def nilC : Cl := ⟨⟨#[]⟩, ⟨#[]⟩, 0, 0⟩
def nilP : Pt := ⟨0, 0, ⟨#[]⟩⟩
def nilT : Tx := ⟨0, 0, false, []⟩
def nilD : Dy := ⟨0, 0⟩
def nilR : Rc := ⟨0, 0, 0, 0, ⟨#[]⟩, false, nilC, [], [], [], []⟩
/-! Which may be. -/
def two (v : Int) : Bool := decide (0 ≤ v ∧ v ≤ 65535)
def four (v : Int) : Bool := decide (0 ≤ v ∧ v ≤ 4294967295)
def rightK (v : Int) : Bool := decide (1 ≤ v ∧ v ≤ 7)
def rightP (p : Pt) : Bool := decide (0 ≤ p.pg ∧ p.pg < 64 ∧ 0 ≤ p.ofs ∧ 0 < p.bs.size ∧ p.ofs + p.bs.size ≤ 256)
def rightC (c : Cl) : Bool := decide (1 ≤ c.k.size ∧ c.k.size ≤ 16) && (if c.b = 0 then decide (c.v.size ≤ 40 ∧ c.z = 0) else decide (2 ≤ c.b ∧ c.b ≤ 63 ∧ c.v.size = 0 ∧ 41 ≤ c.z ∧ c.z ≤ 400))
def zeroC (c : Cl) : Bool := decide (c.k.size = 0 ∧ c.v.size = 0 ∧ c.b = 0 ∧ c.z = 0)
def rightO (c : Cl) : Bool := zeroC c || rightC c
/-- So many at most, each of them right. -/
def everyB {α : Type} (l : List α) (m : Nat) (p : α → Bool) : Bool := decide (l.length ≤ m) && l.all p
def rightPs (l : List Int) : Bool := everyB l 64 two
def rightT (t : Tx) : Bool := two t.id && (four t.last && rightPs t.pages)
def rightD (d : Dy) : Bool := two d.page && four d.lsn
def rightR (r : Rc) : Bool := rightK r.kind && (two r.tx && (four r.prev && (four r.next && (decide (r.key.size ≤ 255) && (rightO r.old && (rightPs r.pages && (everyB r.pts 40 rightP && (everyB r.txs 8 rightT && everyB r.dys 64 rightD))))))))
/-! As bytes. -/
def encS (s : ByteArray) : BA := w2 s.size ++ s.data.toList
def encF (b : Bool) : BA := w2 (if b then 1 else 0)
def encL {α : Type} (f : α → BA) (l : List α) : BA := w2 l.length ++ l.flatMap f
def encP (p : Pt) : BA := w2 p.pg ++ (w2 p.ofs ++ encS p.bs)
def encT (t : Tx) : BA := w2 t.id ++ (w4 t.last ++ (encF t.com ++ encL w2 t.pages))
def encD (d : Dy) : BA := w2 d.page ++ w4 d.lsn
def encC (c : Cl) : BA := encS c.k ++ (encS c.v ++ (w2 c.b ++ w2 c.z))
def encR (r : Rc) : BA := w2 r.kind ++ (w2 r.tx ++ (w4 r.prev ++ (w4 r.next ++ (encS r.key ++ (encF r.had ++ (encC r.old ++ (encL w2 r.pages ++ (encL encP r.pts ++ (encL encT r.txs ++ encL encD r.dys)))))))))
def putS (r : Rc) : BA := if rightR r then encR r else []
/-! A reader: what is left, and whether it is good. -/
abbrev RS := BA × Bool
def takeR (n : Nat) (s : RS) : BA × RS := if s.2 then (if n ≤ s.1.length then (s.1.take n, (s.1.drop n, true)) else ([], ([], false))) else ([], s)
def numR (s : RS) : Int × RS := ((num (takeR 2 s).1 : Int), (takeR 2 s).2)
def longR (s : RS) : Int × RS := ((num (takeR 4 s).1 : Int), (takeR 4 s).2)
def textR (s : RS) : ByteArray × RS := (str (takeR (numR s).1.toNat (numR s).2).1, (takeR (numR s).1.toNat (numR s).2).2)
def flagR (s : RS) : Bool × RS := (decide ((numR s).1 = 1), (numR s).2)
def listN {α : Type} (f : RS → α × RS) : Nat → RS → List α × RS
  | 0, s => ([], s)
  | n + 1, s => ((listN f n s).1 ++ [(f (listN f n s).2).1], (f (listN f n s).2).2)
def listR {α : Type} (f : RS → α × RS) (m : Nat) (s : RS) : List α × RS := listN f (min (numR s).1 (m : Int)).toNat (numR s).2
def pagesR (s : RS) : List Int × RS := listR numR 64 s
def ptR (s : RS) : Pt × RS := (⟨(numR s).1, (numR (numR s).2).1, (textR (numR (numR s).2).2).1⟩, (textR (numR (numR s).2).2).2)
def txR1 (s : RS) : RS := (longR (numR s).2).2
def txR (s : RS) : Tx × RS := (⟨(numR s).1, (longR (numR s).2).1, (flagR (txR1 s)).1, (pagesR (flagR (txR1 s)).2).1⟩, (pagesR (flagR (txR1 s)).2).2)
def dyR (s : RS) : Dy × RS := (⟨(numR s).1, (longR (numR s).2).1⟩, (longR (numR s).2).2)
def clR2 (s : RS) : RS := (textR (textR s).2).2
def clR (s : RS) : Cl × RS := (⟨(textR s).1, (textR (textR s).2).1, (numR (clR2 s)).1, (numR (numR (clR2 s)).2).1⟩, (numR (numR (clR2 s)).2).2)
def s1 (s : RS) : RS := (numR s).2
def s2 (s : RS) : RS := (numR (s1 s)).2
def s3 (s : RS) : RS := (longR (s2 s)).2
def s4 (s : RS) : RS := (longR (s3 s)).2
def s5 (s : RS) : RS := (textR (s4 s)).2
def s6 (s : RS) : RS := (flagR (s5 s)).2
def s7 (s : RS) : RS := (clR (s6 s)).2
def s8 (s : RS) : RS := (pagesR (s7 s)).2
def s9 (s : RS) : RS := (listR ptR 40 (s8 s)).2
def s10 (s : RS) : RS := (listR txR 8 (s9 s)).2
def recR (s : RS) : Rc × RS := (⟨(numR s).1, (numR (s1 s)).1, (longR (s2 s)).1, (longR (s3 s)).1, (textR (s4 s)).1, (flagR (s5 s)).1, (clR (s6 s)).1, (pagesR (s7 s)).1, (listR ptR 40 (s8 s)).1, (listR txR 8 (s9 s)).1, (listR dyR 64 (s10 s)).1⟩, (listR dyR 64 (s10 s)).2)
/-- What b is read as. -/
def readR (b : BA) : Rc := (recR (b, true)).1
/-- Is it a record's? -/
def getOk (b : BA) : Bool := rightR (readR b) && decide (encR (readR b) = b)
/-! There and back. -/
theorem takeR_ok (l t : BA) : takeR l.length (l ++ t, true) = (l, (t, true)) := by simp [takeR]
theorem two_iff {v : Int} : two v = true ↔ 0 ≤ v ∧ v ≤ 65535 := by simp [two]
theorem four_iff {v : Int} : four v = true ↔ 0 ≤ v ∧ v ≤ 4294967295 := by simp [four]
theorem numR_ok {v : Int} (h : two v = true) (t : BA) : numR (w2 v ++ t, true) = (v, (t, true)) := by
  obtain ⟨h0, h1⟩ := two_iff.1 h
  have e : takeR 2 (w2 v ++ t, true) = (w2 v, (t, true)) := takeR_ok (w2 v) t
  unfold numR
  rw [e, num_w2 v h0 h1]
theorem longR_ok {v : Int} (h : four v = true) (t : BA) : longR (w4 v ++ t, true) = (v, (t, true)) := by
  obtain ⟨h0, h1⟩ := four_iff.1 h
  have e : takeR 4 (w4 v ++ t, true) = (w4 v, (t, true)) := takeR_ok (w4 v) t
  unfold longR
  rw [e, num_w4 v h0 h1]
theorem two_nat {n : Nat} (h : n ≤ 65535) : two (n : Int) = true := two_iff.2 ⟨by omega, by omega⟩
theorem textR_ok {s : ByteArray} (h : s.size ≤ 65535) (t : BA) : textR (encS s ++ t, true) = (s, (t, true)) := by
  unfold textR encS
  rw [List.append_assoc, numR_ok (two_nat h), Int.toNat_natCast, ← size_data, takeR_ok]
  rfl
theorem flagR_ok (b : Bool) (t : BA) : flagR (encF b ++ t, true) = (b, (t, true)) := by
  unfold flagR encF
  rw [numR_ok (by cases b <;> rfl)]
  cases b <;> rfl
theorem listN_ok {α : Type} {f : RS → α × RS} {enc : α → BA} {l : List α} (h : ∀ x ∈ l, ∀ t, f (enc x ++ t, true) = (x, (t, true))) (t : BA) :
    ∀ k, k ≤ l.length → listN f k (l.flatMap enc ++ t, true) = (l.take k, ((l.drop k).flatMap enc ++ t, true))
  | 0, _ => by simp [listN]
  | k + 1, hk => by
    have ih := listN_ok h t k (by omega)
    have hlt : k < l.length := by omega
    unfold listN
    rw [ih]
    rw [List.drop_eq_getElem_cons hlt, List.flatMap_cons, List.append_assoc, h _ (List.getElem_mem hlt), List.take_succ_eq_append_getElem hlt]
theorem listR_ok {α : Type} {f : RS → α × RS} {enc : α → BA} {l : List α} {m : Nat} (hl : l.length ≤ m) (hm : m ≤ 65535) (h : ∀ x ∈ l, ∀ t, f (enc x ++ t, true) = (x, (t, true))) (t : BA) :
    listR f m (encL enc l ++ t, true) = (l, (t, true)) := by
  unfold listR encL
  rw [List.append_assoc, numR_ok (two_nat (by omega))]
  have e : (min ((l.length : Nat) : Int) (m : Int)).toNat = l.length := by omega
  simp only [e]
  rw [listN_ok h t l.length (Nat.le_refl _)]
  simp
theorem everyB_iff {α : Type} {l : List α} {m : Nat} {p : α → Bool} : everyB l m p = true ↔ l.length ≤ m ∧ ∀ x ∈ l, p x = true := by
  unfold everyB
  rw [Bool.and_eq_true, decide_eq_true_eq, List.all_eq_true]
theorem pagesR_ok {l : List Int} (h : rightPs l = true) (t : BA) : pagesR (encL w2 l ++ t, true) = (l, (t, true)) := by
  obtain ⟨h1, h2⟩ := everyB_iff.1 h
  exact listR_ok h1 (by omega) (fun x hx t => numR_ok (h2 x hx) t) t
theorem rightP_iff {p : Pt} : rightP p = true ↔ 0 ≤ p.pg ∧ p.pg < 64 ∧ 0 ≤ p.ofs ∧ 0 < p.bs.size ∧ p.ofs + p.bs.size ≤ 256 := by simp [rightP]
theorem ptR_ok {p : Pt} (h : rightP p = true) (t : BA) : ptR (encP p ++ t, true) = (p, (t, true)) := by
  obtain ⟨h1, h2, h3, h4, h5⟩ := rightP_iff.1 h
  unfold ptR encP
  rw [List.append_assoc, numR_ok (two_iff.2 ⟨h1, by omega⟩), List.append_assoc]
  simp only
  rw [numR_ok (two_iff.2 ⟨h3, by omega⟩)]
  simp only
  rw [textR_ok (by omega)]
theorem rightT_iff {t : Tx} : rightT t = true ↔ two t.id = true ∧ four t.last = true ∧ rightPs t.pages = true := by
  unfold rightT
  rw [Bool.and_eq_true, Bool.and_eq_true]
theorem txR_ok {x : Tx} (h : rightT x = true) (t : BA) : txR (encT x ++ t, true) = (x, (t, true)) := by
  obtain ⟨h1, h2, h3⟩ := rightT_iff.1 h
  unfold txR txR1 encT
  rw [List.append_assoc, numR_ok h1, List.append_assoc]
  simp only
  rw [longR_ok h2, List.append_assoc]
  simp only
  rw [flagR_ok]
  simp only
  rw [pagesR_ok h3]
theorem rightD_iff {d : Dy} : rightD d = true ↔ two d.page = true ∧ four d.lsn = true := by
  unfold rightD
  rw [Bool.and_eq_true]
theorem dyR_ok {x : Dy} (h : rightD x = true) (t : BA) : dyR (encD x ++ t, true) = (x, (t, true)) := by
  obtain ⟨h1, h2⟩ := rightD_iff.1 h
  unfold dyR encD
  rw [List.append_assoc, numR_ok h1]
  simp only
  rw [longR_ok h2]
/-- A cell that may stand in a record has numbers of two bytes, and short texts. -/
theorem rightO_in {c : Cl} (h : rightO c = true) : c.k.size ≤ 16 ∧ c.v.size ≤ 40 ∧ two c.b = true ∧ two c.z = true := by
  unfold rightO at h
  rw [Bool.or_eq_true] at h
  rcases h with h | h
  · simp only [zeroC, decide_eq_true_eq] at h
    exact ⟨by omega, by omega, two_iff.2 (by omega), two_iff.2 (by omega)⟩
  · unfold rightC at h
    rw [Bool.and_eq_true, decide_eq_true_eq] at h
    obtain ⟨h1, h2⟩ := h
    by_cases e : c.b = 0
    · rw [if_pos e, decide_eq_true_eq] at h2
      exact ⟨by omega, by omega, two_iff.2 (by omega), two_iff.2 (by omega)⟩
    · rw [if_neg e, decide_eq_true_eq] at h2
      exact ⟨by omega, by omega, two_iff.2 (by omega), two_iff.2 (by omega)⟩
theorem clR_ok {c : Cl} (h : rightO c = true) (t : BA) : clR (encC c ++ t, true) = (c, (t, true)) := by
  obtain ⟨h1, h2, h3, h4⟩ := rightO_in h
  unfold clR clR2 encC
  rw [List.append_assoc, textR_ok (by omega), List.append_assoc]
  simp only
  rw [textR_ok (by omega), List.append_assoc]
  simp only
  rw [numR_ok h3]
  simp only
  rw [numR_ok h4]
structure RightR (r : Rc) : Prop where
  kind : 1 ≤ r.kind ∧ r.kind ≤ 7
  tx : two r.tx = true
  prev : four r.prev = true
  next : four r.next = true
  key : r.key.size ≤ 255
  old : rightO r.old = true
  pages : rightPs r.pages = true
  pts : everyB r.pts 40 rightP = true
  txs : everyB r.txs 8 rightT = true
  dys : everyB r.dys 64 rightD = true
theorem rightR_iff {r : Rc} : rightR r = true ↔ RightR r := by
  unfold rightR rightK
  simp only [Bool.and_eq_true, decide_eq_true_eq]
  exact ⟨fun ⟨a, b, c, d, e, f, g, h, i, j⟩ => ⟨a, b, c, d, e, f, g, h, i, j⟩, fun ⟨a, b, c, d, e, f, g, h, i, j⟩ => ⟨a, b, c, d, e, f, g, h, i, j⟩⟩
theorem recR_ok {r : Rc} (h : RightR r) (t : BA) : recR (encR r ++ t, true) = (r, (t, true)) := by
  have a0 := numR_ok (v := r.kind) (two_iff.2 ⟨by have := h.kind; omega, by have := h.kind; omega⟩)
  obtain ⟨p1, p2⟩ := everyB_iff.1 h.pts
  obtain ⟨t1, t2⟩ := everyB_iff.1 h.txs
  obtain ⟨d1, d2⟩ := everyB_iff.1 h.dys
  have e1 : s1 (encR r ++ t, true) = (w2 r.tx ++ (w4 r.prev ++ (w4 r.next ++ (encS r.key ++ (encF r.had ++ (encC r.old ++ (encL w2 r.pages ++ (encL encP r.pts ++ (encL encT r.txs ++ (encL encD r.dys ++ t))))))))), true) := by
    unfold s1 encR
    simp only [List.append_assoc]
    rw [a0]
  have e0 : (numR (encR r ++ t, true)).1 = r.kind := by
    unfold encR
    rw [List.append_assoc, a0]
  have e2 : s2 (encR r ++ t, true) = (w4 r.prev ++ (w4 r.next ++ (encS r.key ++ (encF r.had ++ (encC r.old ++ (encL w2 r.pages ++ (encL encP r.pts ++ (encL encT r.txs ++ (encL encD r.dys ++ t)))))))), true) := by unfold s2; rw [e1, numR_ok h.tx]
  have e3 : s3 (encR r ++ t, true) = (w4 r.next ++ (encS r.key ++ (encF r.had ++ (encC r.old ++ (encL w2 r.pages ++ (encL encP r.pts ++ (encL encT r.txs ++ (encL encD r.dys ++ t))))))), true) := by unfold s3; rw [e2, longR_ok h.prev]
  have e4 : s4 (encR r ++ t, true) = (encS r.key ++ (encF r.had ++ (encC r.old ++ (encL w2 r.pages ++ (encL encP r.pts ++ (encL encT r.txs ++ (encL encD r.dys ++ t)))))), true) := by unfold s4; rw [e3, longR_ok h.next]
  have e5 : s5 (encR r ++ t, true) = (encF r.had ++ (encC r.old ++ (encL w2 r.pages ++ (encL encP r.pts ++ (encL encT r.txs ++ (encL encD r.dys ++ t))))), true) := by unfold s5; rw [e4, textR_ok (by have := h.key; omega)]
  have e6 : s6 (encR r ++ t, true) = (encC r.old ++ (encL w2 r.pages ++ (encL encP r.pts ++ (encL encT r.txs ++ (encL encD r.dys ++ t)))), true) := by unfold s6; rw [e5, flagR_ok]
  have e7 : s7 (encR r ++ t, true) = (encL w2 r.pages ++ (encL encP r.pts ++ (encL encT r.txs ++ (encL encD r.dys ++ t))), true) := by unfold s7; rw [e6, clR_ok h.old]
  have e8 : s8 (encR r ++ t, true) = (encL encP r.pts ++ (encL encT r.txs ++ (encL encD r.dys ++ t)), true) := by unfold s8; rw [e7, pagesR_ok h.pages]
  have e9 : s9 (encR r ++ t, true) = (encL encT r.txs ++ (encL encD r.dys ++ t), true) := by unfold s9; rw [e8, listR_ok p1 (by omega) (fun x hx t => ptR_ok (p2 x hx) t)]
  have e10 : s10 (encR r ++ t, true) = (encL encD r.dys ++ t, true) := by unfold s10; rw [e9, listR_ok t1 (by omega) (fun x hx t => txR_ok (t2 x hx) t)]
  unfold recR
  rw [e0, e1, e2, e3, e4, e5, e6, e7, e8, e9, e10]
  rw [numR_ok h.tx, longR_ok h.prev, longR_ok h.next, textR_ok (by have := h.key; omega), flagR_ok, clR_ok h.old, pagesR_ok h.pages, listR_ok p1 (by omega) (fun x hx t => ptR_ok (p2 x hx) t), listR_ok t1 (by omega) (fun x hx t => txR_ok (t2 x hx) t), listR_ok d1 (by omega) (fun x hx t => dyR_ok (d2 x hx) t)]
theorem readR_ok {r : Rc} (h : rightR r = true) (t : BA) : readR (encR r ++ t) = r := by
  unfold readR
  rw [recR_ok (rightR_iff.1 h)]
theorem readR_enc {r : Rc} (h : rightR r = true) : readR (encR r) = r := by
  have := readR_ok h []
  rwa [List.append_nil] at this
theorem getOk_enc {r : Rc} (h : rightR r = true) : getOk (encR r) = true := by
  unfold getOk
  rw [readR_enc h, h]
  simp
theorem getOk_iff {b : BA} : getOk b = true ↔ rightR (readR b) = true ∧ encR (readR b) = b := by
  unfold getOk
  rw [Bool.and_eq_true, decide_eq_true_eq]
/-- More bytes behind a record's are none's. -/
theorem getOk_more {r : Rc} (h : rightR r = true) (t : BA) : getOk (encR r ++ t) = decide (t = []) := by
  by_cases e : t = []
  · rw [e, List.append_nil, getOk_enc h, decide_eq_true rfl]
  · rw [decide_eq_false e, Bool.eq_false_iff]
    intro hg
    have := (getOk_iff.1 hg).2
    rw [readR_ok h] at this
    have hl := congrArg List.length this
    rw [List.length_append] at hl
    exact e (List.eq_nil_of_length_eq_zero (by omega))
/-- Fewer are none's. -/
theorem getOk_less {r : Rc} (h : rightR r = true) (k : Nat) (hk : k < (encR r).length) : getOk ((encR r).take k) = false := by
  rw [Bool.eq_false_iff]
  intro hg
  obtain ⟨h1, h2⟩ := getOk_iff.1 hg
  generalize readR ((encR r).take k) = y at h1 h2
  have e : encR y ++ (encR r).drop k = encR r := by rw [h2, List.take_append_drop]
  have e1 := readR_ok h1 ((encR r).drop k)
  rw [e, readR_enc h] at e1
  subst e1
  have hl := congrArg List.length h2
  rw [List.length_take] at hl
  omega
/-! How many bytes. -/
theorem encS_length (s : ByteArray) : (encS s).length = 2 + s.size := by unfold encS; rw [List.length_append, w2_length, size_data]
theorem encF_length (b : Bool) : (encF b).length = 2 := rfl
theorem encP_length (p : Pt) : (encP p).length = 6 + p.bs.size := by unfold encP; simp only [List.length_append, w2_length, encS_length]; omega
theorem encD_length (d : Dy) : (encD d).length = 6 := rfl
theorem encL_length {α : Type} (f : α → BA) (l : List α) : (encL f l).length = 2 + (l.flatMap f).length := by unfold encL; rw [List.length_append, w2_length]
theorem flat_const {α : Type} {f : α → BA} {k : Nat} (h : ∀ x, (f x).length = k) (l : List α) : (l.flatMap f).length = k * l.length := by
  induction l with
  | nil => rfl
  | cons x l ih => rw [List.flatMap_cons, List.length_append, h, ih, List.length_cons, Nat.mul_succ]; omega
theorem flat_le {α : Type} {f : α → BA} {k : Nat} {l : List α} (h : ∀ x ∈ l, (f x).length ≤ k) : (l.flatMap f).length ≤ k * l.length := by
  induction l with
  | nil => simp
  | cons x l ih =>
    rw [List.flatMap_cons, List.length_append, List.length_cons, Nat.mul_succ]
    have := h x (List.mem_cons_self ..)
    have := ih fun y hy => h y (List.mem_cons_of_mem _ hy)
    omega
theorem encT_length (t : Tx) : (encT t).length = 10 + 2 * t.pages.length := by
  unfold encT
  simp only [List.length_append, w2_length, w4_length, encF_length, encL_length, flat_const w2_length]
  omega
theorem encC_length (c : Cl) : (encC c).length = 8 + c.k.size + c.v.size := by unfold encC; simp only [List.length_append, w2_length, encS_length]; omega
theorem encR_length (r : Rc) : (encR r).length = 12 + (2 + r.key.size) + 2 + (8 + r.old.k.size + r.old.v.size) + (2 + 2 * r.pages.length) + (2 + (r.pts.flatMap encP).length) + (2 + (r.txs.flatMap encT).length) + (2 + 6 * r.dys.length) := by
  unfold encR
  simp only [List.length_append, w2_length, w4_length, encF_length, encL_length, flat_const w2_length, encS_length, encC_length, flat_const encD_length]
  omega
theorem encR_pos (r : Rc) : 0 < (encR r).length := by rw [encR_length]; omega
theorem enc_small {r : Rc} (h : RightR r) : (encR r).length ≤ 20000 := by
  rw [encR_length]
  obtain ⟨o1, o2, _, _⟩ := rightO_in h.old
  obtain ⟨g1, g2⟩ := everyB_iff.1 h.pages
  obtain ⟨p1, p2⟩ := everyB_iff.1 h.pts
  obtain ⟨t1, t2⟩ := everyB_iff.1 h.txs
  obtain ⟨d1, d2⟩ := everyB_iff.1 h.dys
  have hk := h.key
  have hp : (r.pts.flatMap encP).length ≤ 262 * r.pts.length := flat_le fun x hx => by
    have := rightP_iff.1 (p2 x hx)
    rw [encP_length]
    omega
  have ht : (r.txs.flatMap encT).length ≤ 138 * r.txs.length := flat_le fun x hx => by
    have := (everyB_iff.1 (rightT_iff.1 (t2 x hx)).2.2).1
    rw [encT_length]
    omega
  omega
end Go.Proofs.YtnjggoeahaglbaaGreat.Rc

/- What a call that writes leaves alone; a Writer, a Reader in memory. -/
namespace Go.Proofs.YtnjggoeahaglbaaGreat.Rc
open Go.RowKit
set_option linter.unusedVariables false
set_option linter.unusedSimpArgs false
set_option maxRecDepth 100000

/-! What a call that writes at block p leaves alone: all below block C but p, and whatever holds no bytes. -/
structure Only (C p : Nat) (w w' : World) : Prop where
  os : w'.os = w.os
  tape : w'.tape = w.tape
  output : w'.output = w.output
  size : w.heap.size ≤ w'.heap.size
  block : ∀ k, k < C → k ≠ p → w'.heap[k]? = w.heap[k]?
  typed : ∀ k cs t fr, k ≠ p → t ≠ 5 → w.heap[k]? = some (.cells cs t fr) → w'.heap[k]? = some (.cells cs t fr)

theorem block_of_heap {w : World} {p : Nat} {o : Obj} (h : w.heap[p]? = some o) : p < w.heap.size := (Array.getElem?_eq_some_iff.1 h).1
theorem Only.refl (C p : Nat) (w : World) : Only C p w w := ⟨rfl, rfl, rfl, Nat.le_refl _, fun _ _ _ => rfl, fun _ _ _ _ _ _ h => h⟩
theorem Only.trans {C p : Nat} {a b c : World} (h : Only C p a b) (k : Only C p b c) : Only C p a c :=
  ⟨k.os.trans h.os, k.tape.trans h.tape, k.output.trans h.output, Nat.le_trans h.size k.size, fun i hi hp => (k.block i hi hp).trans (h.block i hi hp),
   fun i cs t fr hp ht hh => k.typed i cs t fr hp ht (h.typed i cs t fr hp ht hh)⟩
theorem Only.below {C p : Nat} {a b : World} (h : Only C p a b) (hp : C ≤ p) : Below C a b :=
  ⟨h.os, h.tape, h.output, h.size, fun i hi => h.block i hi (by omega)⟩
theorem Only.of_below {C p : Nat} {a b : World} (h : Below a.heap.size a b) (hC : C ≤ a.heap.size) : Only C p a b :=
  ⟨h.os, h.tape, h.output, h.size, fun i hi _ => h.block i (by omega), fun i _ _ _ _ _ hh => (h.block i (block_of_heap hh)).trans hh⟩
theorem Only.setCell {C p : Nat} {a w : World} (h : Only C p a w) (i : Nat) (u : Value) : Only C p a (w.setCell ⟨p, i, none⟩ u) :=
  h.trans ⟨rfl, rfl, rfl, by simp [World.setCell], fun k _ hk => Below.heap_setCell w ⟨p, i, none⟩ u k hk, fun k _ _ _ hk _ hh => (Below.heap_setCell w ⟨p, i, none⟩ u k hk).trans hh⟩
theorem Only.drew {C p : Nat} {a w : World} (h : Only C p a w) : Only C p a w.drew := ⟨h.os, h.tape, h.output, h.size, h.block, h.typed⟩
theorem Only.alloc {C p : Nat} {a w : World} (h : Only C p a w) (hC : C ≤ w.heap.size) (o : Obj) : Only C p a (w.alloc o) :=
  h.trans (Only.of_below ((Below.refl _ w).alloc (Nat.le_refl _) o) hC)

/-! A Writer at block p: its bytes, and whether it is bad; its row lies from block C on. -/
def Wr (C : Nat) (w : World) (p : Nat) (l : List UInt8) (bad : Bool) : Prop :=
  C ≤ w.heap.size ∧ ∃ v, w.heap[p]? = some (.cells #[v, .bool bad] 139 (0, 0)) ∧ w.ownsRow C 5 1 v l.length (bcs l)

theorem Wr.new (C : Nat) (w : World) (hC : C ≤ w.heap.size + 1) : Wr C (w.alloc (.cells #[.slice none 0 0, .bool false] 139)) w.heap.size [] false :=
  ⟨by simpa using hC, _, heap_alloc_new w _, World.ownsRow_nil _ _ _ _⟩

theorem Wr.lt {C : Nat} {w : World} {p : Nat} {l : List UInt8} {bad : Bool} (h : Wr C w p l bad) : p < w.heap.size := by
  obtain ⟨_, v, hh, _⟩ := h
  exact block_of_heap hh

/-- What a Writer is survives all that leaves its blocks alone. -/
theorem Wr.kept {C D q : Nat} {w w' : World} {p : Nat} {l : List UInt8} {bad : Bool} (h : Wr C w p l bad) (ho : Only D q w w') (hD : w.heap.size ≤ D) (hq : p ≠ q)
    (hrow : ∀ cs n, w.heap[q]? ≠ some (.cells cs 5 n)) : Wr C w' p l bad := by
  obtain ⟨hC, v, hh, hown⟩ := h
  refine ⟨Nat.le_trans hC ho.size, v, (ho.block p (Nat.lt_of_lt_of_le (block_of_heap hh) hD) hq).trans hh, hown.1, ?_⟩
  rcases hown.2 with hn | ⟨g, cap, cur, rfl, hb, hgg, rest⟩
  · exact .inl hn
  · refine .inr ⟨g, cap, cur, rfl, hb, ?_, rest⟩
    rw [ho.block g (Nat.lt_of_lt_of_le (block_of_heap hgg) hD) (fun e => hrow _ _ (e ▸ hgg))]
    exact hgg

theorem own_slice {w : World} {base e size n : Nat} {v : Value} {xs : List Value} (h : w.ownsRow base e size v n xs) : ∃ A c, v = .slice A n c := by
  rcases h.2 with ⟨rfl, rfl⟩ | ⟨g, cap, cur, rfl, _⟩
  · exact ⟨_, _, rfl⟩
  · exact ⟨_, _, rfl⟩

/-- A row of bytes of the call's own, as a string. -/
theorem own_string {P : Program} {w : World} {base n : Nat} {v : Value} {l : List UInt8} (h : w.ownsRow base 5 1 v n (bcs l)) (hl : l.length = n)
    (h1 : P.underlying 70 = some (.slice 5)) (h2 : P.underlying 5 = some (.int .u8)) (h3 : P.underlying 9 = some .string) :
    (convert 70 9 v).run P w = .ok (.string (str l)) w := by
  subst hl
  rcases h.2 with ⟨rfl, hn⟩ | ⟨g, cap, cur, rfl, _⟩
  · have : l = [] := List.eq_nil_of_length_eq_zero hn
    subst this
    exact run_convert_bytes_nil w 70 5 h1 h2 0 0 9 h3
  · exact run_convert_bytes_back w 70 9 5 ⟨g, 0, none⟩ cap l h1 h2 h3 fun j hj => h.cells rfl j _ (by simp [bcs, List.getElem?_eq_getElem hj])

theorem frozen_of_heap (w : World) (p i : Nat) (cs : Array Value) (t : TypeId) (h : w.heap[p]? = some (.cells cs t (0, 0))) : w.frozen? ⟨p, i, none⟩ = false := by
  simp [World.frozen?, h]

theorem wrote_block {C n : Nat} {w w1 : World} {p : Nat} {xs : List Value} {bad : Bool} {v : Value} (hown : w.ownsRow C 5 1 v n xs)
    (hh : w.heap[p]? = some (.cells #[v, .bool bad] 139 (0, 0))) (hg : w.grownBy w1 v.ownBlock) : w1.heap[p]? = some (.cells #[v, .bool bad] 139 (0, 0)) := by
  refine (hg.block p (block_of_heap hh) ?_).trans hh
  intro e
  rcases hown.2 with ⟨rfl, _⟩ | ⟨g, cap, cur, rfl, _, hgg, _⟩
  · simp [Value.ownBlock] at e
  · simp [Value.ownBlock] at e
    subst e
    rw [hh] at hgg
    simp at hgg

/-- The Writer behind an append: its row and its block p have turned, nothing else. -/
theorem Wr.wrote {C : Nat} {w w1 : World} {p : Nat} {l m : List UInt8} {bad : Bool} {v v' : Value} (hC : C ≤ w.heap.size)
    (hh : w.heap[p]? = some (.cells #[v, .bool bad] 139 (0, 0))) (hown : w.ownsRow C 5 1 v l.length (bcs l))
    (hg : w.grownBy w1 v.ownBlock) (hown1 : w1.ownsRow C 5 1 v' (l ++ m).length (bcs (l ++ m))) :
    Wr C (w1.setCell ⟨p, 0, none⟩ v') p (l ++ m) bad ∧ Only C p w (w1.setCell ⟨p, 0, none⟩ v') := by
  have h1 := wrote_block hown hh hg
  have hO : Only C p w w1 := ⟨hg.os, hg.tape, hg.output, hg.size, fun k hk _ => hg.block k (by omega) (fun e => by have := (hown.lt k e.symm).1; omega),
    fun k cs t fr _ ht hk => (hg.block k (block_of_heap hk) (fun e => by
      rcases hown.2 with ⟨rfl, _⟩ | ⟨g, cap, cur, rfl, _, hgg, _⟩
      · simp [Value.ownBlock] at e
      · simp [Value.ownBlock] at e
        subst e
        rw [hk] at hgg
        simp at hgg
        exact ht hgg.2.1)).trans hk⟩
  refine ⟨⟨?_, v', ?_, ?_⟩, hO.setCell _ _⟩
  · have := hg.size; simp [World.setCell]; omega
  · simp [World.setCell, Array.getElem?_modify, h1]
  · refine ⟨hown1.1, ?_⟩
    rcases hown1.2 with hn | ⟨g, cap, cur, rfl, hb, hgg, rest⟩
    · exact .inl hn
    · refine .inr ⟨g, cap, cur, rfl, hb, ?_, rest⟩
      rw [Below.heap_setCell w1 ⟨p, 0, none⟩ _ g ?_]
      · exact hgg
      · rintro rfl
        rw [h1] at hgg
        simp at hgg

theorem Wr.spoilt {C : Nat} {w : World} {p : Nat} {l : List UInt8} {bad : Bool} (h : Wr C w p l bad) :
    Wr C (w.setCell ⟨p, 1, none⟩ (.bool true)) p l true ∧ Only C p w (w.setCell ⟨p, 1, none⟩ (.bool true)) := by
  obtain ⟨hC, v, hh, hown⟩ := h
  refine ⟨⟨by simpa [World.setCell] using hC, v, by simp [World.setCell, Array.getElem?_modify, hh], hown.1, ?_⟩, (Only.refl _ _ _).setCell _ _⟩
  rcases hown.2 with hn | ⟨g, cap, cur, rfl, hb, hgg, rest⟩
  · exact .inl hn
  · refine .inr ⟨g, cap, cur, rfl, hb, ?_, rest⟩
    rw [Below.heap_setCell w ⟨p, 1, none⟩ _ g ?_]
    · exact hgg
    · rintro rfl
      rw [hh] at hgg
      simp at hgg

/-! A Reader at block q: what is left, and whether it is good. -/
def Rd (w : World) (q : Nat) (l : List UInt8) (good : Bool) : Prop := w.heap[q]? = some (.cells #[.string (str l), .bool good] 186 (0, 0))

theorem Rd.lt {w : World} {q : Nat} {l : List UInt8} {good : Bool} (h : Rd w q l good) : q < w.heap.size := block_of_heap h
theorem Rd.alloc {w : World} {q : Nat} {l : List UInt8} {good : Bool} (h : Rd w q l good) (o : Obj) : Rd (w.alloc o) q l good := (Below.heap_alloc w o q h.lt).trans h
theorem Rd.drew {w : World} {q : Nat} {l : List UInt8} {good : Bool} (h : Rd w q l good) : Rd w.drew q l good := h
theorem Rd.new (w : World) (l : List UInt8) : Rd (w.alloc (.cells #[.string (str l), .bool true] 186)) w.heap.size l true := heap_alloc_new w _
theorem Rd.cut {w : World} {q : Nat} {l : List UInt8} {good : Bool} (h : Rd w q l good) (m : List UInt8) : Rd (w.setCell ⟨q, 0, none⟩ (.string (str m))) q m good := by
  unfold Rd at *
  simp [World.setCell, Array.getElem?_modify, h]
theorem Rd.spoilt {w : World} {q : Nat} {l : List UInt8} {good : Bool} (h : Rd w q l good) : Rd (w.setCell ⟨q, 1, none⟩ (.bool false)) q l false := by
  unfold Rd at *
  simp [World.setCell, Array.getElem?_modify, h]

end Go.Proofs.YtnjggoeahaglbaaGreat.Rc

/- The contracts of pack's Writer: what each call appends, and when the Writer turns bad. -/
namespace Go.Proofs.YtnjggoeahaglbaaGreat.Rc
open Go.ChangeShapes Go.WideShapes Go.ChangeAt Go.RowKit
set_option linter.unusedVariables false
set_option maxRecDepth 100000

theorem info5 : (Tryz.prog.info? 5).map (fun i => (i.zero, i.size, i.bytes)) = some (some (.int .u8 0), 1, 1) := by kernel_rfl
abbrev ptr (p : Nat) : Value := .pointer (some ⟨p, 0, none⟩)

/-- What a writing call leaves. -/
def Wrote (C p : Nat) (w : World) (l : List UInt8) (bad : Bool) (w' : World) : Prop := Wr C w' p l bad ∧ Only C p w w'

set_option maxHeartbeats 400000 in
theorem one_any (C p : Nat) (v : Int) (l : List UInt8) (bad : Bool) (w : World) (h0 : 0 ≤ v) (hl : l.length ≤ 1000000) (hw : Wr C w p l bad) :
    Calls Tryz.prog 161 #[ptr p, .int .u32 v] w fun e w' => e = .returned (.tuple #[]) ∧ Wrote C p w (l ++ [byte v]) bad w' := by
  obtain ⟨i0, hi, hz0, hz1, hz2⟩ := info_parts info5
  obtain ⟨hC, u, hh, hown⟩ := hw
  have hp := block_of_heap hh
  have hc0 : w.cell? ⟨p, 0, none⟩ = some u := cell_of_row w p 0 _ _ _ hh
  have Hh := Lib.hid hh
  clear hh
  have hown' := hown
  go_enter Tryz.func161, Tryz.ntmps161
  go_wp2_with (at_builtin; refine wpList_append_own _ rfl (.tmp 8) (.tmp 11) 70 rfl C 5 i0 (.int .u8 0) 1 1 Tryz.underlying70 hi hz0 hz1 hz2 rfl (by decide) _ _ _ rfl (hown.alloc _) ⟨w.heap.size, 0, none⟩ 1 1 [.int .u8 (v % 256)] rfl rfl ?c1 ?c2 ?c3 ?c4 ?c5 ?_)
  case c1 => intro j x hx; rcases j with _ | j <;> simp at hx; subst hx; exact cell_of_row _ w.heap.size 0 _ _ _ (heap_alloc_new w _)
  case c2 => intro x hx; simp at hx; subst hx; rfl
  case c3 => unfold maxLen; omega
  case c4 => omega
  case c5 => simp; omega
  intro u' w1 hown1 hgrow _
  have hg : w.grownBy w1 u.ownBlock := ⟨hgrow.os, hgrow.tape, hgrow.output, Nat.le_trans (by simp) hgrow.size, fun k hk hne => (hgrow.block k (by simp; omega) hne).trans (Below.heap_alloc w _ k hk)⟩
  have hx : bcs (l ++ [byte v]) = bcs l ++ [.int .u8 (v % 256)] := by rw [bcs_append, bcs_one v h0]
  have hown2 : w1.ownsRow C 5 1 u' (l ++ [byte v]).length (bcs (l ++ [byte v])) := by rw [hx]; simpa using hown1
  have HW := Lib.hid (Wr.wrote hC Hh.out hown hg hown2)
  have hb1 := Lib.hid (wrote_block hown Hh.out hg)
  obtain ⟨A, c, rfl⟩ := own_slice hown1
  clear hx hown2 hown1 hgrow hown hown'
  have hc1 : w1.cell? ⟨p, 0, none⟩ = some u := cell_of_row w1 p 0 _ _ _ hb1.out
  have hf1 : w1.frozen? ⟨p, 0, none⟩ = false := frozen_of_heap w1 p 0 _ _ hb1.out
  go_wp2_with fail
  go_end0
  exact ⟨rfl, HW.out⟩

theorem Wrote.lt {C p : Nat} {w w' : World} {l : List UInt8} {bad : Bool} (h : Wrote C p w l bad w') : Wr C w' p l bad := h.1
theorem Wrote.then {C p : Nat} {w w1 w2 : World} {l m : List UInt8} {b c : Bool} (h : Wrote C p w l b w1) (k : Wrote C p w1 m c w2) : Wrote C p w m c w2 := ⟨k.1, h.2.trans k.2⟩

set_option maxHeartbeats 400000 in
theorem high_one (C p : Nat) (v : Int) (l : List UInt8) (bad : Bool) (w : World) (h0 : 0 ≤ v) (h1 : v ≤ 65535) (hl : l.length ≤ 999000) (hw : Wr C w p l bad) :
    Calls Tryz.prog 160 #[.int .u32 v, .int .i64 8, .func (.func 161) #[ptr p] #[]] w fun e w' => e = .returned (.tuple #[]) ∧ Wrote C p w (l ++ w2 v) bad w' := by
  have e : l ++ w2 v = (l ++ [byte (v / 256)]) ++ [byte (v % 256)] := by rw [byte_mod v h0]; simp [w2]
  rw [e]
  clear e
  go_enter Tryz.func160, Tryz.ntmps160
  go_wp2_with fail
  refine (one_any C p _ l bad _ (by omega) (by omega) hw).mono ?_; rintro e w1 ⟨rfl, hw1⟩
  have H1 := Lib.hid hw1
  clear hw1
  go_wp2_with fail
  rw [mask8 v h0 (by omega)]
  refine (one_any C p _ _ bad _ (by omega) (by simp; omega) H1.out.1).mono ?_; rintro e w2 ⟨rfl, hw2⟩
  have H2 := Lib.hid (H1.out.then hw2)
  clear hw2
  go_wp2_with fail
  go_end0
  exact ⟨rfl, H2.out⟩

set_option maxHeartbeats 400000 in
theorem two_any (C p : Nat) (v : Int) (l : List UInt8) (bad : Bool) (w : World) (h0 : 0 ≤ v) (h1 : v ≤ 65535) (hl : l.length ≤ 999000) (hw : Wr C w p l bad) :
    Calls Tryz.prog 140 #[ptr p, .int .u32 v] w fun e w' => e = .returned (.tuple #[]) ∧ Wrote C p w (l ++ w2 v) bad w' := by
  go_enter Tryz.func140, Tryz.ntmps140
  go_wp2_with fail
  refine (high_one C p _ l bad _ h0 h1 hl hw).mono ?_; rintro e w1 ⟨rfl, hw1⟩
  have H1 := Lib.hid hw1
  clear hw1
  go_wp2_with fail
  go_end0
  exact ⟨rfl, H1.out⟩

set_option maxHeartbeats 400000 in
theorem high_two (C p : Nat) (v : Int) (l : List UInt8) (bad : Bool) (w : World) (h0 : 0 ≤ v) (h1 : v ≤ 4294967295) (hl : l.length ≤ 998000) (hw : Wr C w p l bad) :
    Calls Tryz.prog 160 #[.int .u32 v, .int .i64 16, .func (.func 140) #[ptr p] #[]] w fun e w' => e = .returned (.tuple #[]) ∧ Wrote C p w (l ++ w4 v) bad w' := by
  have e : l ++ w4 v = (l ++ w2 (v / 65536)) ++ w2 (v % 65536) := by simp [w4]
  rw [e]
  clear e
  go_enter Tryz.func160, Tryz.ntmps160
  go_wp2_with fail
  refine (two_any C p _ l bad _ (by omega) (by omega) (by omega) hw).mono ?_; rintro e w1 ⟨rfl, hw1⟩
  have H1 := Lib.hid hw1
  clear hw1
  go_wp2_with fail
  rw [mask16 v h0 (by omega)]
  refine (two_any C p _ _ bad _ (by omega) (by omega) (by simp [w2_length]; omega) H1.out.1).mono ?_; rintro e w2 ⟨rfl, hw2⟩
  have H2 := Lib.hid (H1.out.then hw2)
  clear hw2
  go_wp2_with fail
  go_end0
  exact ⟨rfl, H2.out⟩

set_option maxHeartbeats 400000 in
theorem four_any (C p : Nat) (v : Int) (l : List UInt8) (bad : Bool) (w : World) (h0 : 0 ≤ v) (h1 : v ≤ 4294967295) (hl : l.length ≤ 998000) (hw : Wr C w p l bad) :
    Calls Tryz.prog 141 #[ptr p, .int .u32 v] w fun e w' => e = .returned (.tuple #[]) ∧ Wrote C p w (l ++ w4 v) bad w' := by
  go_enter Tryz.func141, Tryz.ntmps141
  go_wp2_with fail
  refine (high_two C p _ l bad _ h0 h1 hl hw).mono ?_; rintro e w1 ⟨rfl, hw1⟩
  have H1 := Lib.hid hw1
  clear hw1
  go_wp2_with fail
  go_end0
  exact ⟨rfl, H1.out⟩

theorem Wr.cell1 {C p : Nat} {w : World} {l : List UInt8} {bad : Bool} (h : Wr C w p l bad) : w.cell? ⟨p, 1, none⟩ = some (.bool bad) := by
  obtain ⟨_, v, hh, _⟩ := h
  exact cell_of_row w p 1 _ _ _ hh
theorem Wr.free1 {C p : Nat} {w : World} {l : List UInt8} {bad : Bool} (h : Wr C w p l bad) : w.frozen? ⟨p, 1, none⟩ = false := by
  obtain ⟨_, v, hh, _⟩ := h
  exact frozen_of_heap w p 1 _ _ hh

/-! number: the value fits; it does not; the Writer was bad already; there is no Writer. -/
set_option maxHeartbeats 400000 in
theorem number2_ok (C p : Nat) (v : Int) (l : List UInt8) (w : World) (h0 : 0 ≤ v) (h1 : v ≤ 65535) (hl : l.length ≤ 998000) (hw : Wr C w p l false) :
    Calls Tryz.prog 139 #[ptr p, .int .i64 v, .int .u64 65535, .func (.func 140) #[ptr p] #[]] w fun e w' => e = .returned (ptr p) ∧ Wrote C p w (l ++ w2 v) false w' := by
  have hc1 := hw.cell1
  have hn : ¬ 65535 < v := by omega
  have Hw := Lib.hid hw
  clear hw
  go_enter Tryz.func139, Tryz.ntmps139
  go_wp2_with fail
  refine (two_any C p v l false _ h0 h1 (by omega) Hw.out).mono ?_; rintro e w1 ⟨rfl, hw1⟩
  have H1 := Lib.hid hw1
  clear hw1
  go_wp2_with fail
  go_ret
  exact ⟨rfl, H1.out⟩

set_option maxHeartbeats 400000 in
theorem number4_ok (C p : Nat) (v : Int) (l : List UInt8) (w : World) (h0 : 0 ≤ v) (h1 : v ≤ 4294967295) (hl : l.length ≤ 998000) (hw : Wr C w p l false) :
    Calls Tryz.prog 139 #[ptr p, .int .i64 v, .int .u64 4294967295, .func (.func 141) #[ptr p] #[]] w fun e w' => e = .returned (ptr p) ∧ Wrote C p w (l ++ w4 v) false w' := by
  have hc1 := hw.cell1
  have hn : ¬ 4294967295 < v := by omega
  have Hw := Lib.hid hw
  clear hw
  go_enter Tryz.func139, Tryz.ntmps139
  go_wp2_with fail
  refine (four_any C p v l false _ h0 h1 hl Hw.out).mono ?_; rintro e w1 ⟨rfl, hw1⟩
  have H1 := Lib.hid hw1
  clear hw1
  go_wp2_with fail
  go_ret
  exact ⟨rfl, H1.out⟩

theorem wrap_out (v top : Int) (h : v < 0 ∨ top < v) (h1 : -9223372036854775808 ≤ v) (h2 : v ≤ 9223372036854775807) (h3 : top ≤ 4294967295) : top < IntKind.u64.wrap v := by
  rw [IntKind.wrap_u64]; omega

set_option maxHeartbeats 400000 in
theorem number_out (C p : Nat) (v top : Int) (f : Value) (l : List UInt8) (bad : Bool) (w : World) (h : v < 0 ∨ top < v) (h1 : -9223372036854775808 ≤ v) (h2 : v ≤ 9223372036854775807) (h3 : top ≤ 4294967295) (hw : Wr C w p l bad) :
    Calls Tryz.prog 139 #[ptr p, .int .i64 v, .int .u64 top, f] w fun e w' => e = .returned (ptr p) ∧ Wrote C p w l true w' := by
  have hc1 := hw.cell1
  have hf1 := hw.free1
  have hu := wrap_out v top h h1 h2 h3
  have Hw := Lib.hid hw.spoilt
  clear hw h h1 h2 h3
  go_enter Tryz.func139, Tryz.ntmps139
  go_wp2_with fail
  go_ret
  exact ⟨rfl, Hw.out⟩

set_option maxHeartbeats 400000 in
theorem number_stuck (C p : Nat) (v top : Int) (f : Value) (l : List UInt8) (w : World) (h0 : 0 ≤ v) (h1 : v ≤ top) (h3 : top ≤ 4294967295) (hw : Wr C w p l true) :
    Calls Tryz.prog 139 #[ptr p, .int .i64 v, .int .u64 top, f] w fun e w' => e = .returned (ptr p) ∧ Wrote C p w l true w' := by
  have hc1 := hw.cell1
  have hn : ¬ top < v := by omega
  have h4 : v ≤ 4294967295 := by omega
  have Hw := Lib.hid hw
  clear hw
  go_enter Tryz.func139, Tryz.ntmps139
  go_wp2_with fail
  go_ret
  exact ⟨rfl, Hw.out, Only.refl _ _ _⟩

set_option maxHeartbeats 400000 in
theorem number_nil (v top : Int) (f : Value) (w : World) :
    Calls Tryz.prog 139 #[.pointer none, .int .i64 v, .int .u64 top, f] w fun e w' => e = .returned (.pointer none) ∧ w = w' := by
  go_enter Tryz.func139, Tryz.ntmps139
  go_wp2_with fail
  go_ret
  exact ⟨rfl, rfl⟩

/-- What a Writer is behind a number of so many bytes. -/
def after (top : Int) (f : Int → List UInt8) (l : List UInt8) (bad : Bool) (v : Int) : List UInt8 × Bool :=
  if 0 ≤ v ∧ v ≤ top then (if bad then (l, true) else (l ++ f v, false)) else (l, true)

set_option maxHeartbeats 400000 in
theorem num_any (C p : Nat) (v : Int) (l : List UInt8) (bad : Bool) (w : World) (h1 : -9223372036854775808 ≤ v) (h2 : v ≤ 9223372036854775807) (hl : l.length ≤ 998000) (hw : Wr C w p l bad) :
    Calls Tryz.prog 107 #[ptr p, .int .i64 v] w fun e w' => e = .returned (ptr p) ∧ Wrote C p w (after 65535 w2 l bad v).1 (after 65535 w2 l bad v).2 w' := by
  by_cases h : 0 ≤ v ∧ v ≤ 65535
  · cases bad
    · have e : after 65535 w2 l false v = (l ++ w2 v, false) := by simp [after, h]
      rw [e]
      clear e
      have Hw := Lib.hid hw
      clear hw
      go_enter Tryz.func107, Tryz.ntmps107
      go_wp2_with fail
      refine (number2_ok C p v l _ h.1 h.2 hl Hw.out).mono ?_; rintro e w1 ⟨rfl, hw1⟩
      have H1 := Lib.hid hw1
      clear hw1
      go_wp2_with fail
      go_ret
      exact ⟨rfl, H1.out⟩
    · have e : after 65535 w2 l true v = (l, true) := by simp [after]
      rw [e]
      clear e
      have Hw := Lib.hid hw
      clear hw
      go_enter Tryz.func107, Tryz.ntmps107
      go_wp2_with fail
      refine (number_stuck C p v 65535 _ l _ h.1 h.2 (by omega) Hw.out).mono ?_; rintro e w1 ⟨rfl, hw1⟩
      have H1 := Lib.hid hw1
      clear hw1
      go_wp2_with fail
      go_ret
      exact ⟨rfl, H1.out⟩
  · have e : after 65535 w2 l bad v = (l, true) := by unfold after; rw [if_neg h]
    rw [e]
    clear e
    have Hw := Lib.hid hw
    clear hw
    have Hh := Lib.hid h
    clear h
    go_enter Tryz.func107, Tryz.ntmps107
    go_wp2_with fail
    refine (number_out C p v 65535 _ l bad _ (by have := Hh.out; omega) h1 h2 (by omega) Hw.out).mono ?_; rintro e w1 ⟨rfl, hw1⟩
    have H1 := Lib.hid hw1
    clear hw1
    go_wp2_with fail
    go_ret
    exact ⟨rfl, H1.out⟩

set_option maxHeartbeats 400000 in
theorem num_nil_w (v : Int) (w : World) : Calls Tryz.prog 107 #[.pointer none, .int .i64 v] w fun e w' => e = .returned (.pointer none) ∧ w = w' := by
  go_enter Tryz.func107, Tryz.ntmps107
  go_wp2_with fail
  refine (number_nil v 65535 _ _).mono ?_; rintro e w1 ⟨rfl, rfl⟩
  go_wp2_with fail
  go_ret
  exact ⟨rfl, rfl⟩

set_option maxHeartbeats 400000 in
theorem long_any (C p : Nat) (v : Int) (l : List UInt8) (bad : Bool) (w : World) (h1 : -9223372036854775808 ≤ v) (h2 : v ≤ 9223372036854775807) (hl : l.length ≤ 998000) (hw : Wr C w p l bad) :
    Calls Tryz.prog 108 #[ptr p, .int .i64 v] w fun e w' => e = .returned (ptr p) ∧ Wrote C p w (after 4294967295 w4 l bad v).1 (after 4294967295 w4 l bad v).2 w' := by
  by_cases h : 0 ≤ v ∧ v ≤ 4294967295
  · cases bad
    · have e : after 4294967295 w4 l false v = (l ++ w4 v, false) := by simp [after, h]
      rw [e]
      clear e
      have Hw := Lib.hid hw
      clear hw
      go_enter Tryz.func108, Tryz.ntmps108
      go_wp2_with fail
      refine (number4_ok C p v l _ h.1 h.2 hl Hw.out).mono ?_; rintro e w1 ⟨rfl, hw1⟩
      have H1 := Lib.hid hw1
      clear hw1
      go_wp2_with fail
      go_ret
      exact ⟨rfl, H1.out⟩
    · have e : after 4294967295 w4 l true v = (l, true) := by simp [after]
      rw [e]
      clear e
      have Hw := Lib.hid hw
      clear hw
      go_enter Tryz.func108, Tryz.ntmps108
      go_wp2_with fail
      refine (number_stuck C p v 4294967295 _ l _ h.1 h.2 (by omega) Hw.out).mono ?_; rintro e w1 ⟨rfl, hw1⟩
      have H1 := Lib.hid hw1
      clear hw1
      go_wp2_with fail
      go_ret
      exact ⟨rfl, H1.out⟩
  · have e : after 4294967295 w4 l bad v = (l, true) := by unfold after; rw [if_neg h]
    rw [e]
    clear e
    have Hw := Lib.hid hw
    clear hw
    have Hh := Lib.hid h
    clear h
    go_enter Tryz.func108, Tryz.ntmps108
    go_wp2_with fail
    refine (number_out C p v 4294967295 _ l bad _ (by have := Hh.out; omega) h1 h2 (by omega) Hw.out).mono ?_; rintro e w1 ⟨rfl, hw1⟩
    have H1 := Lib.hid hw1
    clear hw1
    go_wp2_with fail
    go_ret
    exact ⟨rfl, H1.out⟩

set_option maxHeartbeats 400000 in
theorem long_nil (v : Int) (w : World) : Calls Tryz.prog 108 #[.pointer none, .int .i64 v] w fun e w' => e = .returned (.pointer none) ∧ w = w' := by
  go_enter Tryz.func108, Tryz.ntmps108
  go_wp2_with fail
  refine (number_nil v 4294967295 _ _).mono ?_; rintro e w1 ⟨rfl, rfl⟩
  go_wp2_with fail
  go_ret
  exact ⟨rfl, rfl⟩

theorem Wr.cell0 {C p : Nat} {w : World} {l : List UInt8} {bad : Bool} (h : Wr C w p l bad) : ∃ v, w.heap[p]? = some (.cells #[v, .bool bad] 139 (0, 0)) ∧ w.ownsRow C 5 1 v l.length (bcs l) := h.2

/-! Text: into a good Writer, a short one; there is no Writer. -/
set_option maxHeartbeats 800000 in
theorem text_ok (C p : Nat) (s : ByteArray) (l : List UInt8) (w : World) (hs : s.size ≤ 65535) (hl : l.length ≤ 900000) (hw : Wr C w p l false) :
    Calls Tryz.prog 109 #[ptr p, .string s] w fun e w' => e = .returned (ptr p) ∧ Wrote C p w (l ++ (w2 s.size ++ s.data.toList)) false w' := by
  obtain ⟨i0, hi, hz0, hz1, hz2⟩ := info_parts info5
  have e0 : after 65535 w2 l false (s.size : Int) = (l ++ w2 s.size, false) := by unfold after; rw [if_pos ⟨by omega, by omega⟩]; rfl
  have H0 := (num_any C p (s.size : Int) l false w (by omega) (by omega) (by omega) hw)
  rw [e0] at H0
  have HH := Lib.hid H0
  clear H0 e0 hw
  go_enter Tryz.func109, Tryz.ntmps109
  go_wp2_with fail
  refine (HH.out).mono ?_; rintro e w1 ⟨rfl, hw1⟩
  obtain ⟨u, hh, hown⟩ := hw1.1.cell0
  have hC := hw1.1.1
  have hc0 : w1.cell? ⟨p, 0, none⟩ = some u := cell_of_row w1 p 0 _ _ _ hh
  have hc1 : w1.cell? ⟨p, 1, none⟩ = some (.bool false) := cell_of_row w1 p 1 _ _ _ hh
  have H1 := Lib.hid hw1
  have Hh := Lib.hid hh
  clear hw1 hh
  have hown' := hown
  go_wp2_with (at_builtin; refine Lib.wpList_append_own_string _ rfl (.tmp 22) (.tmp 23) 70 9 rfl C 5 i0 Tryz.underlying70 Tryz.underlying9 hi hz0 hz1 hz2 _ _ _ rfl hown s rfl ?c1 ?c2 hC ?_)
  case c1 => simp [w2_length]; unfold maxLen; omega
  case c2 => simp [w2_length]; omega
  intro u' w2' hown1 hgrow hnil
  have hown2 : w2'.ownsRow C 5 1 u' ((l ++ w2 (s.size : Int)) ++ s.data.toList).length (bcs ((l ++ w2 (s.size : Int)) ++ s.data.toList)) := by
    rw [bcs_append]
    have e : ((l ++ w2 (s.size : Int)) ++ s.data.toList).length = l.length + (w2 (s.size : Int)).length + s.size := by simp; omega
    rw [e]
    exact hown1
  have HW := Lib.hid (H1.out.2.trans (Wr.wrote hC Hh.out hown hgrow hown2).2)
  have HV := Lib.hid (Wr.wrote hC Hh.out hown hgrow hown2).1
  have hb1 := Lib.hid (wrote_block hown Hh.out hgrow)
  obtain ⟨A, c, rfl⟩ := own_slice hown1
  clear hown2 hown1 hgrow hown hown' hnil
  have hd1 : w2'.cell? ⟨p, 0, none⟩ = some u := cell_of_row w2' p 0 _ _ _ hb1.out
  have hf1 : w2'.frozen? ⟨p, 0, none⟩ = false := frozen_of_heap w2' p 0 _ _ hb1.out
  go_wp2_with fail
  go_ret
  exact ⟨rfl, by rw [← List.append_assoc]; exact HV.out, HW.out⟩

set_option maxHeartbeats 400000 in
theorem text_stuck (C p : Nat) (s : ByteArray) (l : List UInt8) (w : World) (hs : s.size ≤ 65535) (hl : l.length ≤ 900000) (hw : Wr C w p l true) :
    Calls Tryz.prog 109 #[ptr p, .string s] w fun e w' => e = .returned (ptr p) ∧ Wrote C p w l true w' := by
  have e0 : after 65535 w2 l true (s.size : Int) = (l, true) := by simp [after]
  have H0 := (num_any C p (s.size : Int) l true w (by omega) (by omega) (by omega) hw)
  rw [e0] at H0
  have HH := Lib.hid H0
  clear H0 e0 hw
  go_enter Tryz.func109, Tryz.ntmps109
  go_wp2_with fail
  refine (HH.out).mono ?_; rintro e w1 ⟨rfl, hw1⟩
  have hc1 := hw1.1.cell1
  have H1 := Lib.hid hw1
  clear hw1
  go_wp2_with fail
  go_ret
  exact ⟨rfl, H1.out⟩

theorem text_nil (s : ByteArray) (w : World) (hs : s.size ≤ maxLen) : Calls Tryz.prog 109 #[.pointer none, .string s] w fun e w' => e = .returned (.pointer none) ∧ w = w' := by
  unfold maxLen at hs
  go_enter Tryz.func109, Tryz.ntmps109
  go_wp2_with fail
  refine (num_nil_w _ _).mono ?_; rintro e w1 ⟨rfl, rfl⟩
  go_wp2_with fail
  go_ret
  exact ⟨rfl, rfl⟩

/-! Done. -/
theorem done_good (C p : Nat) (l : List UInt8) (w : World) (hw : Wr C w p l false) :
    Calls Tryz.prog 79 #[ptr p] w fun e w' => e = .returned (.tuple #[.string (str l), .bool true]) ∧ w = w' := by
  obtain ⟨_, u, hh, hown⟩ := hw
  have hc0 : w.cell? ⟨p, 0, none⟩ = some u := cell_of_row w p 0 _ _ _ hh
  have hc1 : w.cell? ⟨p, 1, none⟩ = some (.bool false) := cell_of_row w p 1 _ _ _ hh
  have hv := own_string (P := Tryz.prog) hown rfl Tryz.underlying70 Tryz.underlying5 Tryz.underlying9
  obtain ⟨A, c, rfl⟩ := own_slice hown
  clear hh hown
  go_enter Tryz.func79, Tryz.ntmps79
  go_wp2_with fail
  go_ret2
  exact ⟨rfl, rfl⟩
theorem done_bad (C p : Nat) (l : List UInt8) (w : World) (hw : Wr C w p l true) :
    Calls Tryz.prog 79 #[ptr p] w fun e w' => e = .returned (.tuple #[.string (str []), .bool false]) ∧ w = w' := by
  have hc1 := hw.cell1
  clear hw
  go_enter Tryz.func79, Tryz.ntmps79
  go_wp2_with fail
  go_ret2
  exact ⟨rfl, rfl⟩
theorem done_nil (w : World) : Calls Tryz.prog 79 #[.pointer none] w fun e w' => e = .returned (.tuple #[.string (str []), .bool false]) ∧ w = w' := by
  go_enter Tryz.func79, Tryz.ntmps79
  go_wp2_with fail
  go_ret2
  exact ⟨rfl, rfl⟩

end Go.Proofs.YtnjggoeahaglbaaGreat.Rc

/- The contracts of pack's Reader: what each call reads, and when the Reader turns bad. -/
namespace Go.Proofs.YtnjggoeahaglbaaGreat.Rc
open Go.ChangeShapes Go.WideShapes Go.ChangeAt Go.RowKit
set_option linter.unusedVariables false
set_option maxRecDepth 100000

theorem bad_yes (q : Nat) (l : List UInt8) (w : World) (hr : Rd w q l false) :
    Calls Tryz.prog 170 #[ptr q] w fun e w' => e = .returned (.bool true) ∧ w = w' := by
  have hc1 : w.cell? ⟨q, 1, none⟩ = some (.bool false) := cell_of_row w q 1 _ _ _ hr
  clear hr
  go_enter Tryz.func170, Tryz.ntmps170
  go_wp2_with fail
  go_ret
  exact ⟨rfl, rfl⟩
theorem bad_no (q : Nat) (l : List UInt8) (w : World) (hr : Rd w q l true) :
    Calls Tryz.prog 170 #[ptr q] w fun e w' => e = .returned (.bool false) ∧ w = w' := by
  have hc1 : w.cell? ⟨q, 1, none⟩ = some (.bool true) := cell_of_row w q 1 _ _ _ hr
  clear hr
  go_enter Tryz.func170, Tryz.ntmps170
  go_wp2_with fail
  go_ret
  exact ⟨rfl, rfl⟩
theorem bad_nil (w : World) : Calls Tryz.prog 170 #[.pointer none] w fun e w' => e = .returned (.bool true) ∧ w = w' := by
  go_enter Tryz.func170, Tryz.ntmps170
  go_wp2_with fail
  go_ret
  exact ⟨rfl, rfl⟩

/-- What a reading call leaves. -/
def Read (C q : Nat) (w : World) (l : List UInt8) (good : Bool) (w' : World) : Prop := Rd w' q l good ∧ Only C q w w'

theorem Read.then {C q : Nat} {w w1 w2 : World} {l m : List UInt8} {b c : Bool} (h : Read C q w l b w1) (k : Read C q w1 m c w2) : Read C q w m c w2 := ⟨k.1, h.2.trans k.2⟩
theorem Read.on {C q : Nat} {w w1 w2 : World} {l : List UInt8} {b : Bool} (h : Read C q w l b w1) (hC : C ≤ w.heap.size) (k : Below w1.heap.size w1 w2) : Read C q w l b w2 :=
  ⟨(k.block q h.1.lt).trans h.1, h.2.trans (Only.of_below k (Nat.le_trans hC h.2.size))⟩
theorem extract_take (l : List UInt8) (n : Nat) : (str l).extract 0 n = str (l.take n) := by
  apply ByteArray.ext; apply Array.ext'; simp [str]
theorem extract_drop (l : List UInt8) (n : Nat) : (str l).extract n (str l).size = str (l.drop n) := by
  apply ByteArray.ext; apply Array.ext'; simp [str, ByteArray.size]
  rw [List.take_of_length_le (by simp)]

theorem str_toList (l : List UInt8) : (str l).toList = l := by rw [Lib.toList_data]; rfl

theorem take_bad (C q : Nat) (n : Int) (l : List UInt8) (w : World) (hr : Rd w q l false) :
    Calls Tryz.prog 167 #[ptr q, .int .i64 n] w fun e w' => e = .returned (.string (str [])) ∧ Read C q w l false w' := by
  have Hr := Lib.hid hr
  clear hr
  go_enter Tryz.func167, Tryz.ntmps167
  go_wp2_with fail
  refine (bad_yes q l _ Hr.out).mono ?_; rintro e w1 ⟨rfl, rfl⟩
  go_wp2_with fail
  go_ret
  exact ⟨rfl, Hr.out, Only.refl _ _ _⟩
theorem take_nil (n : Int) (w : World) : Calls Tryz.prog 167 #[.pointer none, .int .i64 n] w fun e w' => e = .returned (.string (str [])) ∧ w = w' := by
  go_enter Tryz.func167, Tryz.ntmps167
  go_wp2_with fail
  refine (bad_nil _).mono ?_; rintro e w1 ⟨rfl, rfl⟩
  go_wp2_with fail
  go_ret
  exact ⟨rfl, rfl⟩

theorem take_short (C q : Nat) (n : Nat) (l : List UInt8) (w : World) (hn : l.length < n) (hl : l.length ≤ 1000000) (hr : Rd w q l true) :
    Calls Tryz.prog 167 #[ptr q, .int .i64 (n : Int)] w fun e w' => e = .returned (.string (str [])) ∧ Read C q w [] false w' := by
  have Hr := Lib.hid hr
  have Hp := Lib.hid (show Read C q w [] false ((w.setCell ⟨q, 0, none⟩ (.string (str []))).setCell ⟨q, 1, none⟩ (.bool false)) from ⟨(hr.cut []).spoilt, ((Only.refl C q w).setCell 0 _).setCell 1 _⟩)
  have hc0 : w.cell? ⟨q, 0, none⟩ = some (.string (str l)) := cell_of_row w q 0 _ _ _ hr
  have hc1 : w.cell? ⟨q, 1, none⟩ = some (.bool true) := cell_of_row w q 1 _ _ _ hr
  have hf0 : w.frozen? ⟨q, 0, none⟩ = false := frozen_of_heap w q 0 _ _ hr
  have hf1 : w.frozen? ⟨q, 1, none⟩ = false := frozen_of_heap w q 1 _ _ hr
  have hs : (str l).size < n := hn
  have hb : (str l).size ≤ 1000000 := hl
  generalize hx : str l = x at *
  clear hr hx
  go_enter Tryz.func167, Tryz.ntmps167
  go_wp2_with fail
  refine (bad_no q l _ Hr.out).mono ?_; rintro e w1 ⟨rfl, rfl⟩
  go_wp2_with fail
  go_ret
  exact ⟨rfl, Hp.out⟩
theorem take_ok (C q : Nat) (n : Nat) (l : List UInt8) (w : World) (hn : n ≤ l.length) (hl : l.length ≤ 1000000) (hr : Rd w q l true) :
    Calls Tryz.prog 167 #[ptr q, .int .i64 (n : Int)] w fun e w' => e = .returned (.string (str (l.take n))) ∧ Read C q w (l.drop n) true w' := by
  have Hr := Lib.hid hr
  have Hp := Lib.hid (show Read C q w (l.drop n) true (w.setCell ⟨q, 0, none⟩ (.string (str (l.drop n)))) from ⟨hr.cut _, (Only.refl C q w).setCell 0 _⟩)
  have hc0 : w.cell? ⟨q, 0, none⟩ = some (.string (str l)) := cell_of_row w q 0 _ _ _ hr
  have hc1 : w.cell? ⟨q, 1, none⟩ = some (.bool true) := cell_of_row w q 1 _ _ _ hr
  have hf0 : w.frozen? ⟨q, 0, none⟩ = false := frozen_of_heap w q 0 _ _ hr
  have hf1 : w.frozen? ⟨q, 1, none⟩ = false := frozen_of_heap w q 1 _ _ hr
  have hs : n ≤ (str l).size := hn
  have hb : (str l).size ≤ 1000000 := hl
  have hn' : n ≤ 1000000 := by omega
  have Hs : Hid (¬ (str l).size < n) := Lib.hid (by omega)
  rw [← extract_take]
  rw [← extract_drop] at Hp
  generalize hx : str l = x at *
  clear hr hx
  have hs' := Hs.out
  go_enter Tryz.func167, Tryz.ntmps167
  go_wp2_with fail
  refine (bad_no q l _ Hr.out).mono ?_; rintro e w1 ⟨rfl, rfl⟩
  go_wp2_with fail
  go_ret
  exact ⟨rfl, Hp.out⟩

theorem to_bytes (w : World) (m : List UInt8) : ∃ c w2, (convert 9 70 (.string (str m))).run Tryz.prog w = .ok (.slice (some ⟨w.heap.size, 0, none⟩) m.length c) w2 ∧
    (∀ k (hk : k < m.length), w2.cell? ⟨w.heap.size, k, none⟩ = some (.int .u8 ((m[k]'hk).toNat : Int))) ∧ Below w.heap.size w w2 ∧ m.length ≤ c := by
  refine ⟨_, _, run_bytes_of_string (P := Tryz.prog) w 9 70 5 (str m) Tryz.underlying9 Tryz.underlying70 Tryz.underlying5, fun k hk => ?_, (Below.refl _ _).drew.alloc (Nat.le_refl _) _, grownCap_ge _ _ _ _⟩
  have hh := World.cell?_alloc_mark w.drew (bytesRow (str m) (grownCap w (str m).size 0 5)) 5 ((bytesRow (str m) (grownCap w (str m).size 0 5)).size, (bytesRow (str m) (grownCap w (str m).size 0 5)).size + 1) k
  refine hh.trans ?_
  rw [bytesRow_at (str m) _ k (by simpa [str] using hk)]
  simp [str]

theorem num_take (m : List UInt8) (k : Nat) (hk : k < m.length) : num (m.take (k + 1)) = num (m.take k) * 256 + m[k].toNat := by
  rw [List.take_succ_eq_append_getElem hk, num_snoc]

theorem shl_or (a b : Nat) (ha : a < 16777216) (hb : b < 256) : bits .or .u32 ((a : Int) * 256) (b : Int) = ((a * 256 + b : Nat) : Int) := by
  rw [show ((a : Int) * 256) = ((a * 256 : Nat) : Int) by omega, u32_or_nat _ _ (by omega) (by omega)]
  have := Nat.two_pow_add_eq_or_of_lt (i := 8) (b := b) hb a
  rw [show a * 256 = 2 ^ 8 * a by omega, ← this]

set_option maxHeartbeats 400000 in
theorem number_r (r : Value) (n : Int) (m : List UInt8) (hm : m.length ≤ 4) (Q : World → Prop) (w : World)
    (ht : Calls Tryz.prog 167 #[r, .int .i64 n] w fun e w' => e = .returned (.string (str m)) ∧ Q w') :
    Calls Tryz.prog 152 #[r, .int .i64 n] w fun e w' => e = .returned (.int .i64 (num m : Int)) ∧ ∃ w1, Q w1 ∧ Below w1.heap.size w1 w' := by
  have Ht := Lib.hid ht
  clear ht
  go_enter Tryz.func152, Tryz.ntmps152
  go_wp2_with fail
  refine (Ht.out).mono ?_; rintro e w1 ⟨rfl, hq⟩
  obtain ⟨c, w2, hcv, hcell, hb, hmc⟩ := to_bytes w1 m
  have Hq := Lib.hid hq
  have Hc := Lib.hid hcell
  have Hb := Lib.hid hb
  clear hq hcell hb
  go_wp2_with fail
  go_loop [5, 7, 13] (fun v _ i => ∃ k : Nat, k ≤ m.length ∧ i = .int .i64 k ∧ v = .int .u32 (num (m.take k) : Nat)) (fun _ _ i => m.length - (intOf i).toNat)
  case atStart => exact ⟨0, Nat.zero_le _, rfl, rfl⟩
  case round =>
    obtain ⟨k, hk, rfl, rfl⟩ := hrel
    by_cases hlt : k < m.length
    · have hce := Hc.out k hlt
      have hl := num_lt (m.take k) (by simp; omega)
      have hb3 : num (m.take k) < 16777216 := by
        refine Nat.lt_of_lt_of_le hl ?_
        have h3 : (m.take k).length ≤ 3 := by simp; omega
        exact Nat.pow_le_pow_right (by omega) h3
      have hb8 : m[k].toNat < 256 := m[k].toNat_lt
      have Hn := Lib.hid (num_take m k hlt)
      generalize m[k].toNat = b at *
      generalize num (m.take k) = a at *
      have hA : (a : Int) < 16777216 := by omega
      have hB : (b : Int) < 256 := by omega
      clear hl
      go_wp2_with fail
      go_round
      case rel => exact ⟨k + 1, by omega, by go_num, by rw [Hn.out]; exact congrArg (Value.int IntKind.u32) (shl_or a b hb3 hb8)⟩
      case measure => simp [intOf]; omega
    · have hkm : m.length ≤ k := by omega
      have Hn := Lib.hid (show m.take k = m from List.take_of_length_le hkm)
      have hlt' : num (m.take k) < 4294967296 := by
        rw [Hn.out]
        exact Nat.lt_of_lt_of_le (num_lt m hm) (Nat.pow_le_pow_right (n := 256) (by omega) hm)
      have hA : ((num (m.take k) : Nat) : Int) < 4294967296 := by omega
      go_wp2_with fail
      go_ret
      exact ⟨by show Ending.returned (.int .i64 ((num (m.take k) : Nat) : Int)) = _; rw [Hn.out], _, Hq.out, Hb.out⟩

/-! A number of so many bytes: it is there; it is not; the Reader was bad already; there is no Reader. -/
theorem number_ok (C q n : Nat) (l : List UInt8) (w : World) (hn : n ≤ l.length) (h4 : n ≤ 4) (hl : l.length ≤ 1000000) (hC : C ≤ w.heap.size) (hr : Rd w q l true) :
    Calls Tryz.prog 152 #[ptr q, .int .i64 (n : Int)] w fun e w' => e = .returned (.int .i64 (num (l.take n) : Nat)) ∧ Read C q w (l.drop n) true w' :=
  (number_r (ptr q) n (l.take n) (by simp; omega) (Read C q w (l.drop n) true) w (take_ok C q n l w hn hl hr)).mono fun _ _ ⟨he, _, h1, h2⟩ => ⟨he, h1.on hC h2⟩
theorem number_short (C q n : Nat) (l : List UInt8) (w : World) (hn : l.length < n) (hl : l.length ≤ 1000000) (hC : C ≤ w.heap.size) (hr : Rd w q l true) :
    Calls Tryz.prog 152 #[ptr q, .int .i64 (n : Int)] w fun e w' => e = .returned (.int .i64 0) ∧ Read C q w [] false w' :=
  (number_r (ptr q) n [] (by simp) (Read C q w [] false) w (take_short C q n l w hn hl hr)).mono fun _ _ ⟨he, _, h1, h2⟩ => ⟨he, h1.on hC h2⟩
theorem number_bad (C q : Nat) (n : Int) (l : List UInt8) (w : World) (hC : C ≤ w.heap.size) (hr : Rd w q l false) :
    Calls Tryz.prog 152 #[ptr q, .int .i64 n] w fun e w' => e = .returned (.int .i64 0) ∧ Read C q w l false w' :=
  (number_r (ptr q) n [] (by simp) (Read C q w l false) w (take_bad C q n l w hr)).mono fun _ _ ⟨he, _, h1, h2⟩ => ⟨he, h1.on hC h2⟩
theorem number_none (n : Int) (w : World) :
    Calls Tryz.prog 152 #[.pointer none, .int .i64 n] w fun e w' => e = .returned (.int .i64 0) ∧ Below w.heap.size w w' :=
  (number_r (.pointer none) n [] (by simp) (fun w' => w = w') w (take_nil n w)).mono fun _ _ ⟨he, _, h1, h2⟩ => ⟨he, by subst h1; exact h2⟩

theorem of_number2 (r : Value) (x : Int) (w : World) (Q : World → Prop) (h : Calls Tryz.prog 152 #[r, .int .i64 2] w fun e w' => e = .returned (.int .i64 x) ∧ Q w') : Calls Tryz.prog 122 #[r] w fun e w' => e = .returned (.int .i64 x) ∧ Q w' := by
  have H := Lib.hid h
  clear h
  go_enter Tryz.func122, Tryz.ntmps122
  go_wp2_with fail
  refine (H.out).mono ?_; rintro e w1 ⟨rfl, hq⟩
  have Hq := Lib.hid hq
  clear hq
  go_wp2_with fail
  go_ret
  exact ⟨rfl, Hq.out⟩
theorem of_number4 (r : Value) (x : Int) (w : World) (Q : World → Prop) (h : Calls Tryz.prog 152 #[r, .int .i64 4] w fun e w' => e = .returned (.int .i64 x) ∧ Q w') : Calls Tryz.prog 123 #[r] w fun e w' => e = .returned (.int .i64 x) ∧ Q w' := by
  have H := Lib.hid h
  clear h
  go_enter Tryz.func123, Tryz.ntmps123
  go_wp2_with fail
  refine (H.out).mono ?_; rintro e w1 ⟨rfl, hq⟩
  have Hq := Lib.hid hq
  clear hq
  go_wp2_with fail
  go_ret
  exact ⟨rfl, Hq.out⟩

/-! Num and Long of a Reader. -/
theorem rnum_ok (C q : Nat) (v : Int) (l : List UInt8) (w : World) (h0 : 0 ≤ v) (h1 : v ≤ 65535) (hl : l.length ≤ 900000) (hC : C ≤ w.heap.size) (hr : Rd w q (w2 v ++ l) true) :
    Calls Tryz.prog 122 #[ptr q] w fun e w' => e = .returned (.int .i64 v) ∧ Read C q w l true w' :=
  of_number2 _ _ _ _ ((number_ok C q 2 (w2 v ++ l) w (by simp [w2_length]) (by omega) (by simp [w2_length]; omega) hC hr).mono fun e w' ⟨he, hw⟩ =>
    ⟨by rw [he, show (w2 v ++ l).take 2 = w2 v from rfl, num_w2 v h0 h1], hw⟩)
theorem rlong_ok (C q : Nat) (v : Int) (l : List UInt8) (w : World) (h0 : 0 ≤ v) (h1 : v ≤ 4294967295) (hl : l.length ≤ 900000) (hC : C ≤ w.heap.size) (hr : Rd w q (w4 v ++ l) true) :
    Calls Tryz.prog 123 #[ptr q] w fun e w' => e = .returned (.int .i64 v) ∧ Read C q w l true w' :=
  of_number4 _ _ _ _ ((number_ok C q 4 (w4 v ++ l) w (by simp [w4_length]) (by omega) (by simp [w4_length]; omega) hC hr).mono fun e w' ⟨he, hw⟩ =>
    ⟨by rw [he, show (w4 v ++ l).take 4 = w4 v from rfl, num_w4 v h0 h1], hw⟩)
theorem rnum_short (C q : Nat) (l : List UInt8) (w : World) (hl : l.length < 2) (hC : C ≤ w.heap.size) (hr : Rd w q l true) :
    Calls Tryz.prog 122 #[ptr q] w fun e w' => e = .returned (.int .i64 0) ∧ Read C q w [] false w' :=
  of_number2 _ _ _ _ (number_short C q 2 l w hl (by omega) hC hr)
theorem rlong_short (C q : Nat) (l : List UInt8) (w : World) (hl : l.length < 4) (hC : C ≤ w.heap.size) (hr : Rd w q l true) :
    Calls Tryz.prog 123 #[ptr q] w fun e w' => e = .returned (.int .i64 0) ∧ Read C q w [] false w' :=
  of_number4 _ _ _ _ (number_short C q 4 l w hl (by omega) hC hr)
theorem rnum_bad (C q : Nat) (l : List UInt8) (w : World) (hC : C ≤ w.heap.size) (hr : Rd w q l false) :
    Calls Tryz.prog 122 #[ptr q] w fun e w' => e = .returned (.int .i64 0) ∧ Read C q w l false w' :=
  of_number2 _ _ _ _ (number_bad C q 2 l w hC hr)
theorem rlong_bad (C q : Nat) (l : List UInt8) (w : World) (hC : C ≤ w.heap.size) (hr : Rd w q l false) :
    Calls Tryz.prog 123 #[ptr q] w fun e w' => e = .returned (.int .i64 0) ∧ Read C q w l false w' :=
  of_number4 _ _ _ _ (number_bad C q 4 l w hC hr)
theorem rnum_nil (w : World) : Calls Tryz.prog 122 #[.pointer none] w fun e w' => e = .returned (.int .i64 0) ∧ Below w.heap.size w w' :=
  of_number2 _ _ _ _ (number_none 2 w)
theorem rlong_nil (w : World) : Calls Tryz.prog 123 #[.pointer none] w fun e w' => e = .returned (.int .i64 0) ∧ Below w.heap.size w w' :=
  of_number4 _ _ _ _ (number_none 4 w)

/-! Text of a Reader. -/
theorem rtext_ok (C q : Nat) (s : ByteArray) (l : List UInt8) (w : World) (hs : s.size ≤ 65535) (hl : l.length ≤ 800000) (hC : C ≤ w.heap.size) (hr : Rd w q (w2 s.size ++ (s.data.toList ++ l)) true) :
    Calls Tryz.prog 153 #[ptr q] w fun e w' => e = .returned (.string s) ∧ Read C q w l true w' := by
  have Hr := Lib.hid hr
  have e1 : s.data.toList.length = s.size := by simp
  have HC := Lib.hid hC
  clear hr hC
  go_enter Tryz.func153, Tryz.ntmps153
  go_wp2_with fail
  refine (rnum_ok C q s.size (s.data.toList ++ l) _ (by omega) (by omega) (by simp; omega) HC.out Hr.out).mono ?_; rintro e w1 ⟨rfl, hr1⟩
  have H1 := Lib.hid hr1
  clear hr1
  go_wp2_with fail
  refine (take_ok C q s.size (s.data.toList ++ l) _ (by simp) (by simp; omega) H1.out.1).mono ?_; rintro e w2 ⟨rfl, hr2⟩
  have H2 := Lib.hid (H1.out.then hr2)
  clear hr2
  go_wp2_with fail
  go_ret
  have t2 : (s.data.toList ++ l).drop s.size = l := by rw [← e1, List.drop_left]
  exact ⟨rfl, by have := H2.out; rw [t2] at this; exact this⟩

theorem rtext_short (C q : Nat) (n : Nat) (l : List UInt8) (w : World) (hn : n ≤ 65535) (hl : l.length < n) (hC : C ≤ w.heap.size) (hr : Rd w q (w2 n ++ l) true) :
    Calls Tryz.prog 153 #[ptr q] w fun e w' => e = .returned (.string (str [])) ∧ Read C q w [] false w' := by
  have Hr := Lib.hid hr
  have HC := Lib.hid hC
  clear hr hC
  go_enter Tryz.func153, Tryz.ntmps153
  go_wp2_with fail
  refine (rnum_ok C q n l _ (by omega) (by omega) (by omega) HC.out Hr.out).mono ?_; rintro e w1 ⟨rfl, hr1⟩
  have H1 := Lib.hid hr1
  clear hr1
  go_wp2_with fail
  refine (take_short C q n l _ hl (by omega) H1.out.1).mono ?_; rintro e w2 ⟨rfl, hr2⟩
  have H2 := Lib.hid (H1.out.then hr2)
  clear hr2
  go_wp2_with fail
  go_ret
  exact ⟨rfl, H2.out⟩

/-- Behind a Num that finds no number, Text finds no text. -/
theorem rtext_of (C q : Nat) (l m : List UInt8) (b : Bool) (w : World) (hn : Calls Tryz.prog 122 #[ptr q] w fun e w' => e = .returned (.int .i64 0) ∧ Read C q w m false w') :
    Calls Tryz.prog 153 #[ptr q] w fun e w' => e = .returned (.string (str [])) ∧ Read C q w m false w' := by
  have Hr := Lib.hid hn
  clear hn
  go_enter Tryz.func153, Tryz.ntmps153
  go_wp2_with fail
  refine (Hr.out).mono ?_; rintro e w1 ⟨rfl, hr1⟩
  have H1 := Lib.hid hr1
  clear hr1
  go_wp2_with fail
  refine (take_bad C q 0 m _ H1.out.1).mono ?_; rintro e w2 ⟨rfl, hr2⟩
  have H2 := Lib.hid (H1.out.then hr2)
  clear hr2
  go_wp2_with fail
  go_ret
  exact ⟨rfl, H2.out⟩
theorem rtext_few (C q : Nat) (l : List UInt8) (w : World) (hl : l.length < 2) (hC : C ≤ w.heap.size) (hr : Rd w q l true) :
    Calls Tryz.prog 153 #[ptr q] w fun e w' => e = .returned (.string (str [])) ∧ Read C q w [] false w' := rtext_of C q l [] true w (rnum_short C q l w hl hC hr)
theorem rtext_bad (C q : Nat) (l : List UInt8) (w : World) (hC : C ≤ w.heap.size) (hr : Rd w q l false) :
    Calls Tryz.prog 153 #[ptr q] w fun e w' => e = .returned (.string (str [])) ∧ Read C q w l false w' := rtext_of C q l l true w (rnum_bad C q l w hC hr)
theorem rtext_nil (w : World) : Calls Tryz.prog 153 #[.pointer none] w fun e w' => e = .returned (.string (str [])) ∧ Below w.heap.size w w' := by
  go_enter Tryz.func153, Tryz.ntmps153
  go_wp2_with fail
  refine (rnum_nil _).mono ?_; rintro e w1 ⟨rfl, hr1⟩
  have H1 := Lib.hid hr1
  clear hr1
  go_wp2_with fail
  refine (take_nil 0 _).mono ?_; rintro e w2 ⟨rfl, rfl⟩
  go_wp2_with fail
  go_ret
  exact ⟨rfl, H1.out⟩

/-- From makes one block. -/
theorem from_any (l : List UInt8) (w : World) : Calls Tryz.prog 88 #[.string (str l)] w fun e w' => e = .returned (ptr w.heap.size) ∧ w.alloc (.cells #[.string (str l), .bool true] 186) = w' := by
  generalize str l = s
  go_enter Tryz.func88, Tryz.ntmps88
  go_wp2_with fail
  go_ret
  exact ⟨rfl, rfl⟩

end Go.Proofs.YtnjggoeahaglbaaGreat.Rc

/- The contracts of the Reader, whatever its state: a number, a text. -/
namespace Go.Proofs.YtnjggoeahaglbaaGreat.Rc
open Go.ChangeShapes Go.WideShapes Go.ChangeAt Go.RowKit
set_option linter.unusedVariables false
set_option maxRecDepth 100000
/-- A Reader's state. -/
def RdS (w : World) (q : Nat) (s : RS) : Prop := Rd w q s.1 s.2
def ReadS (C q : Nat) (w : World) (s : RS) (w' : World) : Prop := RdS w' q s ∧ Only C q w w'
theorem ReadS.then {C q : Nat} {w w1 w2 : World} {s t : RS} (h : ReadS C q w s w1) (k : ReadS C q w1 t w2) : ReadS C q w t w2 := ⟨k.1, h.2.trans k.2⟩
theorem ReadS.size {C q : Nat} {w w' : World} {s : RS} (h : ReadS C q w s w') : w.heap.size ≤ w'.heap.size := h.2.size
def Few (s : RS) : Prop := s.1.length ≤ 800000
theorem few_take {s : RS} (h : Few s) (n : Nat) : Few (takeR n s).2 := by
  unfold Few takeR at *
  split
  · split
    · simp; omega
    · simp
  · exact h
theorem few_num {s : RS} (h : Few s) : Few (numR s).2 := few_take h 2
theorem few_long {s : RS} (h : Few s) : Few (longR s).2 := few_take h 4
theorem few_text {s : RS} (h : Few s) : Few (textR s).2 := few_take (few_num h) _
theorem few_flag {s : RS} (h : Few s) : Few (flagR s).2 := few_num h
theorem few_listN {α : Type} {f : RS → α × RS} (hf : ∀ s, Few s → Few (f s).2) : ∀ (n : Nat) {s : RS}, Few s → Few (listN f n s).2
  | 0, s, h => h
  | n + 1, s, h => hf _ (few_listN hf n h)
theorem few_list {α : Type} {f : RS → α × RS} (hf : ∀ s, Few s → Few (f s).2) (m : Nat) {s : RS} (h : Few s) : Few (listR f m s).2 := few_listN hf _ (few_num h)
theorem few_pages {s : RS} (h : Few s) : Few (pagesR s).2 := few_list (fun _ h => few_num h) 64 h
theorem few_pt {s : RS} (h : Few s) : Few (ptR s).2 := few_text (few_num (few_num h))
theorem few_tx {s : RS} (h : Few s) : Few (txR s).2 := few_pages (few_flag (few_long (few_num h)))
theorem few_dy {s : RS} (h : Few s) : Few (dyR s).2 := few_long (few_num h)
theorem num_range (s : RS) (k : Nat) (hk : k ≤ 4) : num (takeR k s).1 < 256 ^ k := by
  have hl : (takeR k s).1.length ≤ k := by
    unfold takeR
    split
    · split
      · simp; omega
      · simp
    · simp
  exact Nat.lt_of_lt_of_le (num_lt _ (by omega)) (Nat.pow_le_pow_right (by omega) hl)
theorem numR_in (s : RS) : 0 ≤ (numR s).1 ∧ (numR s).1 ≤ 65535 := by
  have := num_range s 2 (by omega)
  unfold numR
  simp only
  omega
theorem longR_in (s : RS) : 0 ≤ (longR s).1 ∧ (longR s).1 ≤ 4294967295 := by
  have := num_range s 4 (by omega)
  unfold longR
  simp only
  omega
theorem textR_in {s : RS} (h : Few s) : (textR s).1.size ≤ 800000 := by
  unfold textR
  rw [str_size]
  have := few_num h
  generalize (numR s).2 = t at *
  unfold takeR Few at *
  split
  · split
    · simp; omega
    · simp
  · simp
theorem take_any (C q n : Nat) (s : RS) (w : World) (hs : Few s) (hr : RdS w q s) : Calls Tryz.prog 167 #[ptr q, .int .i64 (n : Int)] w fun e w' => e = .returned (.string (str (takeR n s).1)) ∧ ReadS C q w (takeR n s).2 w' := by
  obtain ⟨l, g⟩ := s
  unfold Few at hs
  simp only at hs
  cases g with
  | true =>
    by_cases h : n ≤ l.length
    · have e : takeR n (l, true) = (l.take n, (l.drop n, true)) := by simp [takeR, h]
      rw [e]
      exact take_ok C q n l w h (by omega) hr
    · have e : takeR n (l, true) = ([], ([], false)) := by simp [takeR, h]
      rw [e]
      exact take_short C q n l w (by omega) (by omega) hr
  | false => exact take_bad C q n l w hr
theorem number_any (C q n : Nat) (s : RS) (w : World) (h4 : n ≤ 4) (hs : Few s) (hC : C ≤ w.heap.size) (hr : RdS w q s) : Calls Tryz.prog 152 #[ptr q, .int .i64 (n : Int)] w fun e w' => e = .returned (.int .i64 (num (takeR n s).1 : Nat)) ∧ ReadS C q w (takeR n s).2 w' := by
  obtain ⟨l, g⟩ := s
  unfold Few at hs
  simp only at hs
  cases g with
  | true =>
    by_cases h : n ≤ l.length
    · have e : takeR n (l, true) = (l.take n, (l.drop n, true)) := by simp [takeR, h]
      rw [e]
      exact number_ok C q n l w h h4 (by omega) hC hr
    · have e : takeR n (l, true) = ([], ([], false)) := by simp [takeR, h]
      rw [e]
      exact number_short C q n l w (by omega) (by omega) hC hr
  | false => exact number_bad C q n l w hC hr
theorem rnum_any (C q : Nat) (s : RS) (w : World) (hs : Few s) (hC : C ≤ w.heap.size) (hr : RdS w q s) : Calls Tryz.prog 122 #[ptr q] w fun e w' => e = .returned (.int .i64 (numR s).1) ∧ ReadS C q w (numR s).2 w' :=
  of_number2 _ _ _ _ (number_any C q 2 s w (by omega) hs hC hr)
theorem rlong_any (C q : Nat) (s : RS) (w : World) (hs : Few s) (hC : C ≤ w.heap.size) (hr : RdS w q s) : Calls Tryz.prog 123 #[ptr q] w fun e w' => e = .returned (.int .i64 (longR s).1) ∧ ReadS C q w (longR s).2 w' :=
  of_number4 _ _ _ _ (number_any C q 4 s w (by omega) hs hC hr)
theorem rtext_any (C q : Nat) (s : RS) (w : World) (hs : Few s) (hC : C ≤ w.heap.size) (hr : RdS w q s) : Calls Tryz.prog 153 #[ptr q] w fun e w' => e = .returned (.string (textR s).1) ∧ ReadS C q w (textR s).2 w' := by
  have NU := Lib.hid (rnum_any C q s w hs hC hr)
  have hin := numR_in s
  have HX : Hid (∀ w1, ReadS C q w (numR s).2 w1 → Calls Tryz.prog 167 #[ptr q, .int .i64 (numR s).1] w1 fun e w' => e = .returned (.string (textR s).1) ∧ ReadS C q w (textR s).2 w') := fun w1 h1 => by
    have h := take_any C q (numR s).1.toNat (numR s).2 w1 (few_num hs) h1.1
    rw [Int.toNat_of_nonneg hin.1] at h
    exact h.mono fun e w' ⟨a, b⟩ => ⟨a, h1.then b⟩
  clear hs hC hr hin
  generalize (numR s).1 = v at *
  generalize (textR s).1 = x at *
  go_enter Tryz.func153, Tryz.ntmps153
  go_wp2_with fail
  refine (NU.out).mono ?_; rintro e w1 ⟨rfl, hr1⟩
  have TX := Lib.hid (HX.out w1 hr1)
  clear hr1 HX NU
  go_wp2_with fail
  refine TX.out.mono ?_; rintro e w2 ⟨rfl, hr2⟩
  have H2 := Lib.hid hr2
  clear hr2 TX
  go_wp2_with fail
  go_ret
  exact ⟨rfl, H2.out⟩
end Go.Proofs.YtnjggoeahaglbaaGreat.Rc

/- Lists of numbers, patches, transactions, pages in memory; a record in memory. -/
namespace Go.Proofs.YtnjggoeahaglbaaGreat.Rc
open Go.ChangeShapes Go.WideShapes Go.ChangeAt Go.RowKit
set_option linter.unusedVariables false
set_option linter.unusedSimpArgs false
set_option maxRecDepth 100000
def rng (v : Int) : Prop := -9223372036854775808 ≤ v ∧ v ≤ 9223372036854775807
/-! A block, as it is. -/
def Bx (w : World) (B : Nat) (cs : Array Value) (t : TypeId) : Prop := w.heap[B]? = some (.cells cs t (0, 0))
theorem Bx.new (w : World) (cs : Array Value) (t : TypeId) : Bx (w.alloc (.cells cs t)) w.heap.size cs t := heap_alloc_new w _
theorem Bx.lt {w : World} {B : Nat} {cs : Array Value} {t : TypeId} (h : Bx w B cs t) : B < w.heap.size := block_of_heap h
theorem Bx.kept {w w' : World} {B C : Nat} {cs : Array Value} {t : TypeId} (h : Bx w B cs t) (hb : Below C w w') (hB : B < C) : Bx w' B cs t := (hb.block B hB).trans h
theorem Bx.held {w w' : World} {B : Nat} {cs : Array Value} {t : TypeId} (h : Bx w B cs t) (hb : Below w.heap.size w w') : Bx w' B cs t := h.kept hb h.lt
theorem Bx.only {w w' : World} {B C p : Nat} {cs : Array Value} {t : TypeId} (h : Bx w B cs t) (ho : Only C p w w') (hp : B ≠ p) (ht : t ≠ 5) : Bx w' B cs t := ho.typed B cs t _ hp ht h
theorem Bx.cell {w : World} {B : Nat} {cs : Array Value} {t : TypeId} (h : Bx w B cs t) (i : Nat) : w.cell? ⟨B, i, none⟩ = cs[i]? := cell_of_row _ _ _ _ _ _ h
theorem Bx.free {w : World} {B : Nat} {cs : Array Value} {t : TypeId} (h : Bx w B cs t) (i : Nat) : w.frozen? ⟨B, i, none⟩ = false := frozen_of_heap _ _ _ _ _ h
theorem Bx.alloc {w : World} {B : Nat} {cs : Array Value} {t : TypeId} (h : Bx w B cs t) (o : Obj) : Bx (w.alloc o) B cs t := (Below.heap_alloc w o B h.lt).trans h
/-! Lists that came in, or were made: all below C. -/
def IntsM (C : Nat) (w : World) (A : Option Addr) (n : Nat) (l : List Int) : Prop :=
  l.length = n ∧ n ≤ maxLen ∧ ∀ k, k < n → ∃ b off, A = some ⟨b, off, none⟩ ∧ b < C ∧ w.cell? ⟨b, off + k, none⟩ = some (.int .i64 (l.getD k 0)) ∧ rng (l.getD k 0)
def PtAt (w : World) (b off : Nat) (p : Pt) : Prop := w.cell? ⟨b, off, none⟩ = some (.int .i64 p.pg) ∧ w.cell? ⟨b, off + 1, none⟩ = some (.int .i64 p.ofs) ∧ w.cell? ⟨b, off + 2, none⟩ = some (.string p.bs)
def PtW (p : Pt) : Prop := rng p.pg ∧ rng p.ofs ∧ p.bs.size ≤ maxLen
def PtsM (C : Nat) (w : World) (A : Option Addr) (n : Nat) (l : List Pt) : Prop :=
  l.length = n ∧ n ≤ maxLen ∧ ∀ k, k < n → ∃ b off, A = some ⟨b, off, none⟩ ∧ b < C ∧ PtAt w b (off + k * 3) (l.getD k nilP) ∧ PtW (l.getD k nilP)
def DyAt (w : World) (b off : Nat) (d : Dy) : Prop := w.cell? ⟨b, off, none⟩ = some (.int .i64 d.page) ∧ w.cell? ⟨b, off + 1, none⟩ = some (.int .i64 d.lsn)
def DyW (d : Dy) : Prop := rng d.page ∧ rng d.lsn
def DysM (C : Nat) (w : World) (A : Option Addr) (n : Nat) (l : List Dy) : Prop :=
  l.length = n ∧ n ≤ maxLen ∧ ∀ k, k < n → ∃ b off, A = some ⟨b, off, none⟩ ∧ b < C ∧ DyAt w b (off + k * 2) (l.getD k nilD) ∧ DyW (l.getD k nilD)
def TxAt (C : Nat) (w : World) (b off : Nat) (t : Tx) : Prop := w.cell? ⟨b, off, none⟩ = some (.int .i64 t.id) ∧ w.cell? ⟨b, off + 1, none⟩ = some (.int .i64 t.last) ∧ w.cell? ⟨b, off + 2, none⟩ = some (.bool t.com) ∧ ∃ A n c, w.cell? ⟨b, off + 3, none⟩ = some (.slice A n c) ∧ IntsM C w A n t.pages
def TxW (t : Tx) : Prop := rng t.id ∧ rng t.last
def TxsM (C : Nat) (w : World) (A : Option Addr) (n : Nat) (l : List Tx) : Prop :=
  l.length = n ∧ n ≤ maxLen ∧ ∀ k, k < n → ∃ b off, A = some ⟨b, off, none⟩ ∧ b < C ∧ TxAt C w b (off + k * 4) (l.getD k nilT) ∧ TxW (l.getD k nilT)
theorem cell_kept {C : Nat} {w w' : World} (hb : Below C w w') {b off : Nat} (hC : b < C) {v : Value} (h : w.cell? ⟨b, off, none⟩ = some v) : w'.cell? ⟨b, off, none⟩ = some v := (hb.cell (p := ⟨b, off, none⟩) hC).trans h
theorem IntsM.kept {C : Nat} {w w' : World} {A : Option Addr} {n : Nat} {l : List Int} (h : IntsM C w A n l) (hb : Below C w w') : IntsM C w' A n l :=
  ⟨h.1, h.2.1, fun k hk => by
    obtain ⟨b, off, h1, h2, h3, h4⟩ := h.2.2 k hk
    exact ⟨b, off, h1, h2, cell_kept hb h2 h3, h4⟩⟩
theorem IntsM.more {C D : Nat} {w : World} {A : Option Addr} {n : Nat} {l : List Int} (h : IntsM C w A n l) (hD : C ≤ D) : IntsM D w A n l :=
  ⟨h.1, h.2.1, fun k hk => by
    obtain ⟨b, off, h1, h2, h3⟩ := h.2.2 k hk
    exact ⟨b, off, h1, Nat.lt_of_lt_of_le h2 hD, h3⟩⟩
theorem IntsM.nil (C : Nat) (w : World) (A : Option Addr) : IntsM C w A 0 [] := ⟨rfl, Nat.zero_le _, fun k hk => absurd hk (Nat.not_lt_zero _)⟩
theorem PtAt.kept {C : Nat} {w w' : World} {b off : Nat} {p : Pt} (h : PtAt w b off p) (hC : b < C) (hb : Below C w w') : PtAt w' b off p :=
  ⟨cell_kept hb hC h.1, cell_kept hb hC h.2.1, cell_kept hb hC h.2.2⟩
theorem PtsM.kept {C : Nat} {w w' : World} {A : Option Addr} {n : Nat} {l : List Pt} (h : PtsM C w A n l) (hb : Below C w w') : PtsM C w' A n l :=
  ⟨h.1, h.2.1, fun k hk => by
    obtain ⟨b, off, h1, h2, h3, h4⟩ := h.2.2 k hk
    exact ⟨b, off, h1, h2, h3.kept h2 hb, h4⟩⟩
theorem PtsM.more {C D : Nat} {w : World} {A : Option Addr} {n : Nat} {l : List Pt} (h : PtsM C w A n l) (hD : C ≤ D) : PtsM D w A n l :=
  ⟨h.1, h.2.1, fun k hk => by
    obtain ⟨b, off, h1, h2, h3⟩ := h.2.2 k hk
    exact ⟨b, off, h1, Nat.lt_of_lt_of_le h2 hD, h3⟩⟩
theorem PtsM.nil (C : Nat) (w : World) (A : Option Addr) : PtsM C w A 0 [] := ⟨rfl, Nat.zero_le _, fun k hk => absurd hk (Nat.not_lt_zero _)⟩
theorem DyAt.kept {C : Nat} {w w' : World} {b off : Nat} {p : Dy} (h : DyAt w b off p) (hC : b < C) (hb : Below C w w') : DyAt w' b off p :=
  ⟨cell_kept hb hC h.1, cell_kept hb hC h.2⟩
theorem DysM.kept {C : Nat} {w w' : World} {A : Option Addr} {n : Nat} {l : List Dy} (h : DysM C w A n l) (hb : Below C w w') : DysM C w' A n l :=
  ⟨h.1, h.2.1, fun k hk => by
    obtain ⟨b, off, h1, h2, h3, h4⟩ := h.2.2 k hk
    exact ⟨b, off, h1, h2, h3.kept h2 hb, h4⟩⟩
theorem DysM.more {C D : Nat} {w : World} {A : Option Addr} {n : Nat} {l : List Dy} (h : DysM C w A n l) (hD : C ≤ D) : DysM D w A n l :=
  ⟨h.1, h.2.1, fun k hk => by
    obtain ⟨b, off, h1, h2, h3⟩ := h.2.2 k hk
    exact ⟨b, off, h1, Nat.lt_of_lt_of_le h2 hD, h3⟩⟩
theorem DysM.nil (C : Nat) (w : World) (A : Option Addr) : DysM C w A 0 [] := ⟨rfl, Nat.zero_le _, fun k hk => absurd hk (Nat.not_lt_zero _)⟩
theorem TxAt.kept {C : Nat} {w w' : World} {b off : Nat} {p : Tx} (h : TxAt C w b off p) (hC : b < C) (hb : Below C w w') : TxAt C w' b off p := by
  obtain ⟨h1, h2, h3, A, n, c, h4, h5⟩ := h
  exact ⟨cell_kept hb hC h1, cell_kept hb hC h2, cell_kept hb hC h3, A, n, c, cell_kept hb hC h4, h5.kept hb⟩
theorem TxAt.more {C D : Nat} {w : World} {b off : Nat} {p : Tx} (h : TxAt C w b off p) (hD : C ≤ D) : TxAt D w b off p := by
  obtain ⟨h1, h2, h3, A, n, c, h4, h5⟩ := h
  exact ⟨h1, h2, h3, A, n, c, h4, h5.more hD⟩
theorem TxsM.kept {C : Nat} {w w' : World} {A : Option Addr} {n : Nat} {l : List Tx} (h : TxsM C w A n l) (hb : Below C w w') : TxsM C w' A n l :=
  ⟨h.1, h.2.1, fun k hk => by
    obtain ⟨b, off, h1, h2, h3, h4⟩ := h.2.2 k hk
    exact ⟨b, off, h1, h2, h3.kept h2 hb, h4⟩⟩
theorem TxsM.more {C D : Nat} {w : World} {A : Option Addr} {n : Nat} {l : List Tx} (h : TxsM C w A n l) (hD : C ≤ D) : TxsM D w A n l :=
  ⟨h.1, h.2.1, fun k hk => by
    obtain ⟨b, off, h1, h2, h3, h4⟩ := h.2.2 k hk
    exact ⟨b, off, h1, Nat.lt_of_lt_of_le h2 hD, h3.more hD, h4⟩⟩
theorem TxsM.nil (C : Nat) (w : World) (A : Option Addr) : TxsM C w A 0 [] := ⟨rfl, Nat.zero_le _, fun k hk => absurd hk (Nat.not_lt_zero _)⟩
/-! Values. -/
def ptv (p : Pt) : Value := .agg #[.int .i64 p.pg, .int .i64 p.ofs, .string p.bs]
def dyv (d : Dy) : Value := .agg #[.int .i64 d.page, .int .i64 d.lsn]
def txv (t : Tx) (A : Option Addr) (n c : Nat) : Value := .agg #[.int .i64 t.id, .int .i64 t.last, .bool t.com, .slice A n c]
def clv (c : Cl) : Value := .agg #[.string c.k, .string c.v, .int .i64 c.b, .int .i64 c.z]
/-- A slice's parts. -/
structure Sl where
  A : Option Addr
  n : Nat
  c : Nat
def sl0 : Sl := ⟨none, 0, 0⟩
/-- Where a record's lists are. -/
structure Hd where
  g : Sl
  p : Sl
  t : Sl
  d : Sl
def hd0 : Hd := ⟨sl0, sl0, sl0, sl0⟩
def rcv (r : Rc) (h : Hd) : Value := .agg #[.int .i64 r.kind, .int .i64 r.tx, .int .i64 r.prev, .int .i64 r.next, .string r.key, .bool r.had, .string r.old.k, .string r.old.v, .int .i64 r.old.b, .int .i64 r.old.z, .slice h.g.A h.g.n h.g.c, .slice h.p.A h.p.n h.p.c, .slice h.t.A h.t.n h.t.c, .slice h.d.A h.d.n h.d.c]
/-- A record's cells. -/
def rcs (r : Rc) (h : Hd) : Array Value := #[.int .i64 r.kind, .int .i64 r.tx, .int .i64 r.prev, .int .i64 r.next, .string r.key, .bool r.had, .string r.old.k, .string r.old.v, .int .i64 r.old.b, .int .i64 r.old.z, .slice h.g.A h.g.n h.g.c, .slice h.p.A h.p.n h.p.c, .slice h.t.A h.t.n h.t.c, .slice h.d.A h.d.n h.d.c]
def ClW (c : Cl) : Prop := rng c.b ∧ rng c.z ∧ c.k.size ≤ maxLen ∧ c.v.size ≤ maxLen
/-- A record reads as r. -/
structure RcM (C : Nat) (w : World) (r : Rc) (h : Hd) : Prop where
  kind : rng r.kind
  tx : rng r.tx
  prev : rng r.prev
  next : rng r.next
  key : r.key.size ≤ maxLen
  old : ClW r.old
  g : IntsM C w h.g.A h.g.n r.pages
  p : PtsM C w h.p.A h.p.n r.pts
  t : TxsM C w h.t.A h.t.n r.txs
  d : DysM C w h.d.A h.d.n r.dys
theorem RcM.kept {C : Nat} {w w' : World} {r : Rc} {h : Hd} (k : RcM C w r h) (hb : Below C w w') : RcM C w' r h :=
  ⟨k.kind, k.tx, k.prev, k.next, k.key, k.old, k.g.kept hb, k.p.kept hb, k.t.kept hb, k.d.kept hb⟩
theorem RcM.more {C D : Nat} {w : World} {r : Rc} {h : Hd} (k : RcM C w r h) (hD : C ≤ D) : RcM D w r h :=
  ⟨k.kind, k.tx, k.prev, k.next, k.key, k.old, k.g.more hD, k.p.more hD, k.t.more hD, k.d.more hD⟩
theorem zero_rng : rng 0 := by unfold rng; omega
theorem RcM.zero (C : Nat) (w : World) : RcM C w nilR hd0 :=
  ⟨zero_rng, zero_rng, zero_rng, zero_rng, Nat.zero_le _, ⟨zero_rng, zero_rng, Nat.zero_le _, Nat.zero_le _⟩, IntsM.nil _ _ _, PtsM.nil _ _ _, TxsM.nil _ _ _, DysM.nil _ _ _⟩
theorem getD_mem' {α : Type} {l : List α} {k : Nat} (d : α) (h : k < l.length) : l.getD k d ∈ l := by
  rw [List.getD_eq_getElem?_getD, List.getElem?_eq_getElem h]; exact List.getElem_mem h
theorem getD_at {α : Type} {l : List α} {k : Nat} {d : α} (h : k < l.length) : l.getD k d = l[k] := by simp [List.getD, h]
theorem take_snoc {α : Type} (l : List α) (k : Nat) (d : α) (h : k < l.length) : l.take (k + 1) = l.take k ++ [l.getD k d] := by
  rw [getD_at h, List.take_succ_eq_append_getElem h]
end Go.Proofs.YtnjggoeahaglbaaGreat.Rc

/- Which may be: numbers, patches, cells, lists, transactions, records. -/
namespace Go.Proofs.YtnjggoeahaglbaaGreat.Rc
open Go.ChangeShapes Go.WideShapes Go.ChangeAt Go.RowKit
set_option linter.unusedVariables false
set_option linter.unusedSimpArgs false
set_option maxRecDepth 100000
theorem number_is (v : Int) (h : rng v) (w : World) : Calls Tryz.prog 96 #[.int .i64 v] w fun e w' => e = .returned (.bool (two v)) ∧ w = w' := by
  obtain ⟨h1, h2⟩ := h
  by_cases h : 0 ≤ v ∧ v ≤ 65535
  · rw [show two v = true from decide_eq_true h]
    have hw : IntKind.u64.wrap v = v := by rw [IntKind.wrap_u64]; omega
    have hn : IntKind.u64.wrap v ≤ 65535 := by rw [hw]; exact h.2
    have hn2 : v ≤ 65535 := h.2
    clear h h1 h2 hw
    go_enter Tryz.func96, Tryz.ntmps96
    go_wp2_with fail
    go_ret
    exact ⟨rfl, rfl⟩
  · rw [show two v = false from decide_eq_false h]
    have hu := wrap_out v 65535 (by omega) h1 h2 (by omega)
    have hn : ¬ IntKind.u64.wrap v ≤ 65535 := by omega
    clear h h1 h2 hu
    go_enter Tryz.func96, Tryz.ntmps96
    go_wp2_with fail
    go_ret
    exact ⟨rfl, rfl⟩
theorem lsn_is (v : Int) (h : rng v) (w : World) : Calls Tryz.prog 97 #[.int .i64 v] w fun e w' => e = .returned (.bool (four v)) ∧ w = w' := by
  obtain ⟨h1, h2⟩ := h
  by_cases h : 0 ≤ v ∧ v ≤ 4294967295
  · rw [show four v = true from decide_eq_true h]
    have hw : IntKind.u64.wrap v = v := by rw [IntKind.wrap_u64]; omega
    have hn : IntKind.u64.wrap v ≤ 4294967295 := by rw [hw]; exact h.2
    have hn2 : v ≤ 4294967295 := h.2
    clear h h1 h2 hw
    go_enter Tryz.func97, Tryz.ntmps97
    go_wp2_with fail
    go_ret
    exact ⟨rfl, rfl⟩
  · rw [show four v = false from decide_eq_false h]
    have hu := wrap_out v 4294967295 (by omega) h1 h2 (by omega)
    have hn : ¬ IntKind.u64.wrap v ≤ 4294967295 := by omega
    clear h h1 h2 hu
    go_enter Tryz.func97, Tryz.ntmps97
    go_wp2_with fail
    go_ret
    exact ⟨rfl, rfl⟩
theorem kind_is (v : Int) (w : World) : Calls Tryz.prog 95 #[.int .i64 v] w fun e w' => e = .returned (.bool (rightK v)) ∧ w = w' := by
  by_cases h1 : 1 ≤ v
  · by_cases h2 : v ≤ 7
    · rw [show rightK v = true from decide_eq_true ⟨h1, h2⟩]
      go_enter Tryz.func95, Tryz.ntmps95
      go_wp2_with fail
      go_ret
      exact ⟨rfl, rfl⟩
    · rw [show rightK v = false from decide_eq_false (fun h => h2 h.2)]
      go_enter Tryz.func95, Tryz.ntmps95
      go_wp2_with fail
      go_ret
      exact ⟨rfl, rfl⟩
  · rw [show rightK v = false from decide_eq_false (fun h => h1 h.1)]
    go_enter Tryz.func95, Tryz.ntmps95
    go_wp2_with fail
    go_ret
    exact ⟨rfl, rfl⟩
theorem exists_is (v : Int) (w : World) : Calls Tryz.prog 138 #[.int .i64 v] w fun e w' => e = .returned (.bool (decide (0 ≤ v ∧ v < 64))) ∧ w = w' := by
  by_cases h1 : 0 ≤ v
  · by_cases h2 : v < 64
    · rw [decide_eq_true (show 0 ≤ v ∧ v < 64 from ⟨h1, h2⟩)]
      go_enter Tryz.func138, Tryz.ntmps138
      go_wp2_with fail
      go_ret
      exact ⟨rfl, rfl⟩
    · rw [decide_eq_false (show ¬ (0 ≤ v ∧ v < 64) from fun h => h2 h.2)]
      go_enter Tryz.func138, Tryz.ntmps138
      go_wp2_with fail
      go_ret
      exact ⟨rfl, rfl⟩
  · rw [decide_eq_false (show ¬ (0 ≤ v ∧ v < 64) from fun h => h1 h.1)]
    go_enter Tryz.func138, Tryz.ntmps138
    go_wp2_with fail
    go_ret
    exact ⟨rfl, rfl⟩
theorem within_is (v a b : Int) (w : World) : Calls Tryz.prog 159 #[.int .i64 v, .int .i64 a, .int .i64 b] w fun e w' => e = .returned (.bool (decide (a ≤ v ∧ v ≤ b))) ∧ w = w' := by
  by_cases h1 : a ≤ v
  · by_cases h2 : v ≤ b
    · rw [decide_eq_true (show a ≤ v ∧ v ≤ b from ⟨h1, h2⟩)]
      go_enter Tryz.func159, Tryz.ntmps159
      go_wp2_with fail
      go_ret
      exact ⟨rfl, rfl⟩
    · rw [decide_eq_false (show ¬ (a ≤ v ∧ v ≤ b) from fun h => h2 h.2)]
      go_enter Tryz.func159, Tryz.ntmps159
      go_wp2_with fail
      go_ret
      exact ⟨rfl, rfl⟩
  · rw [decide_eq_false (show ¬ (a ≤ v ∧ v ≤ b) from fun h => h1 h.1)]
    go_enter Tryz.func159, Tryz.ntmps159
    go_wp2_with fail
    go_ret
    exact ⟨rfl, rfl⟩
theorem key_is (s : ByteArray) (w : World) : Calls Tryz.prog 158 #[.string s] w fun e w' => e = .returned (.bool (decide (1 ≤ s.size ∧ s.size ≤ 16))) ∧ w = w' := by
  by_cases h1 : 1 ≤ s.size
  · have b1 : (1 : Int) ≤ (s.size : Int) := by omega
    by_cases h2 : s.size ≤ 16
    · have b2 : (s.size : Int) ≤ 16 := by omega
      rw [decide_eq_true (show 1 ≤ s.size ∧ s.size ≤ 16 from ⟨h1, h2⟩)]
      go_enter Tryz.func158, Tryz.ntmps158
      go_wp2_with fail
      go_ret
      exact ⟨rfl, rfl⟩
    · have b2 : ¬ (s.size : Int) ≤ 16 := by omega
      rw [decide_eq_false (show ¬ (1 ≤ s.size ∧ s.size ≤ 16) from fun h => h2 h.2)]
      go_enter Tryz.func158, Tryz.ntmps158
      go_wp2_with fail
      go_ret
      exact ⟨rfl, rfl⟩
  · have b1 : ¬ (1 : Int) ≤ (s.size : Int) := by omega
    rw [decide_eq_false (show ¬ (1 ≤ s.size ∧ s.size ≤ 16) from fun h => h1 h.1)]
    go_enter Tryz.func158, Tryz.ntmps158
    go_wp2_with fail
    go_ret
    exact ⟨rfl, rfl⟩
theorem pt_is (p : Pt) (hp : PtW p) (w : World) : Calls Tryz.prog 101 #[ptv p] w fun e w' => e = .returned (.bool (rightP p)) ∧ Below w.heap.size w w' := by
  obtain ⟨r1, r2, r3⟩ := hp
  unfold rng at r1 r2
  unfold maxLen at r3
  obtain ⟨pg, ofs, bs⟩ := p
  simp only at r1 r2 r3
  unfold ptv
  have EX := Lib.hid (fun w => exists_is pg w)
  have HA := Lib.hid ((Below.refl w.heap.size w).alloc (Nat.le_refl _) (.cells #[.int .i64 pg, .int .i64 ofs, .string bs] 110))
  have HX := Bx.new w #[.int .i64 pg, .int .i64 ofs, .string bs] 110
  have x0 := HX.cell 0
  have x1 := HX.cell 1
  have x2 := HX.cell 2
  clear HX
  simp at x0 x1 x2
  have e1 : IntKind.i64.wrap (256 - (bs.size : Int)) = 256 - (bs.size : Int) := IntWalk.i64_in _ (by omega)
  by_cases h1 : 0 ≤ pg ∧ pg < 64
  · rw [decide_eq_true h1] at EX
    by_cases h2 : 0 ≤ ofs
    · by_cases h3 : 0 < bs.size
      · have b3 : (bs.size : Int) > 0 := by omega
        by_cases h4 : ofs + bs.size ≤ 256
        · have b4 : ofs ≤ 256 - (bs.size : Int) := by omega
          rw [show rightP ⟨pg, ofs, bs⟩ = true from decide_eq_true ⟨h1.1, h1.2, h2, h3, h4⟩]
          clear h1 h3 h4 r1 r2
          go_enter Tryz.func101, Tryz.ntmps101
          go_wp2_with fail
          refine (EX.out _).mono ?_; rintro e w1 ⟨rfl, rfl⟩
          go_wp2_with fail
          go_ret
          exact ⟨rfl, HA.out⟩
        · have B4 := Lib.hid (show ¬ ofs ≤ 256 - (bs.size : Int) from by omega)
          rw [show rightP ⟨pg, ofs, bs⟩ = false from decide_eq_false (fun h => h4 h.2.2.2.2)]
          clear h1 h3 h4 r1 r2
          go_enter Tryz.func101, Tryz.ntmps101
          go_wp2_with fail
          refine (EX.out _).mono ?_; rintro e w1 ⟨rfl, rfl⟩
          go_wp2_with fail
          go_ret
          exact ⟨congrArg (fun b => Ending.returned (Value.bool b)) (decide_eq_false (by have := B4.out; omega)), HA.out⟩
      · have b3 : ¬ (bs.size : Int) > 0 := by omega
        rw [show rightP ⟨pg, ofs, bs⟩ = false from decide_eq_false (fun h => h3 h.2.2.2.1)]
        clear h1 h3 r1 r2
        go_enter Tryz.func101, Tryz.ntmps101
        go_wp2_with fail
        refine (EX.out _).mono ?_; rintro e w1 ⟨rfl, rfl⟩
        go_wp2_with fail
        go_ret
        exact ⟨rfl, HA.out⟩
    · rw [show rightP ⟨pg, ofs, bs⟩ = false from decide_eq_false (fun h => h2 h.2.2.1)]
      clear h1 r1 r2
      go_enter Tryz.func101, Tryz.ntmps101
      go_wp2_with fail
      refine (EX.out _).mono ?_; rintro e w1 ⟨rfl, rfl⟩
      go_wp2_with fail
      go_ret
      exact ⟨rfl, HA.out⟩
  · rw [decide_eq_false h1] at EX
    rw [show rightP ⟨pg, ofs, bs⟩ = false from decide_eq_false (fun h => h1 ⟨h.1, h.2.1⟩)]
    clear h1 r1 r2
    go_enter Tryz.func101, Tryz.ntmps101
    go_wp2_with fail
    refine (EX.out _).mono ?_; rintro e w1 ⟨rfl, rfl⟩
    go_wp2_with fail
    go_ret
    exact ⟨rfl, HA.out⟩
theorem rightC_iff {c : Cl} : rightC c = true ↔ (1 ≤ c.k.size ∧ c.k.size ≤ 16) ∧ (if c.b = 0 then c.v.size ≤ 40 ∧ c.z = 0 else 2 ≤ c.b ∧ c.b ≤ 63 ∧ c.v.size = 0 ∧ 41 ≤ c.z ∧ c.z ≤ 400) := by
  unfold rightC
  rw [Bool.and_eq_true, decide_eq_true_eq]
  split <;> simp
theorem rightC_no {c : Cl} (h : ¬ ((1 ≤ c.k.size ∧ c.k.size ≤ 16) ∧ (if c.b = 0 then c.v.size ≤ 40 ∧ c.z = 0 else 2 ≤ c.b ∧ c.b ≤ 63 ∧ c.v.size = 0 ∧ 41 ≤ c.z ∧ c.z ≤ 400))) : rightC c = false := by
  rw [Bool.eq_false_iff]
  exact fun hh => h (rightC_iff.1 hh)
theorem empty_iff (s : ByteArray) : s.toList = [] ↔ s.size = 0 := by
  rw [Lib.toList_data]
  constructor
  · intro h; rw [← size_data, h]; rfl
  · intro h; rw [← size_data] at h; exact List.eq_nil_of_length_eq_zero h
theorem cl_is (k v : ByteArray) (b z : Int) (w : World) : Calls Tryz.prog 136 #[.agg #[.string k, .string v, .int .i64 b, .int .i64 z]] w fun e w' => e = .returned (.bool (rightC ⟨k, v, b, z⟩)) ∧ Below w.heap.size w w' := by
  have KY := Lib.hid (fun w => key_is k w)
  have WB := Lib.hid (fun w => within_is b 2 63 w)
  have WZ := Lib.hid (fun w => within_is z 41 400 w)
  have HA := Lib.hid ((Below.refl w.heap.size w).alloc (Nat.le_refl _) (.cells #[.string k, .string v, .int .i64 b, .int .i64 z] 37))
  have HX := Bx.new w #[.string k, .string v, .int .i64 b, .int .i64 z] 37
  have x0 := HX.cell 0
  have x1 := HX.cell 1
  have x2 := HX.cell 2
  have x3 := HX.cell 3
  clear HX
  simp at x0 x1 x2 x3
  by_cases h1 : 1 ≤ k.size ∧ k.size ≤ 16
  · rw [decide_eq_true h1] at KY
    by_cases h2 : b = 0
    · subst h2
      by_cases h3 : v.size ≤ 40
      · have b3 : (v.size : Int) ≤ 40 := by omega
        by_cases h4 : z = 0
        · rw [show rightC ⟨k, v, 0, z⟩ = true from rightC_iff.2 ⟨h1, by simp only [if_true]; exact ⟨h3, h4⟩⟩]
          subst h4
          clear h1 h3
          go_enter Tryz.func136, Tryz.ntmps136
          go_wp2_with fail
          refine (KY.out _).mono ?_; rintro e w1 ⟨rfl, rfl⟩
          go_wp2_with fail
          go_ret
          exact ⟨rfl, HA.out⟩
        · have hz : (z == 0) = false := by rw [beq_eq_false_iff_ne]; exact h4
          rw [show rightC ⟨k, v, 0, z⟩ = false from rightC_no (fun h => by have := h.2; simp only [if_true] at this; exact h4 this.2)]
          clear h1 h3
          go_enter Tryz.func136, Tryz.ntmps136
          go_wp2_with fail
          refine (KY.out _).mono ?_; rintro e w1 ⟨rfl, rfl⟩
          go_wp2_with fail
          go_ret
          exact ⟨rfl, HA.out⟩
      · have b3 : ¬ (v.size : Int) ≤ 40 := by omega
        rw [show rightC ⟨k, v, 0, z⟩ = false from rightC_no (fun h => by have := h.2; simp only [if_true] at this; exact h3 this.1)]
        clear h1 h3
        go_enter Tryz.func136, Tryz.ntmps136
        go_wp2_with fail
        refine (KY.out _).mono ?_; rintro e w1 ⟨rfl, rfl⟩
        go_wp2_with fail
        go_ret
        exact ⟨rfl, HA.out⟩
    · have hb0 : (b == 0) = false := by rw [beq_eq_false_iff_ne]; exact h2
      by_cases h3 : 2 ≤ b ∧ b ≤ 63
      · rw [decide_eq_true h3] at WB
        by_cases h4 : v.size = 0
        · have t1 := (empty_iff v).2 h4
          have t2 : v.toList.isEmpty = true := by rw [t1]; rfl
          by_cases h5 : 41 ≤ z ∧ z ≤ 400
          · rw [decide_eq_true h5] at WZ
            rw [show rightC ⟨k, v, b, z⟩ = true from rightC_iff.2 ⟨h1, by simp only [h2, if_false]; exact ⟨h3.1, h3.2, h4, h5.1, h5.2⟩⟩]
            clear h1 h3 h4 h5
            go_enter Tryz.func136, Tryz.ntmps136
            go_wp2_with fail
            refine (KY.out _).mono ?_; rintro e w1 ⟨rfl, rfl⟩
            go_wp2_with fail
            refine (WB.out _).mono ?_; rintro e w1 ⟨rfl, rfl⟩
            go_wp2_with fail
            refine (WZ.out _).mono ?_; rintro e w1 ⟨rfl, rfl⟩
            go_wp2_with fail
            go_ret
            exact ⟨rfl, HA.out⟩
          · rw [decide_eq_false h5] at WZ
            rw [show rightC ⟨k, v, b, z⟩ = false from rightC_no (fun h => by have := h.2; simp only [h2, if_false] at this; exact h5 ⟨this.2.2.2.1, this.2.2.2.2⟩)]
            clear h1 h3 h4 h5
            go_enter Tryz.func136, Tryz.ntmps136
            go_wp2_with fail
            refine (KY.out _).mono ?_; rintro e w1 ⟨rfl, rfl⟩
            go_wp2_with fail
            refine (WB.out _).mono ?_; rintro e w1 ⟨rfl, rfl⟩
            go_wp2_with fail
            refine (WZ.out _).mono ?_; rintro e w1 ⟨rfl, rfl⟩
            go_wp2_with fail
            go_ret
            exact ⟨rfl, HA.out⟩
        · have t1 : ¬ v.toList = [] := fun h => h4 ((empty_iff v).1 h)
          have t2 : v.toList.isEmpty = false := by rw [List.isEmpty_eq_false_iff]; exact t1
          rw [show rightC ⟨k, v, b, z⟩ = false from rightC_no (fun h => by have := h.2; simp only [h2, if_false] at this; exact h4 this.2.2.1)]
          clear h1 h3 h4
          go_enter Tryz.func136, Tryz.ntmps136
          go_wp2_with fail
          refine (KY.out _).mono ?_; rintro e w1 ⟨rfl, rfl⟩
          go_wp2_with fail
          refine (WB.out _).mono ?_; rintro e w1 ⟨rfl, rfl⟩
          go_wp2_with fail
          go_ret
          exact ⟨rfl, HA.out⟩
      · rw [decide_eq_false h3] at WB
        rw [show rightC ⟨k, v, b, z⟩ = false from rightC_no (fun h => by have := h.2; simp only [h2, if_false] at this; exact h3 ⟨this.1, this.2.1⟩)]
        clear h1 h3
        go_enter Tryz.func136, Tryz.ntmps136
        go_wp2_with fail
        refine (KY.out _).mono ?_; rintro e w1 ⟨rfl, rfl⟩
        go_wp2_with fail
        refine (WB.out _).mono ?_; rintro e w1 ⟨rfl, rfl⟩
        go_wp2_with fail
        go_ret
        exact ⟨rfl, HA.out⟩
  · rw [decide_eq_false h1] at KY
    rw [show rightC ⟨k, v, b, z⟩ = false from rightC_no (fun h => h1 h.1)]
    clear h1
    go_enter Tryz.func136, Tryz.ntmps136
    go_wp2_with fail
    refine (KY.out _).mono ?_; rintro e w1 ⟨rfl, rfl⟩
    go_wp2_with fail
    go_ret
    exact ⟨rfl, HA.out⟩
theorem zeroC_no {c : Cl} (h : ¬ (c.k.size = 0 ∧ c.v.size = 0 ∧ c.b = 0 ∧ c.z = 0)) : zeroC c = false := decide_eq_false h
theorem old_is (k v : ByteArray) (b z : Int) (w : World) : Calls Tryz.prog 98 #[.agg #[.string k, .string v, .int .i64 b, .int .i64 z]] w fun e w' => e = .returned (.bool (rightO ⟨k, v, b, z⟩)) ∧ Below w.heap.size w w' := by
  have CL := Lib.hid (fun w => cl_is k v b z w)
  have HA := Lib.hid ((Below.refl w.heap.size w).alloc (Nat.le_refl _) (.cells #[.string k, .string v, .int .i64 b, .int .i64 z] 37))
  have HX := Bx.new w #[.string k, .string v, .int .i64 b, .int .i64 z] 37
  have x0 := HX.cell 0
  have x1 := HX.cell 1
  have x2 := HX.cell 2
  have x3 := HX.cell 3
  clear HX
  simp at x0 x1 x2 x3
  by_cases h1 : k.size = 0
  · have t1 := (empty_iff k).2 h1
    have t2 : k.toList.isEmpty = true := by rw [t1]; rfl
    by_cases h2 : v.size = 0
    · have t3 := (empty_iff v).2 h2
      have t4 : v.toList.isEmpty = true := by rw [t3]; rfl
      by_cases h3 : b = 0
      · subst h3
        by_cases h4 : z = 0
        · subst h4
          rw [show rightO ⟨k, v, 0, 0⟩ = true from by unfold rightO zeroC; rw [decide_eq_true (show k.size = 0 ∧ v.size = 0 ∧ (0 : Int) = 0 ∧ (0 : Int) = 0 from ⟨h1, h2, rfl, rfl⟩)]; rfl]
          clear h1 h2
          go_enter Tryz.func98, Tryz.ntmps98
          go_wp2_with fail
          go_ret
          exact ⟨rfl, HA.out⟩
        · have g4 : (z == 0) = false := by rw [beq_eq_false_iff_ne]; exact h4
          rw [show rightO ⟨k, v, 0, z⟩ = rightC ⟨k, v, 0, z⟩ from by unfold rightO; rw [zeroC_no (fun h => h4 h.2.2.2)]; rfl]
          generalize rightC ⟨k, v, 0, z⟩ = r at *
          go_enter Tryz.func98, Tryz.ntmps98
          go_wp2_with fail
          refine (CL.out _).mono ?_; rintro e w1 ⟨rfl, hb⟩
          have HB := Lib.hid (HA.out.trans (hb.mono HA.out.size))
          clear hb
          go_wp2_with fail
          go_ret
          exact ⟨rfl, HB.out⟩
      · have g3 : (b == 0) = false := by rw [beq_eq_false_iff_ne]; exact h3
        rw [show rightO ⟨k, v, b, z⟩ = rightC ⟨k, v, b, z⟩ from by unfold rightO; rw [zeroC_no (fun h => h3 h.2.2.1)]; rfl]
        generalize rightC ⟨k, v, b, z⟩ = r at *
        go_enter Tryz.func98, Tryz.ntmps98
        go_wp2_with fail
        refine (CL.out _).mono ?_; rintro e w1 ⟨rfl, hb⟩
        have HB := Lib.hid (HA.out.trans (hb.mono HA.out.size))
        clear hb
        go_wp2_with fail
        go_ret
        exact ⟨rfl, HB.out⟩
    · have t3 : ¬ v.toList = [] := fun h => h2 ((empty_iff v).1 h)
      have t4 : v.toList.isEmpty = false := by rw [List.isEmpty_eq_false_iff]; exact t3
      rw [show rightO ⟨k, v, b, z⟩ = rightC ⟨k, v, b, z⟩ from by unfold rightO; rw [zeroC_no (fun h => h2 h.2.1)]; rfl]
      generalize rightC ⟨k, v, b, z⟩ = r at *
      go_enter Tryz.func98, Tryz.ntmps98
      go_wp2_with fail
      refine (CL.out _).mono ?_; rintro e w1 ⟨rfl, hb⟩
      have HB := Lib.hid (HA.out.trans (hb.mono HA.out.size))
      clear hb
      go_wp2_with fail
      go_ret
      exact ⟨rfl, HB.out⟩
  · have t1 : ¬ k.toList = [] := fun h => h1 ((empty_iff k).1 h)
    have t2 : k.toList.isEmpty = false := by rw [List.isEmpty_eq_false_iff]; exact t1
    rw [show rightO ⟨k, v, b, z⟩ = rightC ⟨k, v, b, z⟩ from by unfold rightO; rw [zeroC_no (fun h => h1 h.1)]; rfl]
    generalize rightC ⟨k, v, b, z⟩ = r at *
    go_enter Tryz.func98, Tryz.ntmps98
    go_wp2_with fail
    refine (CL.out _).mono ?_; rintro e w1 ⟨rfl, hb⟩
    have HB := Lib.hid (HA.out.trans (hb.mono HA.out.size))
    clear hb
    go_wp2_with fail
    go_ret
    exact ⟨rfl, HB.out⟩
end Go.Proofs.YtnjggoeahaglbaaGreat.Rc

/- Lists of which each may be; transactions, dirty pages, records that may be. -/
namespace Go.Proofs.YtnjggoeahaglbaaGreat.Rc
open Go.ChangeShapes Go.WideShapes Go.ChangeAt Go.RowKit
set_option linter.unusedVariables false
set_option linter.unusedSimpArgs false
set_option maxRecDepth 100000
theorem all_next {α : Type} {l : List α} {p : α → Bool} {d : α} {k : Nat} (hk : k < l.length) (h : ∀ i, i < k → p (l.getD i d) = true) (e : p (l.getD k d) = true) : ∀ i, i < k + 1 → p (l.getD i d) = true := fun i hi => by
  by_cases h2 : i = k
  · rw [h2]; exact e
  · exact h i (by omega)
theorem every_yes {α : Type} {l : List α} {m : Nat} {p : α → Bool} {d : α} (hm : l.length ≤ m) (h : ∀ i, i < l.length → p (l.getD i d) = true) : everyB l m p = true :=
  everyB_iff.2 ⟨hm, fun x hx => by
    obtain ⟨i, hi, rfl⟩ := List.getElem_of_mem hx
    rw [← getD_at (d := d) hi]
    exact h i hi⟩
theorem every_no {α : Type} {l : List α} {m : Nat} {p : α → Bool} {d : α} {k : Nat} (hk : k < l.length) (h : p (l.getD k d) = false) : everyB l m p = false := by
  rw [Bool.eq_false_iff]
  intro hh
  have := (everyB_iff.1 hh).2 _ (getD_mem' d hk)
  rw [h] at this
  cases this
theorem every_many {α : Type} {l : List α} {m : Nat} {p : α → Bool} (h : m < l.length) : everyB l m p = false := by
  rw [Bool.eq_false_iff]
  intro hh
  have := (everyB_iff.1 hh).1
  omega
set_option maxHeartbeats 1000000 in
theorem everyI_is {C n c m : Nat} {A : Option Addr} {l : List Int} (M : Int) (w : World) (h : IntsM C w A n l) (hC : C ≤ w.heap.size) (hm : M = (m : Nat)) :
    Calls Tryz.prog 137 #[.slice A n c, .int .i64 M, .func (.func 96) #[] #[]] w fun e w' => e = .returned (.bool (everyB l m two)) ∧ Below w.heap.size w w' := by
  subst hm
  have HN := Lib.hid h.1
  have hmx := h.2.1
  unfold maxLen at hmx
  have hN : (n : Int) ≤ 9223372036854775807 := by omega
  by_cases hnm : n ≤ m
  · have b0 : ¬ (n : Int) > (m : Int) := by omega
    have b1 : ¬ (m : Int) < (n : Int) := by omega
    have HM := Lib.hid (show l.length ≤ m from by rw [h.1]; exact hnm)
    have HP := Lib.hid h
    have HC := Lib.hid hC
    clear h hC hmx hnm
    go_enter Tryz.func137, Tryz.ntmps137
    go_wp2_with fail
    go_loopw [15] (fun x wr => ∃ k : Nat, k ≤ n ∧ x = .int .i64 k ∧ Hid (Below w.heap.size w wr ∧ ∀ i, i < k → two (l.getD i 0) = true)) (fun x _ => n - (intOf x).toNat)
    case atStart => exact ⟨0, Nat.zero_le _, rfl, Below.refl _ _, fun i hi => absurd hi (Nat.not_lt_zero _)⟩
    case round =>
      obtain ⟨k, hk, rfl, hq⟩ := hrel
      have HQ := Lib.hid hq.out
      clear hq
      by_cases hlt : k < n
      · have hkl : k < l.length := by rw [HN.out]; exact hlt
        obtain ⟨b, off, rfl, hb, hp, hwf⟩ := HP.out.2.2 k hlt
        have c1 : (0 : Int) ≤ (k : Int) := by omega
        have c2 : (k : Int) < (n : Int) := by omega
        have HT := Lib.hid (all_next (d := 0) hkl HQ.out.2)
        have HF := Lib.hid (fun (e : two (l.getD k 0) = false) => every_no (m := m) hkl e)
        have hbw : b < w.heap.size := Nat.lt_of_lt_of_le hb HC.out
        have hcell := cell_kept HQ.out.1 hbw hp
        have HW := Lib.hid (fun w => number_is (l.getD k 0) hwf w)
        clear hb hp hwf hbw hkl
        generalize l.getD k 0 = x at *
        cases g : two x with
        | true =>
          have HG := Lib.hid (HT.out g)
          rw [g] at HW
          clear HT HF g
          go_wp2_with fail
          refine (HW.out _).mono ?_; rintro e w1 ⟨rfl, rfl⟩
          go_wp2_with fail
          go_roundw
          case rel => exact ⟨k + 1, by omega, by go_num, HQ.out.1, HG.out⟩
          case measure => simp [intOf]; omega
        | false =>
          have HG := Lib.hid (HF.out g)
          rw [g] at HW
          clear HT HF g
          go_wp2_with fail
          refine (HW.out _).mono ?_; rintro e w1 ⟨rfl, rfl⟩
          go_wp2_with fail
          go_ret
          exact ⟨by rw [HG.out]; rfl, HQ.out.1⟩
      · obtain rfl : n = k := by omega
        have HG := Lib.hid (every_yes (d := 0) HM.out (fun i hi => HQ.out.2 i (by rw [← HN.out]; exact hi)))
        go_wp2_with fail
        go_ret
        exact ⟨by rw [HG.out]; rfl, HQ.out.1⟩
  · have b0 : (n : Int) > (m : Int) := by omega
    have HG := Lib.hid (every_many (m := m) (p := two) (l := l) (by rw [HN.out]; omega))
    rw [HG.out]
    clear h hC hmx hnm
    go_enter Tryz.func137, Tryz.ntmps137
    go_wp2_with fail
    go_ret
    exact ⟨rfl, Below.refl _ _⟩
set_option maxHeartbeats 1000000 in
theorem everyP_is {C n c m : Nat} {A : Option Addr} {l : List Pt} (M : Int) (w : World) (h : PtsM C w A n l) (hC : C ≤ w.heap.size) (hm : M = (m : Nat)) :
    Calls Tryz.prog 100 #[.slice A n c, .int .i64 M, .func (.func 101) #[] #[]] w fun e w' => e = .returned (.bool (everyB l m rightP)) ∧ Below w.heap.size w w' := by
  subst hm
  have HN := Lib.hid h.1
  have hmx := h.2.1
  unfold maxLen at hmx
  have hN : (n : Int) ≤ 9223372036854775807 := by omega
  by_cases hnm : n ≤ m
  · have b0 : ¬ (n : Int) > (m : Int) := by omega
    have b1 : ¬ (m : Int) < (n : Int) := by omega
    have HM := Lib.hid (show l.length ≤ m from by rw [h.1]; exact hnm)
    have HP := Lib.hid h
    have HC := Lib.hid hC
    clear h hC hmx hnm
    go_enter Tryz.func100, Tryz.ntmps100
    go_wp2_with fail
    go_loopw [15] (fun x wr => ∃ k : Nat, k ≤ n ∧ x = .int .i64 k ∧ Hid (Below w.heap.size w wr ∧ ∀ i, i < k → rightP (l.getD i nilP) = true)) (fun x _ => n - (intOf x).toNat)
    case atStart => exact ⟨0, Nat.zero_le _, rfl, Below.refl _ _, fun i hi => absurd hi (Nat.not_lt_zero _)⟩
    case round =>
      obtain ⟨k, hk, rfl, hq⟩ := hrel
      have HQ := Lib.hid hq.out
      clear hq
      by_cases hlt : k < n
      · have hkl : k < l.length := by rw [HN.out]; exact hlt
        obtain ⟨b, off, rfl, hb, hp, hwf⟩ := HP.out.2.2 k hlt
        have c1 : (0 : Int) ≤ (k : Int) := by omega
        have c2 : (k : Int) < (n : Int) := by omega
        have HT := Lib.hid (all_next (d := nilP) hkl HQ.out.2)
        have HF := Lib.hid (fun (e : rightP (l.getD k nilP) = false) => every_no (m := m) hkl e)
        have hbw : b < w.heap.size := Nat.lt_of_lt_of_le hb HC.out
        obtain ⟨x0, x1, x2⟩ := hp.kept (w' := wr) hbw HQ.out.1
        have HW := Lib.hid (fun w => pt_is (l.getD k nilP) hwf w)
        unfold ptv at HW
        clear hb hp hwf hbw hkl
        generalize l.getD k nilP = x at *
        have HA := Lib.hid ((Below.refl wr.heap.size wr).alloc (Nat.le_refl _) (.cells #[.int .i64 x.pg, .int .i64 x.ofs, .string x.bs] 110))
        cases g : rightP x with
        | true =>
          have HG := Lib.hid (HT.out g)
          rw [g] at HW
          clear HT HF g
          go_wp2_with fail
          refine (HW.out _).mono ?_; rintro e w1 ⟨rfl, hb⟩
          have H1 := Lib.hid (HQ.out.1.trans ((HA.out.trans (hb.mono HA.out.size)).mono (Below.size HQ.out.1)))
          clear hb
          go_wp2_with fail
          go_roundw
          case rel => exact ⟨k + 1, by omega, by go_num, H1.out, HG.out⟩
          case measure => simp [intOf]; omega
        | false =>
          have HG := Lib.hid (HF.out g)
          rw [g] at HW
          clear HT HF g
          go_wp2_with fail
          refine (HW.out _).mono ?_; rintro e w1 ⟨rfl, hb⟩
          have H1 := Lib.hid (HQ.out.1.trans ((HA.out.trans (hb.mono HA.out.size)).mono (Below.size HQ.out.1)))
          clear hb
          go_wp2_with fail
          go_ret
          exact ⟨by rw [HG.out]; rfl, H1.out⟩
      · obtain rfl : n = k := by omega
        have HG := Lib.hid (every_yes (d := nilP) HM.out (fun i hi => HQ.out.2 i (by rw [← HN.out]; exact hi)))
        go_wp2_with fail
        go_ret
        exact ⟨by rw [HG.out]; rfl, HQ.out.1⟩
  · have b0 : (n : Int) > (m : Int) := by omega
    have HG := Lib.hid (every_many (m := m) (p := rightP) (l := l) (by rw [HN.out]; omega))
    rw [HG.out]
    clear h hC hmx hnm
    go_enter Tryz.func100, Tryz.ntmps100
    go_wp2_with fail
    go_ret
    exact ⟨rfl, Below.refl _ _⟩
theorem pages_is {C n c : Nat} {A : Option Addr} {l : List Int} (w : World) (h : IntsM C w A n l) (hC : C ≤ w.heap.size) : Calls Tryz.prog 99 #[.slice A n c] w fun e w' => e = .returned (.bool (rightPs l)) ∧ Below w.heap.size w w' := by
  have EV := Lib.hid (everyI_is (c := c) (m := 64) 64 w h hC rfl)
  unfold rightPs
  clear h hC
  go_enter Tryz.func99, Tryz.ntmps99
  go_wp2_with fail
  refine EV.out.mono ?_; rintro e w1 ⟨rfl, hb⟩
  have HB := Lib.hid hb
  clear hb
  go_wp2_with fail
  go_ret
  exact ⟨rfl, HB.out⟩
set_option maxHeartbeats 1000000 in
theorem dy_is (d : Dy) (hd : DyW d) (w : World) : Calls Tryz.prog 105 #[dyv d] w fun e w' => e = .returned (.bool (rightD d)) ∧ Below w.heap.size w w' := by
  unfold dyv rightD
  have NU := Lib.hid (fun w => number_is d.page hd.1 w)
  have LS := Lib.hid (fun w => lsn_is d.lsn hd.2 w)
  clear hd
  have HA := Lib.hid ((Below.refl w.heap.size w).alloc (Nat.le_refl _) (.cells #[.int .i64 d.page, .int .i64 d.lsn] 114))
  have HX := Bx.new w #[.int .i64 d.page, .int .i64 d.lsn] 114
  have x0 := HX.cell 0
  have x1 := HX.cell 1
  clear HX
  simp at x0 x1
  cases g : two d.page with
  | true =>
    rw [g] at NU
    go_enter Tryz.func105, Tryz.ntmps105
    go_wp2_with fail
    refine (NU.out _).mono ?_; rintro e w1 ⟨rfl, rfl⟩
    go_wp2_with fail
    refine (LS.out _).mono ?_; rintro e w1 ⟨rfl, rfl⟩
    go_wp2_with fail
    go_ret
    exact ⟨rfl, HA.out⟩
  | false =>
    rw [g] at NU
    go_enter Tryz.func105, Tryz.ntmps105
    go_wp2_with fail
    refine (NU.out _).mono ?_; rintro e w1 ⟨rfl, rfl⟩
    go_wp2_with fail
    go_ret
    exact ⟨rfl, HA.out⟩
set_option maxHeartbeats 1000000 in
theorem tx_is {C n c : Nat} {A : Option Addr} (t : Tx) (ht : TxW t) (w : World) (h : IntsM C w A n t.pages) (hC : C ≤ w.heap.size) : Calls Tryz.prog 103 #[txv t A n c] w fun e w' => e = .returned (.bool (rightT t)) ∧ Below w.heap.size w w' := by
  unfold txv rightT
  have NU := Lib.hid (fun w => number_is t.id ht.1 w)
  have LS := Lib.hid (fun w => lsn_is t.last ht.2 w)
  have PG := Lib.hid (fun w' (hb : Below w.heap.size w w') => pages_is (c := c) w' (h.kept (hb.mono hC)) (Nat.le_trans hC hb.size))
  clear ht h hC
  have HA := Lib.hid ((Below.refl w.heap.size w).alloc (Nat.le_refl _) (.cells #[.int .i64 t.id, .int .i64 t.last, .bool t.com, .slice A n c] 112))
  have HX := Bx.new w #[.int .i64 t.id, .int .i64 t.last, .bool t.com, .slice A n c] 112
  have x0 := HX.cell 0
  have x1 := HX.cell 1
  have x2 := HX.cell 2
  have x3 := HX.cell 3
  clear HX
  simp at x0 x1 x2 x3
  cases g : two t.id with
  | true =>
    rw [g] at NU
    cases g2 : four t.last with
    | true =>
      rw [g2] at LS
      go_enter Tryz.func103, Tryz.ntmps103
      go_wp2_with fail
      refine (NU.out _).mono ?_; rintro e w1 ⟨rfl, rfl⟩
      go_wp2_with fail
      refine (LS.out _).mono ?_; rintro e w1 ⟨rfl, rfl⟩
      go_wp2_with fail
      refine (PG.out _ HA.out).mono ?_; rintro e w1 ⟨rfl, hb⟩
      have HB := Lib.hid (HA.out.trans (hb.mono HA.out.size))
      clear hb
      go_wp2_with fail
      go_ret
      exact ⟨rfl, HB.out⟩
    | false =>
      rw [g2] at LS
      go_enter Tryz.func103, Tryz.ntmps103
      go_wp2_with fail
      refine (NU.out _).mono ?_; rintro e w1 ⟨rfl, rfl⟩
      go_wp2_with fail
      refine (LS.out _).mono ?_; rintro e w1 ⟨rfl, rfl⟩
      go_wp2_with fail
      go_ret
      exact ⟨rfl, HA.out⟩
  | false =>
    rw [g] at NU
    go_enter Tryz.func103, Tryz.ntmps103
    go_wp2_with fail
    refine (NU.out _).mono ?_; rintro e w1 ⟨rfl, rfl⟩
    go_wp2_with fail
    go_ret
    exact ⟨rfl, HA.out⟩
set_option maxHeartbeats 1000000 in
theorem everyD_is {C n c m : Nat} {A : Option Addr} {l : List Dy} (M : Int) (w : World) (h : DysM C w A n l) (hC : C ≤ w.heap.size) (hm : M = (m : Nat)) :
    Calls Tryz.prog 104 #[.slice A n c, .int .i64 M, .func (.func 105) #[] #[]] w fun e w' => e = .returned (.bool (everyB l m rightD)) ∧ Below w.heap.size w w' := by
  subst hm
  have HN := Lib.hid h.1
  have hmx := h.2.1
  unfold maxLen at hmx
  have hN : (n : Int) ≤ 9223372036854775807 := by omega
  by_cases hnm : n ≤ m
  · have b0 : ¬ (n : Int) > (m : Int) := by omega
    have b1 : ¬ (m : Int) < (n : Int) := by omega
    have HM := Lib.hid (show l.length ≤ m from by rw [h.1]; exact hnm)
    have HP := Lib.hid h
    have HC := Lib.hid hC
    clear h hC hmx hnm
    go_enter Tryz.func104, Tryz.ntmps104
    go_wp2_with fail
    go_loopw [15] (fun x wr => ∃ k : Nat, k ≤ n ∧ x = .int .i64 k ∧ Hid (Below w.heap.size w wr ∧ ∀ i, i < k → rightD (l.getD i nilD) = true)) (fun x _ => n - (intOf x).toNat)
    case atStart => exact ⟨0, Nat.zero_le _, rfl, Below.refl _ _, fun i hi => absurd hi (Nat.not_lt_zero _)⟩
    case round =>
      obtain ⟨k, hk, rfl, hq⟩ := hrel
      have HQ := Lib.hid hq.out
      clear hq
      by_cases hlt : k < n
      · have hkl : k < l.length := by rw [HN.out]; exact hlt
        obtain ⟨b, off, rfl, hb, hp, hwf⟩ := HP.out.2.2 k hlt
        have c1 : (0 : Int) ≤ (k : Int) := by omega
        have c2 : (k : Int) < (n : Int) := by omega
        have HT := Lib.hid (all_next (d := nilD) hkl HQ.out.2)
        have HF := Lib.hid (fun (e : rightD (l.getD k nilD) = false) => every_no (m := m) hkl e)
        have hbw : b < w.heap.size := Nat.lt_of_lt_of_le hb HC.out
        obtain ⟨x0, x1⟩ := hp.kept (w' := wr) hbw HQ.out.1
        have HW := Lib.hid (fun w => dy_is (l.getD k nilD) hwf w)
        unfold dyv at HW
        clear hb hp hwf hbw hkl
        generalize l.getD k nilD = x at *
        have HA := Lib.hid ((Below.refl wr.heap.size wr).alloc (Nat.le_refl _) (.cells #[.int .i64 x.page, .int .i64 x.lsn] 114))
        cases g : rightD x with
        | true =>
          have HG := Lib.hid (HT.out g)
          rw [g] at HW
          clear HT HF g
          go_wp2_with fail
          refine (HW.out _).mono ?_; rintro e w1 ⟨rfl, hb⟩
          have H1 := Lib.hid (HQ.out.1.trans ((HA.out.trans (hb.mono HA.out.size)).mono (Below.size HQ.out.1)))
          clear hb
          go_wp2_with fail
          go_roundw
          case rel => exact ⟨k + 1, by omega, by go_num, H1.out, HG.out⟩
          case measure => simp [intOf]; omega
        | false =>
          have HG := Lib.hid (HF.out g)
          rw [g] at HW
          clear HT HF g
          go_wp2_with fail
          refine (HW.out _).mono ?_; rintro e w1 ⟨rfl, hb⟩
          have H1 := Lib.hid (HQ.out.1.trans ((HA.out.trans (hb.mono HA.out.size)).mono (Below.size HQ.out.1)))
          clear hb
          go_wp2_with fail
          go_ret
          exact ⟨by rw [HG.out]; rfl, H1.out⟩
      · obtain rfl : n = k := by omega
        have HG := Lib.hid (every_yes (d := nilD) HM.out (fun i hi => HQ.out.2 i (by rw [← HN.out]; exact hi)))
        go_wp2_with fail
        go_ret
        exact ⟨by rw [HG.out]; rfl, HQ.out.1⟩
  · have b0 : (n : Int) > (m : Int) := by omega
    have HG := Lib.hid (every_many (m := m) (p := rightD) (l := l) (by rw [HN.out]; omega))
    rw [HG.out]
    clear h hC hmx hnm
    go_enter Tryz.func104, Tryz.ntmps104
    go_wp2_with fail
    go_ret
    exact ⟨rfl, Below.refl _ _⟩
set_option maxHeartbeats 1000000 in
theorem everyT_is {C n c m : Nat} {A : Option Addr} {l : List Tx} (M : Int) (w : World) (h : TxsM C w A n l) (hC : C ≤ w.heap.size) (hm : M = (m : Nat)) :
    Calls Tryz.prog 102 #[.slice A n c, .int .i64 M, .func (.func 103) #[] #[]] w fun e w' => e = .returned (.bool (everyB l m rightT)) ∧ Below w.heap.size w w' := by
  subst hm
  have HN := Lib.hid h.1
  have hmx := h.2.1
  unfold maxLen at hmx
  have hN : (n : Int) ≤ 9223372036854775807 := by omega
  by_cases hnm : n ≤ m
  · have b0 : ¬ (n : Int) > (m : Int) := by omega
    have b1 : ¬ (m : Int) < (n : Int) := by omega
    have HM := Lib.hid (show l.length ≤ m from by rw [h.1]; exact hnm)
    have HP := Lib.hid h
    have HC := Lib.hid hC
    clear h hC hmx hnm
    go_enter Tryz.func102, Tryz.ntmps102
    go_wp2_with fail
    go_loopw [15] (fun x wr => ∃ k : Nat, k ≤ n ∧ x = .int .i64 k ∧ Hid (Below w.heap.size w wr ∧ ∀ i, i < k → rightT (l.getD i nilT) = true)) (fun x _ => n - (intOf x).toNat)
    case atStart => exact ⟨0, Nat.zero_le _, rfl, Below.refl _ _, fun i hi => absurd hi (Nat.not_lt_zero _)⟩
    case round =>
      obtain ⟨k, hk, rfl, hq⟩ := hrel
      have HQ := Lib.hid hq.out
      clear hq
      by_cases hlt : k < n
      · have hkl : k < l.length := by rw [HN.out]; exact hlt
        obtain ⟨b, off, rfl, hb, hp, hwf⟩ := HP.out.2.2 k hlt
        have c1 : (0 : Int) ≤ (k : Int) := by omega
        have c2 : (k : Int) < (n : Int) := by omega
        have HT := Lib.hid (all_next (d := nilT) hkl HQ.out.2)
        have HF := Lib.hid (fun (e : rightT (l.getD k nilT) = false) => every_no (m := m) hkl e)
        have hbw : b < w.heap.size := Nat.lt_of_lt_of_le hb HC.out
        obtain ⟨x0, x1, x2, A1, n1, c1', x3, hin⟩ := (hp.more HC.out).kept (w' := wr) hbw HQ.out.1
        have HW := Lib.hid (fun w' (hb : Below wr.heap.size wr w') => tx_is (l.getD k nilT) hwf w' (C := w.heap.size) (A := A1) (n := n1) (c := c1') (hin.kept (hb.mono (Below.size HQ.out.1))) (Nat.le_trans (Below.size HQ.out.1) (Below.size hb)))
        unfold txv at HW
        clear hin
        clear hb hp hwf hbw hkl
        generalize l.getD k nilT = x at *
        have HA := Lib.hid ((Below.refl wr.heap.size wr).alloc (Nat.le_refl _) (.cells #[.int .i64 x.id, .int .i64 x.last, .bool x.com, .slice A1 n1 c1'] 112))
        cases g : rightT x with
        | true =>
          have HG := Lib.hid (HT.out g)
          rw [g] at HW
          clear HT HF g
          go_wp2_with fail
          refine (HW.out _ HA.out).mono ?_; rintro e w1 ⟨rfl, hb⟩
          have H1 := Lib.hid (HQ.out.1.trans ((HA.out.trans (hb.mono HA.out.size)).mono (Below.size HQ.out.1)))
          clear hb
          go_wp2_with fail
          go_roundw
          case rel => exact ⟨k + 1, by omega, by go_num, H1.out, HG.out⟩
          case measure => simp [intOf]; omega
        | false =>
          have HG := Lib.hid (HF.out g)
          rw [g] at HW
          clear HT HF g
          go_wp2_with fail
          refine (HW.out _ HA.out).mono ?_; rintro e w1 ⟨rfl, hb⟩
          have H1 := Lib.hid (HQ.out.1.trans ((HA.out.trans (hb.mono HA.out.size)).mono (Below.size HQ.out.1)))
          clear hb
          go_wp2_with fail
          go_ret
          exact ⟨by rw [HG.out]; rfl, H1.out⟩
      · obtain rfl : n = k := by omega
        have HG := Lib.hid (every_yes (d := nilT) HM.out (fun i hi => HQ.out.2 i (by rw [← HN.out]; exact hi)))
        go_wp2_with fail
        go_ret
        exact ⟨by rw [HG.out]; rfl, HQ.out.1⟩
  · have b0 : (n : Int) > (m : Int) := by omega
    have HG := Lib.hid (every_many (m := m) (p := rightT) (l := l) (by rw [HN.out]; omega))
    rw [HG.out]
    clear h hC hmx hnm
    go_enter Tryz.func102, Tryz.ntmps102
    go_wp2_with fail
    go_ret
    exact ⟨rfl, Below.refl _ _⟩
set_option maxHeartbeats 4000000 in
/-- A record's parts, one by one. -/
theorem right_is {C : Nat} (r : Rc) (h : Hd) (w : World) (hr : RcM C w r h) (hC : C ≤ w.heap.size) : Calls Tryz.prog 77 #[rcv r h] w fun e w' => e = .returned (.bool (rightR r)) ∧ Below w.heap.size w w' := by
  obtain ⟨kind, tx, prev, next, key, had, ⟨ok, ov, ob, oz⟩, pages, pts, txs, dys⟩ := r
  obtain ⟨⟨A1, n1, c1⟩, ⟨A2, n2, c2⟩, ⟨A3, n3, c3⟩, ⟨A4, n4, c4⟩⟩ := h
  obtain ⟨r1, r2, r3, r4, r5, r6, m1, m2, m3, m4⟩ := hr
  simp only at r1 r2 r3 r4 r5 r6 m1 m2 m3 m4
  unfold rcv rightR
  dsimp only
  have HA := Lib.hid ((Below.refl w.heap.size w).alloc (Nat.le_refl _) (.cells #[.int .i64 kind, .int .i64 tx, .int .i64 prev, .int .i64 next, .string key, .bool had, .string ok, .string ov, .int .i64 ob, .int .i64 oz, .slice A1 n1 c1, .slice A2 n2 c2, .slice A3 n3 c3, .slice A4 n4 c4] 43))
  have HX := Lib.hid (Bx.new w #[.int .i64 kind, .int .i64 tx, .int .i64 prev, .int .i64 next, .string key, .bool had, .string ok, .string ov, .int .i64 ob, .int .i64 oz, .slice A1 n1 c1, .slice A2 n2 c2, .slice A3 n3 c3, .slice A4 n4 c4] 43)
  have F1 := Lib.hid (fun w => kind_is kind w)
  have F2 := Lib.hid (fun w => number_is tx r2 w)
  have F3 := Lib.hid (fun w => lsn_is prev r3 w)
  have F4 := Lib.hid (fun w => lsn_is next r4 w)
  have F6 := Lib.hid (fun w => old_is ok ov ob oz w)
  have F7 := Lib.hid (fun w' (hb : Below w.heap.size w w') => pages_is (c := c1) w' (m1.kept (hb.mono hC)) (Nat.le_trans hC hb.size))
  have F8 := Lib.hid (fun w' (hb : Below w.heap.size w w') => everyP_is (c := c2) (m := 40) 40 w' (m2.kept (hb.mono hC)) (Nat.le_trans hC hb.size) rfl)
  have F9 := Lib.hid (fun w' (hb : Below w.heap.size w w') => everyT_is (c := c3) (m := 8) 8 w' (m3.kept (hb.mono hC)) (Nat.le_trans hC hb.size) rfl)
  have F10 := Lib.hid (fun w' (hb : Below w.heap.size w w') => everyD_is (c := c4) (m := 64) 64 w' (m4.kept (hb.mono hC)) (Nat.le_trans hC hb.size) rfl)
  unfold maxLen at r5
  have hks : (key.size : Int) ≤ 281474976710656 ∨ True := Or.inr trivial
  clear r1 r2 r3 r4 r6 m1 m2 m3 m4 hks
  obtain ⟨z5, hz5⟩ : ∃ z, z = decide (key.size ≤ 255) := ⟨_, rfl⟩
  rw [← hz5]
  have HZ5 := Lib.hid hz5
  clear hz5
  generalize rightK kind = z1 at *
  generalize two tx = z2 at *
  generalize four prev = z3 at *
  generalize four next = z4 at *
  generalize rightO ⟨ok, ov, ob, oz⟩ = z6 at *
  generalize rightPs pages = z7 at *
  generalize everyB pts 40 rightP = z8 at *
  generalize everyB txs 8 rightT = z9 at *
  generalize everyB dys 64 rightD = z10 at *
  have HX0 := HX
  have HA0 := HA
  have x0 := HX0.out.cell 0
  have x1 := HX0.out.cell 1
  have x2 := HX0.out.cell 2
  have x3 := HX0.out.cell 3
  have x4 := HX0.out.cell 4
  have x5 := HX0.out.cell 5
  have x6 := HX0.out.cell 6
  have x7 := HX0.out.cell 7
  have x8 := HX0.out.cell 8
  have x9 := HX0.out.cell 9
  have x10 := HX0.out.cell 10
  have x11 := HX0.out.cell 11
  have x12 := HX0.out.cell 12
  have x13 := HX0.out.cell 13
  simp only [List.getElem?_toArray, List.getElem?_cons_zero, List.getElem?_cons_succ] at x0 x1 x2 x3 x4 x5 x6 x7 x8 x9 x10 x11 x12 x13
  clear HX HA HX0
  go_enter Tryz.func77, Tryz.ntmps77
  go_wp2_with fail
  refine (F1.out _).mono ?_; rintro e u ⟨rfl, rfl⟩
  cases z1 with
  | false =>
    as_aux_lemma =>
      go_wp2_with fail
      go_ret
      exact ⟨rfl, HA0.out⟩
  | true =>
    go_wp2_with fail
    refine (F2.out _).mono ?_; rintro e u ⟨rfl, rfl⟩
    cases z2 with
    | false =>
      as_aux_lemma =>
        go_wp2_with fail
        go_ret
        exact ⟨rfl, HA0.out⟩
    | true =>
      go_wp2_with fail
      refine (F3.out _).mono ?_; rintro e u ⟨rfl, rfl⟩
      cases z3 with
      | false =>
        as_aux_lemma =>
          go_wp2_with fail
          go_ret
          exact ⟨rfl, HA0.out⟩
      | true =>
        go_wp2_with fail
        refine (F4.out _).mono ?_; rintro e u ⟨rfl, rfl⟩
        cases z4 with
        | false =>
          as_aux_lemma =>
            go_wp2_with fail
            go_ret
            exact ⟨rfl, HA0.out⟩
        | true =>
          by_cases hkey : key.size ≤ 255
          · have bk : (key.size : Int) ≤ 255 := by omega
            obtain rfl : z5 = true := HZ5.out.trans (decide_eq_true hkey)
            clear hkey HZ5
            go_wp2_with fail
            have HL0 := Lib.hid (show w.heap.size < (w.alloc (.cells #[.int .i64 kind, .int .i64 tx, .int .i64 prev, .int .i64 next, .string key, .bool had, .string ok, .string ov, .int .i64 ob, .int .i64 oz, .slice A1 n1 c1, .slice A2 n2 c2, .slice A3 n3 c3, .slice A4 n4 c4] 43)).heap.size from by simp)
            refine (F6.out _).mono ?_; rintro e w1 ⟨rfl, hb⟩
            have HA1 := Lib.hid (HA0.out.trans (hb.mono HA0.out.size))
            replace x10 := (hb.cell HL0.out).trans x10
            replace x11 := (hb.cell HL0.out).trans x11
            replace x12 := (hb.cell HL0.out).trans x12
            replace x13 := (hb.cell HL0.out).trans x13
            have HL1 := Lib.hid (Nat.lt_of_lt_of_le HL0.out hb.size)
            clear hb
            cases z6 with
            | false =>
              as_aux_lemma =>
                go_wp2_with fail
                go_ret
                exact ⟨rfl, HA1.out⟩
            | true =>
              go_wp2_with fail
              refine (F7.out _ HA1.out).mono ?_; rintro e w2 ⟨rfl, hb⟩
              have HA2 := Lib.hid (HA1.out.trans (hb.mono HA1.out.size))
              replace x10 := (hb.cell HL1.out).trans x10
              replace x11 := (hb.cell HL1.out).trans x11
              replace x12 := (hb.cell HL1.out).trans x12
              replace x13 := (hb.cell HL1.out).trans x13
              have HL2 := Lib.hid (Nat.lt_of_lt_of_le HL1.out hb.size)
              clear hb
              cases z7 with
              | false =>
                as_aux_lemma =>
                  go_wp2_with fail
                  go_ret
                  exact ⟨rfl, HA2.out⟩
              | true =>
                go_wp2_with fail
                refine (F8.out _ HA2.out).mono ?_; rintro e w3 ⟨rfl, hb⟩
                have HA3 := Lib.hid (HA2.out.trans (hb.mono HA2.out.size))
                replace x10 := (hb.cell HL2.out).trans x10
                replace x11 := (hb.cell HL2.out).trans x11
                replace x12 := (hb.cell HL2.out).trans x12
                replace x13 := (hb.cell HL2.out).trans x13
                have HL3 := Lib.hid (Nat.lt_of_lt_of_le HL2.out hb.size)
                clear hb
                cases z8 with
                | false =>
                  as_aux_lemma =>
                    go_wp2_with fail
                    go_ret
                    exact ⟨rfl, HA3.out⟩
                | true =>
                  go_wp2_with fail
                  refine (F9.out _ HA3.out).mono ?_; rintro e w4 ⟨rfl, hb⟩
                  have HA4 := Lib.hid (HA3.out.trans (hb.mono HA3.out.size))
                  replace x10 := (hb.cell HL3.out).trans x10
                  replace x11 := (hb.cell HL3.out).trans x11
                  replace x12 := (hb.cell HL3.out).trans x12
                  replace x13 := (hb.cell HL3.out).trans x13
                  have HL4 := Lib.hid (Nat.lt_of_lt_of_le HL3.out hb.size)
                  clear hb
                  cases z9 with
                  | false =>
                    as_aux_lemma =>
                      go_wp2_with fail
                      go_ret
                      exact ⟨rfl, HA4.out⟩
                  | true =>
                    go_wp2_with fail
                    refine (F10.out _ HA4.out).mono ?_; rintro e w5 ⟨rfl, hb⟩
                    have HA5 := Lib.hid (HA4.out.trans (hb.mono HA4.out.size))
                    have HL5 := Lib.hid (Nat.lt_of_lt_of_le HL4.out hb.size)
                    clear hb
                    go_wp2_with fail
                    go_ret
                    exact ⟨rfl, HA5.out⟩
          · have bk : ¬ (key.size : Int) ≤ 255 := by omega
            obtain rfl : z5 = false := HZ5.out.trans (decide_eq_false hkey)
            clear hkey HZ5
            go_wp2_with fail
            go_ret
            exact ⟨rfl, HA0.out⟩
end Go.Proofs.YtnjggoeahaglbaaGreat.Rc

/- What the record's writer writes: numbers, texts, lists of them. -/
namespace Go.Proofs.YtnjggoeahaglbaaGreat.Rc
open Go.ChangeShapes Go.WideShapes Go.ChangeAt Go.RowKit
set_option linter.unusedVariables false
set_option linter.unusedSimpArgs false
set_option maxRecDepth 100000
theorem Wr.alloc {C p : Nat} {w : World} {l : BA} {b : Bool} (h : Wr C w p l b) (o : Obj) : Wr C (w.alloc o) p l b := by
  obtain ⟨hC, v, hh, hown⟩ := h
  exact ⟨by simp; omega, v, (Below.heap_alloc w o p (block_of_heap hh)).trans hh, hown.alloc o⟩
theorem Wr.drew {C p : Nat} {w : World} {l : BA} {b : Bool} (h : Wr C w p l b) : Wr C w.drew p l b := h
theorem Wr.base {C p : Nat} {w : World} {l : BA} {b : Bool} (h : Wr C w p l b) : C ≤ w.heap.size := h.1
theorem Wrote.start {C p : Nat} {w : World} {l : BA} {b : Bool} (h : Wr C w p l b) : Wrote C p w l b w := ⟨h, Only.refl _ _ _⟩
theorem Wrote.alloc {C p : Nat} {w w1 : World} {l : BA} {b : Bool} (h : Wrote C p w l b w1) (o : Obj) : Wrote C p w l b (w1.alloc o) := ⟨h.1.alloc o, h.2.alloc h.1.1 o⟩
theorem Wrote.drew {C p : Nat} {w w1 : World} {l : BA} {b : Bool} (h : Wrote C p w l b w1) : Wrote C p w l b w1.drew := ⟨h.1.drew, h.2.drew⟩
theorem num_w (C p : Nat) (v : Int) (l : BA) (w : World) (h : two v = true) (hl : l.length ≤ 900000) (hw : Wr C w p l false) : Calls Tryz.prog 107 #[ptr p, .int .i64 v] w fun e w' => e = .returned (ptr p) ∧ Wrote C p w (l ++ w2 v) false w' := by
  obtain ⟨h0, h1⟩ := two_iff.1 h
  have := num_any C p v l false w (by omega) (by omega) (by omega) hw
  rw [show after 65535 w2 l false v = (l ++ w2 v, false) by simp [after, h0, h1]] at this
  exact this
theorem long_w (C p : Nat) (v : Int) (l : BA) (w : World) (h : four v = true) (hl : l.length ≤ 900000) (hw : Wr C w p l false) : Calls Tryz.prog 108 #[ptr p, .int .i64 v] w fun e w' => e = .returned (ptr p) ∧ Wrote C p w (l ++ w4 v) false w' := by
  obtain ⟨h0, h1⟩ := four_iff.1 h
  have := long_any C p v l false w (by omega) (by omega) (by omega) hw
  rw [show after 4294967295 w4 l false v = (l ++ w4 v, false) by simp [after, h0, h1]] at this
  exact this
theorem text_w (C p : Nat) (s : ByteArray) (l : BA) (w : World) (hs : s.size ≤ 65535) (hl : l.length ≤ 900000) (hw : Wr C w p l false) : Calls Tryz.prog 109 #[ptr p, .string s] w fun e w' => e = .returned (ptr p) ∧ Wrote C p w (l ++ encS s) false w' := text_ok C p s l w hs hl hw
theorem flag_w (C p : Nat) (b : Bool) (l : BA) (w : World) (hl : l.length ≤ 900000) (hw : Wr C w p l false) : Calls Tryz.prog 110 #[ptr p, .bool b] w fun e w' => e = .returned (ptr p) ∧ Wrote C p w (l ++ encF b) false w' := by
  cases b with
  | true =>
    have H := Lib.hid (num_w C p 1 l w rfl hl hw)
    rw [show encF true = w2 1 from rfl]
    clear hw
    go_enter Tryz.func110, Tryz.ntmps110
    go_wp2_with fail
    refine H.out.mono ?_; rintro e w1 ⟨rfl, hw1⟩
    have H1 := Lib.hid hw1
    clear hw1
    go_wp2_with fail
    go_ret
    exact ⟨rfl, H1.out⟩
  | false =>
    have H := Lib.hid (num_w C p 0 l w rfl hl hw)
    rw [show encF false = w2 0 from rfl]
    clear hw
    go_enter Tryz.func110, Tryz.ntmps110
    go_wp2_with fail
    refine H.out.mono ?_; rintro e w1 ⟨rfl, hw1⟩
    have H1 := Lib.hid hw1
    clear hw1
    go_wp2_with fail
    go_ret
    exact ⟨rfl, H1.out⟩
def StrsM (C : Nat) (w : World) (A : Option Addr) (n : Nat) (l : List ByteArray) : Prop :=
  l.length = n ∧ n ≤ maxLen ∧ ∀ k, k < n → ∃ b off, A = some ⟨b, off, none⟩ ∧ b < C ∧ w.cell? ⟨b, off + k, none⟩ = some (.string (l.getD k ⟨#[]⟩))
theorem flat_snoc {α : Type} {f : α → BA} (l : List α) (k : Nat) (d : α) (h : k < l.length) : (l.take (k + 1)).flatMap f = (l.take k).flatMap f ++ f (l.getD k d) := by
  rw [take_snoc l k d h, List.flatMap_append]; simp
theorem flat_part {α : Type} {f : α → BA} (l : List α) (k : Nat) (d : α) (h : k < l.length) : ((l.take k).flatMap f).length + (f (l.getD k d)).length ≤ (l.flatMap f).length := by
  have e : l.flatMap f = (l.take (k + 1)).flatMap f ++ (l.drop (k + 1)).flatMap f := by rw [← List.flatMap_append, List.take_append_drop]
  rw [e, flat_snoc l k d h]
  simp only [List.length_append]
  omega
set_option maxHeartbeats 1000000 in
theorem eachI_is {C p n c M : Nat} {A : Option Addr} {l : List Int} (enc : Int → BA) (l0 : BA) (w : World) (hn : l.length = n) (hmx : n ≤ maxLen) (hr : ∀ w', Only C p w w' → IntsM w'.heap.size w' A n l) (hw : Wr C w p l0 false) (hb : l0.length + (l.flatMap enc).length ≤ M)
    (hf : ∀ x, x ∈ l → ∀ (l1 : BA) (w1 : World), l1.length + (enc x).length ≤ M → Wr C w1 p l1 false → Only C p w w1 → Calls Tryz.prog 107 #[ptr p, .int .i64 x] w1 fun e w2 => e = .returned (ptr p) ∧ Wrote C p w1 (l1 ++ enc x) false w2) :
    Calls Tryz.prog 106 #[.func (.func 107) #[ptr p] #[], .slice A n c] w fun e w' => e = .returned (.tuple #[]) ∧ Wrote C p w (l0 ++ l.flatMap enc) false w' := by
  have HN := Lib.hid hn
  have HF := Lib.hid hf
  have HR := Lib.hid hr
  have HBD := Lib.hid hb
  have H0 := Lib.hid (show Wrote C p w (l0 ++ (l.take 0).flatMap enc) false w from by simpa using Wrote.start hw)
  unfold maxLen at hmx
  have hN : (n : Int) ≤ 9223372036854775807 := by omega
  clear hn hf hr hb hw hmx
  go_enter Tryz.func106, Tryz.ntmps106
  go_wp2_with fail
  go_loopw [8] (fun x wr => ∃ k : Nat, k ≤ n ∧ x = .int .i64 k ∧ Hid (Wrote C p w (l0 ++ (l.take k).flatMap enc) false wr)) (fun x _ => n - (intOf x).toNat)
  case atStart => exact ⟨0, Nat.zero_le _, rfl, H0.out⟩
  case round =>
    obtain ⟨k, hk, rfl, hq⟩ := hrel
    have HQ := Lib.hid hq.out
    clear hq
    by_cases hlt : k < n
    · have hkl : k < l.length := by rw [HN.out]; exact hlt
      have c1 : (0 : Int) ≤ (k : Int) := by omega
      have c2 : (k : Int) < (n : Int) := by omega
      have HS := Lib.hid (flat_snoc (f := enc) l k 0 hkl)
      have HP := Lib.hid (flat_part (f := enc) l k 0 hkl)
      have HM := Lib.hid (getD_mem' 0 hkl)
      obtain ⟨b, off, rfl, hb, hcell, _⟩ := (HR.out wr HQ.out.2).2.2 k hlt
      have HW := Lib.hid (HF.out _ HM.out _ wr (by have := HP.out; have := HBD.out; simp only [List.length_append]; omega) HQ.out.1 HQ.out.2)
      generalize l.getD k 0 = x at *
      clear hb hkl
      go_wp2_with fail
      refine HW.out.mono ?_; rintro e w1 ⟨rfl, hw1⟩
      have H1 := Lib.hid (show Wrote C p w (l0 ++ (l.take (k + 1)).flatMap enc) false w1 from by rw [HS.out, ← List.append_assoc]; exact HQ.out.then hw1)
      clear hw1
      go_wp2_with fail
      go_roundw
      case rel => exact ⟨k + 1, by omega, by go_num, H1.out⟩
      case measure => simp [intOf]; omega
    · obtain rfl : n = k := by omega
      go_wp2_with fail
      go_end0
      exact ⟨rfl, by have := HQ.out; rwa [List.take_of_length_le (by rw [HN.out]; omega)] at this⟩
set_option maxHeartbeats 1000000 in
theorem eachS_is {C p n c M : Nat} {A : Option Addr} {l : List ByteArray} (enc : ByteArray → BA) (l0 : BA) (w : World) (hn : l.length = n) (hmx : n ≤ maxLen) (hr : ∀ w', Only C p w w' → StrsM w'.heap.size w' A n l) (hw : Wr C w p l0 false) (hb : l0.length + (l.flatMap enc).length ≤ M)
    (hf : ∀ x, x ∈ l → ∀ (l1 : BA) (w1 : World), l1.length + (enc x).length ≤ M → Wr C w1 p l1 false → Only C p w w1 → Calls Tryz.prog 109 #[ptr p, .string x] w1 fun e w2 => e = .returned (ptr p) ∧ Wrote C p w1 (l1 ++ enc x) false w2) :
    Calls Tryz.prog 111 #[.func (.func 109) #[ptr p] #[], .slice A n c] w fun e w' => e = .returned (.tuple #[]) ∧ Wrote C p w (l0 ++ l.flatMap enc) false w' := by
  have HN := Lib.hid hn
  have HF := Lib.hid hf
  have HR := Lib.hid hr
  have HBD := Lib.hid hb
  have H0 := Lib.hid (show Wrote C p w (l0 ++ (l.take 0).flatMap enc) false w from by simpa using Wrote.start hw)
  unfold maxLen at hmx
  have hN : (n : Int) ≤ 9223372036854775807 := by omega
  clear hn hf hr hb hw hmx
  go_enter Tryz.func111, Tryz.ntmps111
  go_wp2_with fail
  go_loopw [8] (fun x wr => ∃ k : Nat, k ≤ n ∧ x = .int .i64 k ∧ Hid (Wrote C p w (l0 ++ (l.take k).flatMap enc) false wr)) (fun x _ => n - (intOf x).toNat)
  case atStart => exact ⟨0, Nat.zero_le _, rfl, H0.out⟩
  case round =>
    obtain ⟨k, hk, rfl, hq⟩ := hrel
    have HQ := Lib.hid hq.out
    clear hq
    by_cases hlt : k < n
    · have hkl : k < l.length := by rw [HN.out]; exact hlt
      have c1 : (0 : Int) ≤ (k : Int) := by omega
      have c2 : (k : Int) < (n : Int) := by omega
      have HS := Lib.hid (flat_snoc (f := enc) l k ⟨#[]⟩ hkl)
      have HP := Lib.hid (flat_part (f := enc) l k ⟨#[]⟩ hkl)
      have HM := Lib.hid (getD_mem' ⟨#[]⟩ hkl)
      obtain ⟨b, off, rfl, hb, hcell⟩ := (HR.out wr HQ.out.2).2.2 k hlt
      have HW := Lib.hid (HF.out _ HM.out _ wr (by have := HP.out; have := HBD.out; simp only [List.length_append]; omega) HQ.out.1 HQ.out.2)
      generalize l.getD k ⟨#[]⟩ = x at *
      clear hb hkl
      go_wp2_with fail
      refine HW.out.mono ?_; rintro e w1 ⟨rfl, hw1⟩
      have H1 := Lib.hid (show Wrote C p w (l0 ++ (l.take (k + 1)).flatMap enc) false w1 from by rw [HS.out, ← List.append_assoc]; exact HQ.out.then hw1)
      clear hw1
      go_wp2_with fail
      go_roundw
      case rel => exact ⟨k + 1, by omega, by go_num, H1.out⟩
      case measure => simp [intOf]; omega
    · obtain rfl : n = k := by omega
      go_wp2_with fail
      go_end0
      exact ⟨rfl, by have := HQ.out; rwa [List.take_of_length_le (by rw [HN.out]; omega)] at this⟩
set_option maxHeartbeats 1000000 in
theorem eachP_is {C p n c M : Nat} {A : Option Addr} {l : List Pt} (enc : Pt → BA) (l0 : BA) (w : World) (hn : l.length = n) (hmx : n ≤ maxLen) (hp : C ≤ p) (hr : PtsM C w A n l) (hw : Wr C w p l0 false) (hb : l0.length + (l.flatMap enc).length ≤ M)
    (hf : ∀ x, x ∈ l → ∀ (l1 : BA) (w1 : World), l1.length + (enc x).length ≤ M → Wr C w1 p l1 false → Only C p w w1 → Calls Tryz.prog 114 #[ptr p, ptv x] w1 fun e w2 => e = .returned (ptr p) ∧ Wrote C p w1 (l1 ++ enc x) false w2) :
    Calls Tryz.prog 143 #[.func (.func 114) #[ptr p] #[], .slice A n c] w fun e w' => e = .returned (.tuple #[]) ∧ Wrote C p w (l0 ++ l.flatMap enc) false w' := by
  have HN := Lib.hid hn
  have HF := Lib.hid hf
  have HR := Lib.hid hr
  have HBD := Lib.hid hb
  have H0 := Lib.hid (show Wrote C p w (l0 ++ (l.take 0).flatMap enc) false w from by simpa using Wrote.start hw)
  unfold maxLen at hmx
  have hN : (n : Int) ≤ 9223372036854775807 := by omega
  clear hn hf hr hb hw hmx
  go_enter Tryz.func143, Tryz.ntmps143
  go_wp2_with fail
  go_loopw [8] (fun x wr => ∃ k : Nat, k ≤ n ∧ x = .int .i64 k ∧ Hid (Wrote C p w (l0 ++ (l.take k).flatMap enc) false wr)) (fun x _ => n - (intOf x).toNat)
  case atStart => exact ⟨0, Nat.zero_le _, rfl, H0.out⟩
  case round =>
    obtain ⟨k, hk, rfl, hq⟩ := hrel
    have HQ := Lib.hid hq.out
    clear hq
    by_cases hlt : k < n
    · have hkl : k < l.length := by rw [HN.out]; exact hlt
      have c1 : (0 : Int) ≤ (k : Int) := by omega
      have c2 : (k : Int) < (n : Int) := by omega
      have HS := Lib.hid (flat_snoc (f := enc) l k nilP hkl)
      have HP := Lib.hid (flat_part (f := enc) l k nilP hkl)
      have HM := Lib.hid (getD_mem' nilP hkl)
      obtain ⟨b, off, rfl, hb, hp', _⟩ := (HR.out.kept (w' := wr) (HQ.out.2.below hp)).2.2 k hlt
      obtain ⟨x0, x1, x2⟩ := hp'
      have HA := Lib.hid (fun (o : Obj) => HQ.out.alloc o)
      have HW := Lib.hid (fun (o : Obj) => HF.out _ HM.out _ (wr.alloc o) (by have := HP.out; have := HBD.out; simp only [List.length_append]; omega) (HA.out o).1 (HA.out o).2)
      unfold ptv at HW
      generalize l.getD k nilP = x at *
      clear hb hkl
      go_wp2_with fail
      refine (HW.out _).mono ?_; rintro e w1 ⟨rfl, hw1⟩
      have H1 := Lib.hid (show Wrote C p w (l0 ++ (l.take (k + 1)).flatMap enc) false w1 from by rw [HS.out, ← List.append_assoc]; exact (HA.out _).then hw1)
      clear hw1
      go_wp2_with fail
      go_roundw
      case rel => exact ⟨k + 1, by omega, by go_num, H1.out⟩
      case measure => simp [intOf]; omega
    · obtain rfl : n = k := by omega
      go_wp2_with fail
      go_end0
      exact ⟨rfl, by have := HQ.out; rwa [List.take_of_length_le (by rw [HN.out]; omega)] at this⟩
set_option maxHeartbeats 1000000 in
theorem eachD_is {C p n c M : Nat} {A : Option Addr} {l : List Dy} (enc : Dy → BA) (l0 : BA) (w : World) (hn : l.length = n) (hmx : n ≤ maxLen) (hp : C ≤ p) (hr : DysM C w A n l) (hw : Wr C w p l0 false) (hb : l0.length + (l.flatMap enc).length ≤ M)
    (hf : ∀ x, x ∈ l → ∀ (l1 : BA) (w1 : World), l1.length + (enc x).length ≤ M → Wr C w1 p l1 false → Only C p w w1 → Calls Tryz.prog 118 #[ptr p, dyv x] w1 fun e w2 => e = .returned (ptr p) ∧ Wrote C p w1 (l1 ++ enc x) false w2) :
    Calls Tryz.prog 145 #[.func (.func 118) #[ptr p] #[], .slice A n c] w fun e w' => e = .returned (.tuple #[]) ∧ Wrote C p w (l0 ++ l.flatMap enc) false w' := by
  have HN := Lib.hid hn
  have HF := Lib.hid hf
  have HR := Lib.hid hr
  have HBD := Lib.hid hb
  have H0 := Lib.hid (show Wrote C p w (l0 ++ (l.take 0).flatMap enc) false w from by simpa using Wrote.start hw)
  unfold maxLen at hmx
  have hN : (n : Int) ≤ 9223372036854775807 := by omega
  clear hn hf hr hb hw hmx
  go_enter Tryz.func145, Tryz.ntmps145
  go_wp2_with fail
  go_loopw [8] (fun x wr => ∃ k : Nat, k ≤ n ∧ x = .int .i64 k ∧ Hid (Wrote C p w (l0 ++ (l.take k).flatMap enc) false wr)) (fun x _ => n - (intOf x).toNat)
  case atStart => exact ⟨0, Nat.zero_le _, rfl, H0.out⟩
  case round =>
    obtain ⟨k, hk, rfl, hq⟩ := hrel
    have HQ := Lib.hid hq.out
    clear hq
    by_cases hlt : k < n
    · have hkl : k < l.length := by rw [HN.out]; exact hlt
      have c1 : (0 : Int) ≤ (k : Int) := by omega
      have c2 : (k : Int) < (n : Int) := by omega
      have HS := Lib.hid (flat_snoc (f := enc) l k nilD hkl)
      have HP := Lib.hid (flat_part (f := enc) l k nilD hkl)
      have HM := Lib.hid (getD_mem' nilD hkl)
      obtain ⟨b, off, rfl, hb, hp', _⟩ := (HR.out.kept (w' := wr) (HQ.out.2.below hp)).2.2 k hlt
      obtain ⟨x0, x1⟩ := hp'
      have HA := Lib.hid (fun (o : Obj) => HQ.out.alloc o)
      have HW := Lib.hid (fun (o : Obj) => HF.out _ HM.out _ (wr.alloc o) (by have := HP.out; have := HBD.out; simp only [List.length_append]; omega) (HA.out o).1 (HA.out o).2)
      unfold dyv at HW
      generalize l.getD k nilD = x at *
      clear hb hkl
      go_wp2_with fail
      refine (HW.out _).mono ?_; rintro e w1 ⟨rfl, hw1⟩
      have H1 := Lib.hid (show Wrote C p w (l0 ++ (l.take (k + 1)).flatMap enc) false w1 from by rw [HS.out, ← List.append_assoc]; exact (HA.out _).then hw1)
      clear hw1
      go_wp2_with fail
      go_roundw
      case rel => exact ⟨k + 1, by omega, by go_num, H1.out⟩
      case measure => simp [intOf]; omega
    · obtain rfl : n = k := by omega
      go_wp2_with fail
      go_end0
      exact ⟨rfl, by have := HQ.out; rwa [List.take_of_length_le (by rw [HN.out]; omega)] at this⟩
set_option maxHeartbeats 1000000 in
theorem eachT_is {C p n c M : Nat} {A : Option Addr} {l : List Tx} (enc : Tx → BA) (l0 : BA) (w : World) (hn : l.length = n) (hmx : n ≤ maxLen) (hp : C ≤ p) (hr : TxsM C w A n l) (hw : Wr C w p l0 false) (hb : l0.length + (l.flatMap enc).length ≤ M)
    (hf : ∀ x, x ∈ l → ∀ (l1 : BA) (w1 : World), l1.length + (enc x).length ≤ M → Wr C w1 p l1 false → Only C p w w1 → ∀ (A1 : Option Addr) (n1 c1 : Nat), IntsM C w1 A1 n1 x.pages → Calls Tryz.prog 116 #[ptr p, txv x A1 n1 c1] w1 fun e w2 => e = .returned (ptr p) ∧ Wrote C p w1 (l1 ++ enc x) false w2) :
    Calls Tryz.prog 144 #[.func (.func 116) #[ptr p] #[], .slice A n c] w fun e w' => e = .returned (.tuple #[]) ∧ Wrote C p w (l0 ++ l.flatMap enc) false w' := by
  have HN := Lib.hid hn
  have HF := Lib.hid hf
  have HR := Lib.hid hr
  have HBD := Lib.hid hb
  have H0 := Lib.hid (show Wrote C p w (l0 ++ (l.take 0).flatMap enc) false w from by simpa using Wrote.start hw)
  unfold maxLen at hmx
  have hN : (n : Int) ≤ 9223372036854775807 := by omega
  clear hn hf hr hb hw hmx
  go_enter Tryz.func144, Tryz.ntmps144
  go_wp2_with fail
  go_loopw [8] (fun x wr => ∃ k : Nat, k ≤ n ∧ x = .int .i64 k ∧ Hid (Wrote C p w (l0 ++ (l.take k).flatMap enc) false wr)) (fun x _ => n - (intOf x).toNat)
  case atStart => exact ⟨0, Nat.zero_le _, rfl, H0.out⟩
  case round =>
    obtain ⟨k, hk, rfl, hq⟩ := hrel
    have HQ := Lib.hid hq.out
    clear hq
    by_cases hlt : k < n
    · have hkl : k < l.length := by rw [HN.out]; exact hlt
      have c1 : (0 : Int) ≤ (k : Int) := by omega
      have c2 : (k : Int) < (n : Int) := by omega
      have HS := Lib.hid (flat_snoc (f := enc) l k nilT hkl)
      have HP := Lib.hid (flat_part (f := enc) l k nilT hkl)
      have HM := Lib.hid (getD_mem' nilT hkl)
      obtain ⟨b, off, rfl, hb, hp', _⟩ := (HR.out.kept (w' := wr) (HQ.out.2.below hp)).2.2 k hlt
      obtain ⟨x0, x1, x2, A1, n1, c1', x3, hin⟩ := hp'
      have HA := Lib.hid (fun (o : Obj) => HQ.out.alloc o)
      have HW := Lib.hid (fun (o : Obj) => HF.out _ HM.out _ (wr.alloc o) (by have := HP.out; have := HBD.out; simp only [List.length_append]; omega) (HA.out o).1 (HA.out o).2 A1 n1 c1' (hin.kept ((Below.refl _ _).alloc (Nat.le_trans HQ.out.1.1 (Nat.le_refl _)) _)))
      unfold txv at HW
      generalize l.getD k nilT = x at *
      clear hb hkl hin
      go_wp2_with fail
      refine (HW.out _).mono ?_; rintro e w1 ⟨rfl, hw1⟩
      have H1 := Lib.hid (show Wrote C p w (l0 ++ (l.take (k + 1)).flatMap enc) false w1 from by rw [HS.out, ← List.append_assoc]; exact (HA.out _).then hw1)
      clear hw1
      go_wp2_with fail
      go_roundw
      case rel => exact ⟨k + 1, by omega, by go_num, H1.out⟩
      case measure => simp [intOf]; omega
    · obtain rfl : n = k := by omega
      go_wp2_with fail
      go_end0
      exact ⟨rfl, by have := HQ.out; rwa [List.take_of_length_le (by rw [HN.out]; omega)] at this⟩
set_option maxHeartbeats 1000000 in
theorem eachIL_is {C p n c M : Nat} {A : Option Addr} {l : List Int} (enc : Int → BA) (l0 : BA) (w : World) (hn : l.length = n) (hmx : n ≤ maxLen) (hr : ∀ w', Only C p w w' → IntsM w'.heap.size w' A n l) (hw : Wr C w p l0 false) (hb : l0.length + (l.flatMap enc).length ≤ M)
    (hf : ∀ x, x ∈ l → ∀ (l1 : BA) (w1 : World), l1.length + (enc x).length ≤ M → Wr C w1 p l1 false → Only C p w w1 → Calls Tryz.prog 108 #[ptr p, .int .i64 x] w1 fun e w2 => e = .returned (ptr p) ∧ Wrote C p w1 (l1 ++ enc x) false w2) :
    Calls Tryz.prog 106 #[.func (.func 108) #[ptr p] #[], .slice A n c] w fun e w' => e = .returned (.tuple #[]) ∧ Wrote C p w (l0 ++ l.flatMap enc) false w' := by
  have HN := Lib.hid hn
  have HF := Lib.hid hf
  have HR := Lib.hid hr
  have HBD := Lib.hid hb
  have H0 := Lib.hid (show Wrote C p w (l0 ++ (l.take 0).flatMap enc) false w from by simpa using Wrote.start hw)
  unfold maxLen at hmx
  have hN : (n : Int) ≤ 9223372036854775807 := by omega
  clear hn hf hr hb hw hmx
  go_enter Tryz.func106, Tryz.ntmps106
  go_wp2_with fail
  go_loopw [8] (fun x wr => ∃ k : Nat, k ≤ n ∧ x = .int .i64 k ∧ Hid (Wrote C p w (l0 ++ (l.take k).flatMap enc) false wr)) (fun x _ => n - (intOf x).toNat)
  case atStart => exact ⟨0, Nat.zero_le _, rfl, H0.out⟩
  case round =>
    obtain ⟨k, hk, rfl, hq⟩ := hrel
    have HQ := Lib.hid hq.out
    clear hq
    by_cases hlt : k < n
    · have hkl : k < l.length := by rw [HN.out]; exact hlt
      have c1 : (0 : Int) ≤ (k : Int) := by omega
      have c2 : (k : Int) < (n : Int) := by omega
      have HS := Lib.hid (flat_snoc (f := enc) l k 0 hkl)
      have HP := Lib.hid (flat_part (f := enc) l k 0 hkl)
      have HM := Lib.hid (getD_mem' 0 hkl)
      obtain ⟨b, off, rfl, hb, hcell, _⟩ := (HR.out wr HQ.out.2).2.2 k hlt
      have HW := Lib.hid (HF.out _ HM.out _ wr (by have := HP.out; have := HBD.out; simp only [List.length_append]; omega) HQ.out.1 HQ.out.2)
      generalize l.getD k 0 = x at *
      clear hb hkl
      go_wp2_with fail
      refine HW.out.mono ?_; rintro e w1 ⟨rfl, hw1⟩
      have H1 := Lib.hid (show Wrote C p w (l0 ++ (l.take (k + 1)).flatMap enc) false w1 from by rw [HS.out, ← List.append_assoc]; exact HQ.out.then hw1)
      clear hw1
      go_wp2_with fail
      go_roundw
      case rel => exact ⟨k + 1, by omega, by go_num, H1.out⟩
      case measure => simp [intOf]; omega
    · obtain rfl : n = k := by omega
      go_wp2_with fail
      go_end0
      exact ⟨rfl, by have := HQ.out; rwa [List.take_of_length_le (by rw [HN.out]; omega)] at this⟩
theorem countedI_is {C p n c M : Nat} {A : Option Addr} {l : List Int} (enc : Int → BA) (l0 : BA) (w : World) (hn : l.length = n) (hmx : n ≤ 65535) (hr : ∀ w', Only C p w w' → IntsM w'.heap.size w' A n l) (hw : Wr C w p l0 false) (hM : M ≤ 500000) (hb : l0.length + (encL enc l).length ≤ M)
    (hf : ∀ x, x ∈ l → ∀ (l1 : BA) (w1 : World), l1.length + (enc x).length ≤ M → Wr C w1 p l1 false → Only C p w w1 → Calls Tryz.prog 107 #[ptr p, .int .i64 x] w1 fun e w2 => e = .returned (ptr p) ∧ Wrote C p w1 (l1 ++ enc x) false w2) :
    Calls Tryz.prog 142 #[ptr p, .func (.func 107) #[ptr p] #[], .slice A n c] w fun e w' => e = .returned (ptr p) ∧ Wrote C p w (l0 ++ encL enc l) false w' := by
  rw [encL_length] at hb
  have NU := Lib.hid (num_w C p (n : Int) l0 w (two_nat hmx) (by omega) hw)
  have EA := Lib.hid (fun w1 (h1 : Wrote C p w (l0 ++ w2 (n : Int)) false w1) => eachI_is (c := c) enc (l0 ++ w2 (n : Int)) w1 hn (Nat.le_trans hmx (by unfold maxLen; omega)) (fun w2 h2 => hr w2 (h1.2.trans h2)) h1.1 (by simp only [List.length_append, w2_length]; omega) (fun x hx l1 w2 a b d => hf x hx l1 w2 a b (h1.2.trans d)))
  have HE := Lib.hid (show l0 ++ encL enc l = (l0 ++ w2 (n : Int)) ++ l.flatMap enc from by unfold encL; rw [hn, List.append_assoc])
  rw [HE.out]
  clear hn hmx hr hw hb hf hM
  go_enter Tryz.func142, Tryz.ntmps142
  go_wp2_with fail
  refine NU.out.mono ?_; rintro e w1 ⟨rfl, hw1⟩
  have H1 := Lib.hid hw1
  clear hw1
  go_wp2_with fail
  refine (EA.out _ H1.out).mono ?_; rintro e w2 ⟨rfl, hw2⟩
  have H2 := Lib.hid (H1.out.then hw2)
  clear hw2
  go_wp2_with fail
  go_ret
  exact ⟨rfl, H2.out⟩
theorem countedP_is {C p n c M : Nat} {A : Option Addr} {l : List Pt} (enc : Pt → BA) (l0 : BA) (w : World) (hn : l.length = n) (hmx : n ≤ 65535) (hp : C ≤ p) (hr : PtsM C w A n l) (hw : Wr C w p l0 false) (hM : M ≤ 500000) (hb : l0.length + (encL enc l).length ≤ M)
    (hf : ∀ x, x ∈ l → ∀ (l1 : BA) (w1 : World), l1.length + (enc x).length ≤ M → Wr C w1 p l1 false → Only C p w w1 → Calls Tryz.prog 114 #[ptr p, ptv x] w1 fun e w2 => e = .returned (ptr p) ∧ Wrote C p w1 (l1 ++ enc x) false w2) :
    Calls Tryz.prog 113 #[ptr p, .func (.func 114) #[ptr p] #[], .slice A n c] w fun e w' => e = .returned (ptr p) ∧ Wrote C p w (l0 ++ encL enc l) false w' := by
  rw [encL_length] at hb
  have NU := Lib.hid (num_w C p (n : Int) l0 w (two_nat hmx) (by omega) hw)
  have EA := Lib.hid (fun w1 (h1 : Wrote C p w (l0 ++ w2 (n : Int)) false w1) => eachP_is (c := c) enc (l0 ++ w2 (n : Int)) w1 hn (Nat.le_trans hmx (by unfold maxLen; omega)) hp (hr.kept (h1.2.below hp)) h1.1 (by simp only [List.length_append, w2_length]; omega) (fun x hx l1 w2 a b d => hf x hx l1 w2 a b (h1.2.trans d)))
  have HE := Lib.hid (show l0 ++ encL enc l = (l0 ++ w2 (n : Int)) ++ l.flatMap enc from by unfold encL; rw [hn, List.append_assoc])
  rw [HE.out]
  clear hn hmx hr hw hb hf hM
  go_enter Tryz.func113, Tryz.ntmps113
  go_wp2_with fail
  refine NU.out.mono ?_; rintro e w1 ⟨rfl, hw1⟩
  have H1 := Lib.hid hw1
  clear hw1
  go_wp2_with fail
  refine (EA.out _ H1.out).mono ?_; rintro e w2 ⟨rfl, hw2⟩
  have H2 := Lib.hid (H1.out.then hw2)
  clear hw2
  go_wp2_with fail
  go_ret
  exact ⟨rfl, H2.out⟩
theorem countedD_is {C p n c M : Nat} {A : Option Addr} {l : List Dy} (enc : Dy → BA) (l0 : BA) (w : World) (hn : l.length = n) (hmx : n ≤ 65535) (hp : C ≤ p) (hr : DysM C w A n l) (hw : Wr C w p l0 false) (hM : M ≤ 500000) (hb : l0.length + (encL enc l).length ≤ M)
    (hf : ∀ x, x ∈ l → ∀ (l1 : BA) (w1 : World), l1.length + (enc x).length ≤ M → Wr C w1 p l1 false → Only C p w w1 → Calls Tryz.prog 118 #[ptr p, dyv x] w1 fun e w2 => e = .returned (ptr p) ∧ Wrote C p w1 (l1 ++ enc x) false w2) :
    Calls Tryz.prog 117 #[ptr p, .func (.func 118) #[ptr p] #[], .slice A n c] w fun e w' => e = .returned (ptr p) ∧ Wrote C p w (l0 ++ encL enc l) false w' := by
  rw [encL_length] at hb
  have NU := Lib.hid (num_w C p (n : Int) l0 w (two_nat hmx) (by omega) hw)
  have EA := Lib.hid (fun w1 (h1 : Wrote C p w (l0 ++ w2 (n : Int)) false w1) => eachD_is (c := c) enc (l0 ++ w2 (n : Int)) w1 hn (Nat.le_trans hmx (by unfold maxLen; omega)) hp (hr.kept (h1.2.below hp)) h1.1 (by simp only [List.length_append, w2_length]; omega) (fun x hx l1 w2 a b d => hf x hx l1 w2 a b (h1.2.trans d)))
  have HE := Lib.hid (show l0 ++ encL enc l = (l0 ++ w2 (n : Int)) ++ l.flatMap enc from by unfold encL; rw [hn, List.append_assoc])
  rw [HE.out]
  clear hn hmx hr hw hb hf hM
  go_enter Tryz.func117, Tryz.ntmps117
  go_wp2_with fail
  refine NU.out.mono ?_; rintro e w1 ⟨rfl, hw1⟩
  have H1 := Lib.hid hw1
  clear hw1
  go_wp2_with fail
  refine (EA.out _ H1.out).mono ?_; rintro e w2 ⟨rfl, hw2⟩
  have H2 := Lib.hid (H1.out.then hw2)
  clear hw2
  go_wp2_with fail
  go_ret
  exact ⟨rfl, H2.out⟩
theorem countedT_is {C p n c M : Nat} {A : Option Addr} {l : List Tx} (enc : Tx → BA) (l0 : BA) (w : World) (hn : l.length = n) (hmx : n ≤ 65535) (hp : C ≤ p) (hr : TxsM C w A n l) (hw : Wr C w p l0 false) (hM : M ≤ 500000) (hb : l0.length + (encL enc l).length ≤ M)
    (hf : ∀ x, x ∈ l → ∀ (l1 : BA) (w1 : World), l1.length + (enc x).length ≤ M → Wr C w1 p l1 false → Only C p w w1 → ∀ (A1 : Option Addr) (n1 c1 : Nat), IntsM C w1 A1 n1 x.pages → Calls Tryz.prog 116 #[ptr p, txv x A1 n1 c1] w1 fun e w2 => e = .returned (ptr p) ∧ Wrote C p w1 (l1 ++ enc x) false w2) :
    Calls Tryz.prog 115 #[ptr p, .func (.func 116) #[ptr p] #[], .slice A n c] w fun e w' => e = .returned (ptr p) ∧ Wrote C p w (l0 ++ encL enc l) false w' := by
  rw [encL_length] at hb
  have NU := Lib.hid (num_w C p (n : Int) l0 w (two_nat hmx) (by omega) hw)
  have EA := Lib.hid (fun w1 (h1 : Wrote C p w (l0 ++ w2 (n : Int)) false w1) => eachT_is (c := c) enc (l0 ++ w2 (n : Int)) w1 hn (Nat.le_trans hmx (by unfold maxLen; omega)) hp (hr.kept (h1.2.below hp)) h1.1 (by simp only [List.length_append, w2_length]; omega) (fun x hx l1 w2 a b d => hf x hx l1 w2 a b (h1.2.trans d)))
  have HE := Lib.hid (show l0 ++ encL enc l = (l0 ++ w2 (n : Int)) ++ l.flatMap enc from by unfold encL; rw [hn, List.append_assoc])
  rw [HE.out]
  clear hn hmx hr hw hb hf hM
  go_enter Tryz.func115, Tryz.ntmps115
  go_wp2_with fail
  refine NU.out.mono ?_; rintro e w1 ⟨rfl, hw1⟩
  have H1 := Lib.hid hw1
  clear hw1
  go_wp2_with fail
  refine (EA.out _ H1.out).mono ?_; rintro e w2 ⟨rfl, hw2⟩
  have H2 := Lib.hid (H1.out.then hw2)
  clear hw2
  go_wp2_with fail
  go_ret
  exact ⟨rfl, H2.out⟩
theorem pages_w {C p n c : Nat} {A : Option Addr} {l : List Int} (l0 : BA) (w : World) (hp : C ≤ p) (hr : IntsM C w A n l) (h : rightPs l = true) (hw : Wr C w p l0 false) (hb : l0.length ≤ 490000) :
    Calls Tryz.prog 112 #[ptr p, .slice A n c] w fun e w' => e = .returned (ptr p) ∧ Wrote C p w (l0 ++ encL w2 l) false w' := by
  obtain ⟨h1, h2⟩ := everyB_iff.1 h
  have CO := Lib.hid (countedI_is (c := c) (M := 500000) w2 l0 w hr.1 (by rw [← hr.1]; omega) (fun w' h' => (hr.kept (h'.below hp)).more (Nat.le_trans hw.1 h'.size)) hw (Nat.le_refl _) (by rw [encL_length, flat_const w2_length]; omega) (fun x hx l1 w1 a b _ => num_w C p x l1 w1 (h2 x hx) (by omega) b))
  clear hp hr h hw hb h1 h2
  go_enter Tryz.func112, Tryz.ntmps112
  go_wp2_with fail
  refine CO.out.mono ?_; rintro e w1 ⟨rfl, hw1⟩
  have H1 := Lib.hid hw1
  clear hw1
  go_wp2_with fail
  go_ret
  exact ⟨rfl, H1.out⟩
end Go.Proofs.YtnjggoeahaglbaaGreat.Rc
