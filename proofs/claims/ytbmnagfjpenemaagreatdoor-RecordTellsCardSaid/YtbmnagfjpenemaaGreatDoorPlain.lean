/- The plain mathematics of chapter 12: numbers and texts as bytes and back; records, which may be, as bytes, and back. -/
import Derived.Below
import Derived.OwnWalk
import Derived.Laws.OwnMore
import Derived.Laws.BytesArg
import Derived.Lib.AppendStr
import Derived.Laws.IdiomStrings
import Derived.Laws.BitsAllLaws
namespace Go.Proofs.YtbmnagfjpenemaaGreatDoor
open Go.RowKit
set_option linter.unusedVariables false
abbrev BA := List UInt8
/-- The least byte of a number. -/
def byte (v : Int) : UInt8 := UInt8.ofNat v.toNat
/-- A number in two bytes, in four. -/
def w2 (v : Int) : BA := [byte (v / 256), byte v]
def w4 (v : Int) : BA := w2 (v / 65536) ++ w2 (v % 65536)
/-- Bytes as cells. -/
def bcs (l : BA) : List Value := l.map fun b => Value.int .u8 (b.toNat : Int)
/-- Bytes as a string. -/
def str (l : BA) : ByteArray := ⟨l.toArray⟩
/-- The number that bytes are. -/
def num (l : BA) : Nat := l.foldl (fun a b => a * 256 + b.toNat) 0
theorem str_size (l : BA) : (str l).size = l.length := rfl
theorem str_data (s : ByteArray) : str s.data.toList = s := rfl
theorem data_str (l : BA) : (str l).data.toList = l := rfl
theorem size_data (s : ByteArray) : s.data.toList.length = s.size := rfl
theorem w2_length (v : Int) : (w2 v).length = 2 := rfl
theorem w4_length (v : Int) : (w4 v).length = 4 := rfl
theorem byte_toNat (v : Int) (h : 0 ≤ v) : ((byte v).toNat : Int) = v % 256 := by
  unfold byte; simp; omega
theorem bcs_append (l m : BA) : bcs (l ++ m) = bcs l ++ bcs m := by simp [bcs]
theorem bcs_length (l : BA) : (bcs l).length = l.length := by simp [bcs]
theorem bcs_one (v : Int) (h : 0 ≤ v) : bcs [byte v] = [.int .u8 (v % 256)] := by simp [bcs, byte_toNat v h]
theorem byte_mod (v : Int) (h : 0 ≤ v) : byte (v % 256) = byte v := by
  unfold byte
  apply UInt8.toNat_inj.1
  simp; omega
theorem num_snoc (l : BA) (b : UInt8) : num (l ++ [b]) = num l * 256 + b.toNat := by simp [num]
theorem num_nil : num [] = 0 := rfl
theorem num_lt (l : BA) (h : l.length ≤ 4) : num l < 256 ^ l.length := by
  have hb : ∀ b : UInt8, b.toNat < 256 := fun b => b.toNat_lt
  match l, h with
  | [], _ => simp [num]
  | [a], _ => simp [num]; exact hb a
  | [a, b], _ => have := hb a; have := hb b; simp [num]; omega
  | [a, b, c], _ => have := hb a; have := hb b; have := hb c; simp [num]; omega
  | [a, b, c, d], _ => have := hb a; have := hb b; have := hb c; have := hb d; simp [num]; omega
theorem num_w2 (v : Int) (h0 : 0 ≤ v) (h1 : v ≤ 65535) : (num (w2 v) : Int) = v := by
  have ha := byte_toNat (v / 256) (by omega)
  have hb := byte_toNat v h0
  simp [num, w2]; omega
theorem num_w4 (v : Int) (h0 : 0 ≤ v) (h1 : v ≤ 4294967295) : (num (w4 v) : Int) = v := by
  have ha := byte_toNat (v / 65536 / 256) (by omega)
  have hb := byte_toNat (v / 65536) (by omega)
  have hc := byte_toNat (v % 65536 / 256) (by omega)
  have hd := byte_toNat (v % 65536) (by omega)
  simp [num, w4, w2]; omega
theorem mask8 (v : Int) (h0 : 0 ≤ v) (h1 : v < 4294967296) : bits .and .u32 v 255 = v % 256 := by
  obtain ⟨n, rfl⟩ := Int.eq_ofNat_of_zero_le h0
  rw [show (255 : Int) = ((255 : Nat) : Int) from rfl, u32_and_nat n 255 (by omega) (by omega), show (255 : Nat) = 2 ^ 8 - 1 from rfl, Nat.and_two_pow_sub_one_eq_mod]
  omega
theorem mask16 (v : Int) (h0 : 0 ≤ v) (h1 : v < 4294967296) : bits .and .u32 v 65535 = v % 65536 := by
  obtain ⟨n, rfl⟩ := Int.eq_ofNat_of_zero_le h0
  rw [show (65535 : Int) = ((65535 : Nat) : Int) from rfl, u32_and_nat n 65535 (by omega) (by omega), show (65535 : Nat) = 2 ^ 16 - 1 from rfl, Nat.and_two_pow_sub_one_eq_mod]
  omega
/-! The things that a record has. -/
structure Cl where
  k : ByteArray
  v : ByteArray
  b : Int
  z : Int
structure Pt where
  pg : Int
  ofs : Int
  bs : ByteArray
structure Tx where
  id : Int
  last : Int
  com : Bool
  pages : List Int
structure Dy where
  page : Int
  lsn : Int
structure Rc where
  kind : Int
  tx : Int
  prev : Int
  next : Int
  key : ByteArray
  had : Bool
  old : Cl
  pages : List Int
  pts : List Pt
  txs : List Tx
  dys : List Dy
def nilC : Cl := ⟨⟨#[]⟩, ⟨#[]⟩, 0, 0⟩
def nilP : Pt := ⟨0, 0, ⟨#[]⟩⟩
def nilT : Tx := ⟨0, 0, false, []⟩
def nilD : Dy := ⟨0, 0⟩
def nilR : Rc := ⟨0, 0, 0, 0, ⟨#[]⟩, false, nilC, [], [], [], []⟩
/-! Which may be. -/
def two (v : Int) : Bool := decide (0 ≤ v ∧ v ≤ 65535)
def four (v : Int) : Bool := decide (0 ≤ v ∧ v ≤ 4294967295)
def rightK (v : Int) : Bool := decide (1 ≤ v ∧ v ≤ 7)
def rightP (p : Pt) : Bool := decide (0 ≤ p.pg ∧ p.pg < 64 ∧ 0 ≤ p.ofs ∧ 0 < p.bs.size ∧ p.ofs + p.bs.size ≤ 256)
def rightC (c : Cl) : Bool := decide (1 ≤ c.k.size ∧ c.k.size ≤ 16) && (if c.b = 0 then decide (c.v.size ≤ 40 ∧ c.z = 0) else decide (2 ≤ c.b ∧ c.b ≤ 63 ∧ c.v.size = 0 ∧ 41 ≤ c.z ∧ c.z ≤ 400))
def zeroC (c : Cl) : Bool := decide (c.k.size = 0 ∧ c.v.size = 0 ∧ c.b = 0 ∧ c.z = 0)
def rightO (c : Cl) : Bool := zeroC c || rightC c
/-- So many at most, each of them right. -/
def everyB {α : Type} (l : List α) (m : Nat) (p : α → Bool) : Bool := decide (l.length ≤ m) && l.all p
def rightPs (l : List Int) : Bool := everyB l 64 two
def rightT (t : Tx) : Bool := two t.id && (four t.last && rightPs t.pages)
def rightD (d : Dy) : Bool := two d.page && four d.lsn
def rightR (r : Rc) : Bool := rightK r.kind && (two r.tx && (four r.prev && (four r.next && (decide (r.key.size ≤ 255) && (rightO r.old && (rightPs r.pages && (everyB r.pts 40 rightP && (everyB r.txs 8 rightT && everyB r.dys 64 rightD))))))))
/-! As bytes. -/
def encS (s : ByteArray) : BA := w2 s.size ++ s.data.toList
def encF (b : Bool) : BA := w2 (if b then 1 else 0)
def encL {α : Type} (f : α → BA) (l : List α) : BA := w2 l.length ++ l.flatMap f
def encP (p : Pt) : BA := w2 p.pg ++ (w2 p.ofs ++ encS p.bs)
def encT (t : Tx) : BA := w2 t.id ++ (w4 t.last ++ (encF t.com ++ encL w2 t.pages))
def encD (d : Dy) : BA := w2 d.page ++ w4 d.lsn
def encC (c : Cl) : BA := encS c.k ++ (encS c.v ++ (w2 c.b ++ w2 c.z))
def encR (r : Rc) : BA := w2 r.kind ++ (w2 r.tx ++ (w4 r.prev ++ (w4 r.next ++ (encS r.key ++ (encF r.had ++ (encC r.old ++ (encL w2 r.pages ++ (encL encP r.pts ++ (encL encT r.txs ++ encL encD r.dys)))))))))
def putS (r : Rc) : BA := if rightR r then encR r else []
/-! A reader: what is left, and whether it is good. -/
abbrev RS := BA × Bool
def takeR (n : Nat) (s : RS) : BA × RS := if s.2 then (if n ≤ s.1.length then (s.1.take n, (s.1.drop n, true)) else ([], ([], false))) else ([], s)
def numR (s : RS) : Int × RS := ((num (takeR 2 s).1 : Int), (takeR 2 s).2)
def longR (s : RS) : Int × RS := ((num (takeR 4 s).1 : Int), (takeR 4 s).2)
def textR (s : RS) : ByteArray × RS := (str (takeR (numR s).1.toNat (numR s).2).1, (takeR (numR s).1.toNat (numR s).2).2)
def flagR (s : RS) : Bool × RS := (decide ((numR s).1 = 1), (numR s).2)
def listN {α : Type} (f : RS → α × RS) : Nat → RS → List α × RS
  | 0, s => ([], s)
  | n + 1, s => ((listN f n s).1 ++ [(f (listN f n s).2).1], (f (listN f n s).2).2)
def listR {α : Type} (f : RS → α × RS) (m : Nat) (s : RS) : List α × RS := listN f (min (numR s).1 (m : Int)).toNat (numR s).2
def pagesR (s : RS) : List Int × RS := listR numR 64 s
def ptR (s : RS) : Pt × RS := (⟨(numR s).1, (numR (numR s).2).1, (textR (numR (numR s).2).2).1⟩, (textR (numR (numR s).2).2).2)
def txR1 (s : RS) : RS := (longR (numR s).2).2
def txR (s : RS) : Tx × RS := (⟨(numR s).1, (longR (numR s).2).1, (flagR (txR1 s)).1, (pagesR (flagR (txR1 s)).2).1⟩, (pagesR (flagR (txR1 s)).2).2)
def dyR (s : RS) : Dy × RS := (⟨(numR s).1, (longR (numR s).2).1⟩, (longR (numR s).2).2)
def clR2 (s : RS) : RS := (textR (textR s).2).2
def clR (s : RS) : Cl × RS := (⟨(textR s).1, (textR (textR s).2).1, (numR (clR2 s)).1, (numR (numR (clR2 s)).2).1⟩, (numR (numR (clR2 s)).2).2)
def s1 (s : RS) : RS := (numR s).2
def s2 (s : RS) : RS := (numR (s1 s)).2
def s3 (s : RS) : RS := (longR (s2 s)).2
def s4 (s : RS) : RS := (longR (s3 s)).2
def s5 (s : RS) : RS := (textR (s4 s)).2
def s6 (s : RS) : RS := (flagR (s5 s)).2
def s7 (s : RS) : RS := (clR (s6 s)).2
def s8 (s : RS) : RS := (pagesR (s7 s)).2
def s9 (s : RS) : RS := (listR ptR 40 (s8 s)).2
def s10 (s : RS) : RS := (listR txR 8 (s9 s)).2
def recR (s : RS) : Rc × RS := (⟨(numR s).1, (numR (s1 s)).1, (longR (s2 s)).1, (longR (s3 s)).1, (textR (s4 s)).1, (flagR (s5 s)).1, (clR (s6 s)).1, (pagesR (s7 s)).1, (listR ptR 40 (s8 s)).1, (listR txR 8 (s9 s)).1, (listR dyR 64 (s10 s)).1⟩, (listR dyR 64 (s10 s)).2)
/-- What b is read as. -/
def readR (b : BA) : Rc := (recR (b, true)).1
/-- Is it a record's? -/
def getOk (b : BA) : Bool := rightR (readR b) && decide (encR (readR b) = b)
/-! There and back. -/
theorem takeR_ok (l t : BA) : takeR l.length (l ++ t, true) = (l, (t, true)) := by simp [takeR]
theorem two_iff {v : Int} : two v = true ↔ 0 ≤ v ∧ v ≤ 65535 := by simp [two]
theorem four_iff {v : Int} : four v = true ↔ 0 ≤ v ∧ v ≤ 4294967295 := by simp [four]
theorem numR_ok {v : Int} (h : two v = true) (t : BA) : numR (w2 v ++ t, true) = (v, (t, true)) := by
  obtain ⟨h0, h1⟩ := two_iff.1 h
  have e : takeR 2 (w2 v ++ t, true) = (w2 v, (t, true)) := takeR_ok (w2 v) t
  unfold numR
  rw [e, num_w2 v h0 h1]
theorem longR_ok {v : Int} (h : four v = true) (t : BA) : longR (w4 v ++ t, true) = (v, (t, true)) := by
  obtain ⟨h0, h1⟩ := four_iff.1 h
  have e : takeR 4 (w4 v ++ t, true) = (w4 v, (t, true)) := takeR_ok (w4 v) t
  unfold longR
  rw [e, num_w4 v h0 h1]
theorem two_nat {n : Nat} (h : n ≤ 65535) : two (n : Int) = true := two_iff.2 ⟨by omega, by omega⟩
theorem textR_ok {s : ByteArray} (h : s.size ≤ 65535) (t : BA) : textR (encS s ++ t, true) = (s, (t, true)) := by
  unfold textR encS
  rw [List.append_assoc, numR_ok (two_nat h), Int.toNat_natCast, ← size_data, takeR_ok]
  rfl
theorem flagR_ok (b : Bool) (t : BA) : flagR (encF b ++ t, true) = (b, (t, true)) := by
  unfold flagR encF
  rw [numR_ok (by cases b <;> rfl)]
  cases b <;> rfl
theorem listN_ok {α : Type} {f : RS → α × RS} {enc : α → BA} {l : List α} (h : ∀ x ∈ l, ∀ t, f (enc x ++ t, true) = (x, (t, true))) (t : BA) :
    ∀ k, k ≤ l.length → listN f k (l.flatMap enc ++ t, true) = (l.take k, ((l.drop k).flatMap enc ++ t, true))
  | 0, _ => by simp [listN]
  | k + 1, hk => by
    have ih := listN_ok h t k (by omega)
    have hlt : k < l.length := by omega
    unfold listN
    rw [ih]
    rw [List.drop_eq_getElem_cons hlt, List.flatMap_cons, List.append_assoc, h _ (List.getElem_mem hlt), List.take_succ_eq_append_getElem hlt]
theorem listR_ok {α : Type} {f : RS → α × RS} {enc : α → BA} {l : List α} {m : Nat} (hl : l.length ≤ m) (hm : m ≤ 65535) (h : ∀ x ∈ l, ∀ t, f (enc x ++ t, true) = (x, (t, true))) (t : BA) :
    listR f m (encL enc l ++ t, true) = (l, (t, true)) := by
  unfold listR encL
  rw [List.append_assoc, numR_ok (two_nat (by omega))]
  have e : (min ((l.length : Nat) : Int) (m : Int)).toNat = l.length := by omega
  simp only [e]
  rw [listN_ok h t l.length (Nat.le_refl _)]
  simp
theorem everyB_iff {α : Type} {l : List α} {m : Nat} {p : α → Bool} : everyB l m p = true ↔ l.length ≤ m ∧ ∀ x ∈ l, p x = true := by
  unfold everyB
  rw [Bool.and_eq_true, decide_eq_true_eq, List.all_eq_true]
theorem pagesR_ok {l : List Int} (h : rightPs l = true) (t : BA) : pagesR (encL w2 l ++ t, true) = (l, (t, true)) := by
  obtain ⟨h1, h2⟩ := everyB_iff.1 h
  exact listR_ok h1 (by omega) (fun x hx t => numR_ok (h2 x hx) t) t
theorem rightP_iff {p : Pt} : rightP p = true ↔ 0 ≤ p.pg ∧ p.pg < 64 ∧ 0 ≤ p.ofs ∧ 0 < p.bs.size ∧ p.ofs + p.bs.size ≤ 256 := by simp [rightP]
theorem ptR_ok {p : Pt} (h : rightP p = true) (t : BA) : ptR (encP p ++ t, true) = (p, (t, true)) := by
  obtain ⟨h1, h2, h3, h4, h5⟩ := rightP_iff.1 h
  unfold ptR encP
  rw [List.append_assoc, numR_ok (two_iff.2 ⟨h1, by omega⟩), List.append_assoc]
  simp only
  rw [numR_ok (two_iff.2 ⟨h3, by omega⟩)]
  simp only
  rw [textR_ok (by omega)]
theorem rightT_iff {t : Tx} : rightT t = true ↔ two t.id = true ∧ four t.last = true ∧ rightPs t.pages = true := by
  unfold rightT
  rw [Bool.and_eq_true, Bool.and_eq_true]
theorem txR_ok {x : Tx} (h : rightT x = true) (t : BA) : txR (encT x ++ t, true) = (x, (t, true)) := by
  obtain ⟨h1, h2, h3⟩ := rightT_iff.1 h
  unfold txR txR1 encT
  rw [List.append_assoc, numR_ok h1, List.append_assoc]
  simp only
  rw [longR_ok h2, List.append_assoc]
  simp only
  rw [flagR_ok]
  simp only
  rw [pagesR_ok h3]
theorem rightD_iff {d : Dy} : rightD d = true ↔ two d.page = true ∧ four d.lsn = true := by
  unfold rightD
  rw [Bool.and_eq_true]
theorem dyR_ok {x : Dy} (h : rightD x = true) (t : BA) : dyR (encD x ++ t, true) = (x, (t, true)) := by
  obtain ⟨h1, h2⟩ := rightD_iff.1 h
  unfold dyR encD
  rw [List.append_assoc, numR_ok h1]
  simp only
  rw [longR_ok h2]
/-- A cell that may stand in a record has numbers of two bytes, and short texts. -/
theorem rightO_in {c : Cl} (h : rightO c = true) : c.k.size ≤ 16 ∧ c.v.size ≤ 40 ∧ two c.b = true ∧ two c.z = true := by
  unfold rightO at h
  rw [Bool.or_eq_true] at h
  rcases h with h | h
  · simp only [zeroC, decide_eq_true_eq] at h
    exact ⟨by omega, by omega, two_iff.2 (by omega), two_iff.2 (by omega)⟩
  · unfold rightC at h
    rw [Bool.and_eq_true, decide_eq_true_eq] at h
    obtain ⟨h1, h2⟩ := h
    by_cases e : c.b = 0
    · rw [if_pos e, decide_eq_true_eq] at h2
      exact ⟨by omega, by omega, two_iff.2 (by omega), two_iff.2 (by omega)⟩
    · rw [if_neg e, decide_eq_true_eq] at h2
      exact ⟨by omega, by omega, two_iff.2 (by omega), two_iff.2 (by omega)⟩
theorem clR_ok {c : Cl} (h : rightO c = true) (t : BA) : clR (encC c ++ t, true) = (c, (t, true)) := by
  obtain ⟨h1, h2, h3, h4⟩ := rightO_in h
  unfold clR clR2 encC
  rw [List.append_assoc, textR_ok (by omega), List.append_assoc]
  simp only
  rw [textR_ok (by omega), List.append_assoc]
  simp only
  rw [numR_ok h3]
  simp only
  rw [numR_ok h4]
structure RightR (r : Rc) : Prop where
  kind : 1 ≤ r.kind ∧ r.kind ≤ 7
  tx : two r.tx = true
  prev : four r.prev = true
  next : four r.next = true
  key : r.key.size ≤ 255
  old : rightO r.old = true
  pages : rightPs r.pages = true
  pts : everyB r.pts 40 rightP = true
  txs : everyB r.txs 8 rightT = true
  dys : everyB r.dys 64 rightD = true
theorem rightR_iff {r : Rc} : rightR r = true ↔ RightR r := by
  unfold rightR rightK
  simp only [Bool.and_eq_true, decide_eq_true_eq]
  exact ⟨fun ⟨a, b, c, d, e, f, g, h, i, j⟩ => ⟨a, b, c, d, e, f, g, h, i, j⟩, fun ⟨a, b, c, d, e, f, g, h, i, j⟩ => ⟨a, b, c, d, e, f, g, h, i, j⟩⟩
theorem recR_ok {r : Rc} (h : RightR r) (t : BA) : recR (encR r ++ t, true) = (r, (t, true)) := by
  have a0 := numR_ok (v := r.kind) (two_iff.2 ⟨by have := h.kind; omega, by have := h.kind; omega⟩)
  obtain ⟨p1, p2⟩ := everyB_iff.1 h.pts
  obtain ⟨t1, t2⟩ := everyB_iff.1 h.txs
  obtain ⟨d1, d2⟩ := everyB_iff.1 h.dys
  have e1 : s1 (encR r ++ t, true) = (w2 r.tx ++ (w4 r.prev ++ (w4 r.next ++ (encS r.key ++ (encF r.had ++ (encC r.old ++ (encL w2 r.pages ++ (encL encP r.pts ++ (encL encT r.txs ++ (encL encD r.dys ++ t))))))))), true) := by
    unfold s1 encR
    simp only [List.append_assoc]
    rw [a0]
  have e0 : (numR (encR r ++ t, true)).1 = r.kind := by
    unfold encR
    rw [List.append_assoc, a0]
  have e2 : s2 (encR r ++ t, true) = (w4 r.prev ++ (w4 r.next ++ (encS r.key ++ (encF r.had ++ (encC r.old ++ (encL w2 r.pages ++ (encL encP r.pts ++ (encL encT r.txs ++ (encL encD r.dys ++ t)))))))), true) := by unfold s2; rw [e1, numR_ok h.tx]
  have e3 : s3 (encR r ++ t, true) = (w4 r.next ++ (encS r.key ++ (encF r.had ++ (encC r.old ++ (encL w2 r.pages ++ (encL encP r.pts ++ (encL encT r.txs ++ (encL encD r.dys ++ t))))))), true) := by unfold s3; rw [e2, longR_ok h.prev]
  have e4 : s4 (encR r ++ t, true) = (encS r.key ++ (encF r.had ++ (encC r.old ++ (encL w2 r.pages ++ (encL encP r.pts ++ (encL encT r.txs ++ (encL encD r.dys ++ t)))))), true) := by unfold s4; rw [e3, longR_ok h.next]
  have e5 : s5 (encR r ++ t, true) = (encF r.had ++ (encC r.old ++ (encL w2 r.pages ++ (encL encP r.pts ++ (encL encT r.txs ++ (encL encD r.dys ++ t))))), true) := by unfold s5; rw [e4, textR_ok (by have := h.key; omega)]
  have e6 : s6 (encR r ++ t, true) = (encC r.old ++ (encL w2 r.pages ++ (encL encP r.pts ++ (encL encT r.txs ++ (encL encD r.dys ++ t)))), true) := by unfold s6; rw [e5, flagR_ok]
  have e7 : s7 (encR r ++ t, true) = (encL w2 r.pages ++ (encL encP r.pts ++ (encL encT r.txs ++ (encL encD r.dys ++ t))), true) := by unfold s7; rw [e6, clR_ok h.old]
  have e8 : s8 (encR r ++ t, true) = (encL encP r.pts ++ (encL encT r.txs ++ (encL encD r.dys ++ t)), true) := by unfold s8; rw [e7, pagesR_ok h.pages]
  have e9 : s9 (encR r ++ t, true) = (encL encT r.txs ++ (encL encD r.dys ++ t), true) := by unfold s9; rw [e8, listR_ok p1 (by omega) (fun x hx t => ptR_ok (p2 x hx) t)]
  have e10 : s10 (encR r ++ t, true) = (encL encD r.dys ++ t, true) := by unfold s10; rw [e9, listR_ok t1 (by omega) (fun x hx t => txR_ok (t2 x hx) t)]
  unfold recR
  rw [e0, e1, e2, e3, e4, e5, e6, e7, e8, e9, e10]
  rw [numR_ok h.tx, longR_ok h.prev, longR_ok h.next, textR_ok (by have := h.key; omega), flagR_ok, clR_ok h.old, pagesR_ok h.pages, listR_ok p1 (by omega) (fun x hx t => ptR_ok (p2 x hx) t), listR_ok t1 (by omega) (fun x hx t => txR_ok (t2 x hx) t), listR_ok d1 (by omega) (fun x hx t => dyR_ok (d2 x hx) t)]
theorem readR_ok {r : Rc} (h : rightR r = true) (t : BA) : readR (encR r ++ t) = r := by
  unfold readR
  rw [recR_ok (rightR_iff.1 h)]
theorem readR_enc {r : Rc} (h : rightR r = true) : readR (encR r) = r := by
  have := readR_ok h []
  rwa [List.append_nil] at this
theorem getOk_enc {r : Rc} (h : rightR r = true) : getOk (encR r) = true := by
  unfold getOk
  rw [readR_enc h, h]
  simp
theorem getOk_iff {b : BA} : getOk b = true ↔ rightR (readR b) = true ∧ encR (readR b) = b := by
  unfold getOk
  rw [Bool.and_eq_true, decide_eq_true_eq]
/-- More bytes behind a record's are none's. -/
theorem getOk_more {r : Rc} (h : rightR r = true) (t : BA) : getOk (encR r ++ t) = decide (t = []) := by
  by_cases e : t = []
  · rw [e, List.append_nil, getOk_enc h, decide_eq_true rfl]
  · rw [decide_eq_false e, Bool.eq_false_iff]
    intro hg
    have := (getOk_iff.1 hg).2
    rw [readR_ok h] at this
    have hl := congrArg List.length this
    rw [List.length_append] at hl
    exact e (List.eq_nil_of_length_eq_zero (by omega))
/-- Fewer are none's. -/
theorem getOk_less {r : Rc} (h : rightR r = true) (k : Nat) (hk : k < (encR r).length) : getOk ((encR r).take k) = false := by
  rw [Bool.eq_false_iff]
  intro hg
  obtain ⟨h1, h2⟩ := getOk_iff.1 hg
  generalize readR ((encR r).take k) = y at h1 h2
  have e : encR y ++ (encR r).drop k = encR r := by rw [h2, List.take_append_drop]
  have e1 := readR_ok h1 ((encR r).drop k)
  rw [e, readR_enc h] at e1
  subst e1
  have hl := congrArg List.length h2
  rw [List.length_take] at hl
  omega
/-! How many bytes. -/
theorem encS_length (s : ByteArray) : (encS s).length = 2 + s.size := by unfold encS; rw [List.length_append, w2_length, size_data]
theorem encF_length (b : Bool) : (encF b).length = 2 := rfl
theorem encP_length (p : Pt) : (encP p).length = 6 + p.bs.size := by unfold encP; simp only [List.length_append, w2_length, encS_length]; omega
theorem encD_length (d : Dy) : (encD d).length = 6 := rfl
theorem encL_length {α : Type} (f : α → BA) (l : List α) : (encL f l).length = 2 + (l.flatMap f).length := by unfold encL; rw [List.length_append, w2_length]
theorem flat_const {α : Type} {f : α → BA} {k : Nat} (h : ∀ x, (f x).length = k) (l : List α) : (l.flatMap f).length = k * l.length := by
  induction l with
  | nil => rfl
  | cons x l ih => rw [List.flatMap_cons, List.length_append, h, ih, List.length_cons, Nat.mul_succ]; omega
theorem flat_le {α : Type} {f : α → BA} {k : Nat} {l : List α} (h : ∀ x ∈ l, (f x).length ≤ k) : (l.flatMap f).length ≤ k * l.length := by
  induction l with
  | nil => simp
  | cons x l ih =>
    rw [List.flatMap_cons, List.length_append, List.length_cons, Nat.mul_succ]
    have := h x (List.mem_cons_self ..)
    have := ih fun y hy => h y (List.mem_cons_of_mem _ hy)
    omega
theorem encT_length (t : Tx) : (encT t).length = 10 + 2 * t.pages.length := by
  unfold encT
  simp only [List.length_append, w2_length, w4_length, encF_length, encL_length, flat_const w2_length]
  omega
theorem encC_length (c : Cl) : (encC c).length = 8 + c.k.size + c.v.size := by unfold encC; simp only [List.length_append, w2_length, encS_length]; omega
theorem encR_length (r : Rc) : (encR r).length = 12 + (2 + r.key.size) + 2 + (8 + r.old.k.size + r.old.v.size) + (2 + 2 * r.pages.length) + (2 + (r.pts.flatMap encP).length) + (2 + (r.txs.flatMap encT).length) + (2 + 6 * r.dys.length) := by
  unfold encR
  simp only [List.length_append, w2_length, w4_length, encF_length, encL_length, flat_const w2_length, encS_length, encC_length, flat_const encD_length]
  omega
theorem encR_pos (r : Rc) : 0 < (encR r).length := by rw [encR_length]; omega
theorem enc_small {r : Rc} (h : RightR r) : (encR r).length ≤ 20000 := by
  rw [encR_length]
  obtain ⟨o1, o2, _, _⟩ := rightO_in h.old
  obtain ⟨g1, g2⟩ := everyB_iff.1 h.pages
  obtain ⟨p1, p2⟩ := everyB_iff.1 h.pts
  obtain ⟨t1, t2⟩ := everyB_iff.1 h.txs
  obtain ⟨d1, d2⟩ := everyB_iff.1 h.dys
  have hk := h.key
  have hp : (r.pts.flatMap encP).length ≤ 262 * r.pts.length := flat_le fun x hx => by
    have := rightP_iff.1 (p2 x hx)
    rw [encP_length]
    omega
  have ht : (r.txs.flatMap encT).length ≤ 138 * r.txs.length := flat_le fun x hx => by
    have := (everyB_iff.1 (rightT_iff.1 (t2 x hx)).2.2).1
    rw [encT_length]
    omega
  omega
end Go.Proofs.YtbmnagfjpenemaaGreatDoor
