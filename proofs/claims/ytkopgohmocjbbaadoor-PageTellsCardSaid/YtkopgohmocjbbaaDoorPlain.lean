/- Plain mathematics for pages as bytes: a page's bytes, the page of bytes, and what they tell of one another. No program. -/
import Derived.Lib.Strings
import Derived.Lib.Hide
namespace Go.Proofs.YtkopgohmocjbbaaDoor
set_option linter.unusedVariables false
abbrev BA := List UInt8
def str (b : BA) : ByteArray := ⟨b.toArray⟩
theorem str_size (b : BA) : (str b).size = b.length := by simp [str, ByteArray.size]
theorem str_toList (b : BA) : (str b).data.toList = b := by simp [str]
theorem str_inj {a b : BA} (h : str a = str b) : a = b := by rw [← str_toList a, h, str_toList]
theorem str_data (x : ByteArray) : str x.data.toList = x := by cases x; simp [str]
theorem str_append (x : ByteArray) (l : BA) : x ++ str l = str (x.data.toList ++ l) := by
  apply ByteArray.ext
  rw [ByteArray.data_append]
  apply Array.ext'
  simp [str]
theorem str_list (b : BA) : (str b).toList = b := by rw [ByteArray.toList_eq]; exact str_toList b
def zs (n : Nat) : BA := List.replicate n 0
theorem zs_length (n : Nat) : (zs n).length = n := by simp [zs]
/-- A page: kind, depth, next, the body's bytes. -/
structure Pg where
  kind : Int
  depth : Int
  next : Int
  body : BA
theorem Pg.same {p q : Pg} (h1 : p.kind = q.kind) (h2 : p.depth = q.depth) (h3 : p.next = q.next) (h4 : p.body = q.body) : p = q := by
  cases p; cases q; simp_all
def Pg.Ok (p : Pg) : Prop := (0 ≤ p.kind ∧ p.kind ≤ 5) ∧ (0 ≤ p.depth ∧ p.depth ≤ 5) ∧ (0 ≤ p.next ∧ p.next ≤ 63) ∧ p.body.length = 240
instance decOk (p : Pg) : Decidable p.Ok := by unfold Pg.Ok; exact inferInstance
def u8 (x : Int) : UInt8 := UInt8.ofNat x.toNat
def Pg.nums (p : Pg) : BA := [u8 p.kind, u8 p.depth, 0, u8 p.next]
def Pg.bytes (p : Pg) : BA := ([80, 71] ++ p.nums ++ zs 10) ++ p.body
theorem Pg.bytes_length (p : Pg) : p.bytes.length = 16 + p.body.length := by simp [Pg.bytes, Pg.nums, zs]; omega
theorem u8_toNat {x : Int} (h0 : 0 ≤ x) (h1 : x ≤ 255) : ((u8 x).toNat : Int) = x := by
  unfold u8
  rw [UInt8.toNat_ofNat']
  omega
theorem u8_inj {x y : Int} (h0 : 0 ≤ x) (h1 : x ≤ 255) (k0 : 0 ≤ y) (k1 : y ≤ 255) (h : u8 x = u8 y) : x = y := by
  rw [← u8_toNat h0 h1, ← u8_toNat k0 k1, h]
theorem Pg.bytes_inj {p q : Pg} (hp : p.Ok) (hq : q.Ok) (h : p.bytes = q.bytes) : p = q := by
  obtain ⟨⟨a1, a2⟩, ⟨b1, b2⟩, ⟨c1, c2⟩, d⟩ := hp
  obtain ⟨⟨a3, a4⟩, ⟨b3, b4⟩, ⟨c3, c4⟩, e⟩ := hq
  simp only [Pg.bytes, Pg.nums, List.cons_append, List.nil_append, List.cons.injEq, List.append_cancel_left_eq, true_and] at h
  exact Pg.same (u8_inj a1 (by omega) a3 (by omega) h.1) (u8_inj b1 (by omega) b3 (by omega) h.2.1) (u8_inj c1 (by omega) c3 (by omega) h.2.2.1) h.2.2.2
/-- The page that bytes are, if they are one. -/
def ofB (b : BA) : Pg := ⟨((b.getD 2 0).toNat : Int), ((b.getD 3 0).toNat : Int), ((b.getD 4 0).toNat : Int) * 256 + ((b.getD 5 0).toNat : Int), b.drop 16⟩
def free : Pg := ⟨0, 0, 0, zs 240⟩
def nilP : Pg := ⟨0, 0, 0, []⟩
def getP (b : BA) : Option Pg := if b.length ≠ 256 then none else if b = zs 256 then some free else if (ofB b).Ok ∧ (ofB b).bytes = b then some (ofB b) else none
theorem getP_len {b : BA} (h : b.length ≠ 256) : getP b = none := by unfold getP; rw [if_pos h]
theorem getP_zero : getP (zs 256) = some free := by unfold getP; rw [if_neg (by simp [zs_length]), if_pos rfl]
theorem getP_one {b : BA} (h : b.length = 256) (hz : b ≠ zs 256) (ho : (ofB b).Ok) (hb : (ofB b).bytes = b) : getP b = some (ofB b) := by
  unfold getP; rw [if_neg (by simp [h]), if_neg hz, if_pos ⟨ho, hb⟩]
theorem getP_none {b : BA} (hz : b ≠ zs 256) (ho : ¬ ((ofB b).Ok ∧ (ofB b).bytes = b)) : getP b = none := by
  unfold getP
  rw [if_neg hz, if_neg ho]
  split <;> rfl
theorem bytes_zs (p : Pg) : p.bytes ≠ zs 256 := by
  intro h
  have h1 : p.bytes.getD 0 0 = (zs 256).getD 0 0 := by rw [h]
  rw [show (zs 256).getD 0 0 = 0 by rw [zs, List.getD_eq_getElem?_getD, List.getElem?_replicate]; rfl] at h1
  simp [Pg.bytes] at h1
theorem bytes_head (p : Pg) : p.bytes.getD 0 0 = 80 ∧ p.bytes.getD 1 0 = 71 := by simp [Pg.bytes]
theorem ofB_bytes {p : Pg} (hp : p.Ok) : ofB p.bytes = p := by
  obtain ⟨⟨a1, a2⟩, ⟨b1, b2⟩, ⟨c1, c2⟩, d⟩ := hp
  refine Pg.same ?_ ?_ ?_ ?_
  · simp [ofB, Pg.bytes, Pg.nums, u8_toNat a1 (by omega)]
  · simp [ofB, Pg.bytes, Pg.nums, u8_toNat b1 (by omega)]
  · simp [ofB, Pg.bytes, Pg.nums, u8_toNat c1 (by omega)]
  · simp only [ofB, Pg.bytes]
    rw [List.drop_left' (by simp [Pg.nums, zs])]
/-- Written, a page is read as it was. -/
theorem getP_bytes {p : Pg} (hp : p.Ok) : getP p.bytes = some p := by
  rw [getP_one (by rw [Pg.bytes_length, hp.2.2.2]) (bytes_zs p) (by rw [ofB_bytes hp]; exact hp) (by rw [ofB_bytes hp]), ofB_bytes hp]
/-- What is read is what its bytes were, but for zeros. -/
theorem getP_some {b : BA} {p : Pg} (h : getP b = some p) : b.length = 256 ∧ ((b = zs 256 ∧ p = free) ∨ (p.Ok ∧ p.bytes = b)) := by
  unfold getP at h
  split at h
  · cases h
  · rename_i hl
    refine ⟨by simpa using hl, ?_⟩
    split at h
    · rename_i hz; cases h; exact .inl ⟨hz, rfl⟩
    · split at h
      · rename_i hq; cases h; exact .inr hq
      · cases h
def okB (b : BA) : Bool := (getP b).isSome
def valB (b : BA) : Pg := (getP b).getD nilP
end Go.Proofs.YtkopgohmocjbbaaDoor
