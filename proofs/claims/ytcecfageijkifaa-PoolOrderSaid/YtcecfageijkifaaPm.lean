/- A pool, plainly; a pool in memory; what it reads and writes, abstractly. -/
import Derived.Test.YtcecfageijkifaaBa
namespace Go.Proofs.Ytcecfageijkifaa.Po
open Go.ChangeShapes Go.WideShapes Go.ChangeAt Go.RowKit
set_option linter.unusedVariables false
set_option linter.unusedSimpArgs false
set_option maxRecDepth 100000
structure Fm where
  b : BA
  d : Bool
  since : Int
  lsn : Int
structure Pl where
  most : Nat
  ks : List Int
  fr : Int → Fm
  tm : Int → Nat × Nat
  acc : Nat
def upd {α : Type} (f : Int → α) (k : Int) (v : α) : Int → α := fun j => if j = k then v else f j
theorem upd_same {α : Type} (f : Int → α) (k : Int) (v : α) : upd f k v k = v := by simp [upd]
theorem upd_other {α : Type} (f : Int → α) {k j : Int} (v : α) (h : j ≠ k) : upd f k v j = f j := by simp [upd, h]
/-- The keys with one more, in ascending order. -/
def insK (k : Int) (ks : List Int) : List Int := ks.filter (fun j => decide (j < k)) ++ k :: ks.filter (fun j => decide (k < j))
theorem mem_insK {k j : Int} {ks : List Int} : j ∈ insK k ks ↔ j = k ∨ j ∈ ks := by
  simp only [insK, List.mem_append, List.mem_filter, List.mem_cons, decide_eq_true_eq]
  constructor
  · rintro (h | h | h)
    · exact .inr h.1
    · exact .inl h
    · exact .inr h.1
  · rintro (h | h)
    · exact .inr (.inl h)
    · rcases Int.lt_trichotomy j k with h1 | h1 | h1
      · exact .inl ⟨h, h1⟩
      · exact .inr (.inl h1)
      · exact .inr (.inr ⟨h, h1⟩)
theorem insK_sorted {k : Int} {ks : List Int} (h : ks.Pairwise (· < ·)) : (insK k ks).Pairwise (· < ·) := by
  unfold insK
  refine List.pairwise_append.2 ⟨h.filter _, List.pairwise_cons.2 ⟨fun j hj => ?_, h.filter _⟩, fun a ha b hb => ?_⟩
  · have := (List.mem_filter.1 hj).2
    simpa using this
  · have h1 := (List.mem_filter.1 ha).2
    simp only [decide_eq_true_eq] at h1
    rcases List.mem_cons.1 hb with rfl | hb
    · exact h1
    · have h2 := (List.mem_filter.1 hb).2
      simp only [decide_eq_true_eq] at h2
      omega
theorem insK_length {k : Int} : ∀ {ks : List Int}, k ∉ ks → (insK k ks).length = ks.length + 1
  | [], _ => by simp [insK]
  | x :: r, h => by
    have h1 : k ∉ r := fun h' => h (List.mem_cons_of_mem _ h')
    have h2 : x ≠ k := fun e => h (by rw [e]; exact List.mem_cons_self)
    have ih := insK_length h1
    simp only [insK, List.length_append, List.length_cons] at ih ⊢
    rcases Int.lt_trichotomy x k with h3 | h3 | h3
    · rw [List.filter_cons_of_pos (by simpa using h3), List.filter_cons_of_neg (by simp; omega)]
      simp only [List.length_cons]; omega
    · exact absurd h3 h2
    · rw [List.filter_cons_of_neg (by simp; omega), List.filter_cons_of_pos (by simpa using h3)]
      simp only [List.length_cons]; omega
def delK (k : Int) (ks : List Int) : List Int := ks.filter fun j => decide (j ≠ k)
theorem mem_delK {k j : Int} {ks : List Int} : j ∈ delK k ks ↔ j ∈ ks ∧ j ≠ k := by simp [delK, List.mem_filter]
theorem delK_sorted {k : Int} {ks : List Int} (h : ks.Pairwise (· < ·)) : (delK k ks).Pairwise (· < ·) := h.filter _
theorem delK_length {k : Int} : ∀ {ks : List Int}, ks.Pairwise (· < ·) → k ∈ ks → (delK k ks).length + 1 = ks.length
  | [], _, h => by cases h
  | x :: r, hs, h => by
    obtain ⟨h1, h2⟩ := List.pairwise_cons.1 hs
    by_cases hx : x = k
    · subst hx
      have : delK x (x :: r) = r := by
        unfold delK
        rw [List.filter_cons_of_neg (by simp)]
        exact List.filter_eq_self.2 fun a ha => by have := h1 a ha; simp; omega
      rw [this]; rfl
    · have hr : k ∈ r := by rcases List.mem_cons.1 h with h | h; exact absurd h.symm hx; exact h
      have ih := delK_length h2 hr
      unfold delK at ih ⊢
      rw [List.filter_cons_of_pos (by simpa using hx)]
      simp only [List.length_cons]; omega
theorem sorted_nodup {ks : List Int} (h : ks.Pairwise (· < ·)) : ks.Nodup := h.imp fun hlt => by omega
/-! What a pool does. -/
def before (A : Pl) (x m : Int) : Bool := decide ((A.tm x).1 < (A.tm m).1 ∨ ((A.tm x).1 = (A.tm m).1 ∧ (A.tm x).2 < (A.tm m).2))
def victim (A : Pl) : Int := (A.ks.drop 1).foldl (fun m x => if before A x m then x else m) (A.ks.getD 0 0)
def insP (A : Pl) (k : Int) (b : BA) : Pl := { A with ks := insK k A.ks, fr := upd A.fr k ⟨b, false, 0, 0⟩ }
def delP (A : Pl) (k : Int) : Pl := { A with ks := delK k A.ks }
def accP (A : Pl) (k : Int) : Pl := { A with acc := A.acc + 1, tm := upd A.tm k ((A.tm k).2, A.acc + 1) }
def cleanP (A : Pl) (k : Int) : Pl := { A with fr := upd A.fr k { A.fr k with d := false } }
def dirtP (A : Pl) (k : Int) (b : BA) (lsn : Int) : Pl := { A with fr := upd A.fr k ⟨b, true, if (A.fr k).d then (A.fr k).since else lsn, lsn⟩ }
def dirtyK (A : Pl) : List Int := A.ks.filter fun k => (A.fr k).d
def isClean (A : Pl) (k : Int) : Bool := !(decide (k ∈ A.ks) && (A.fr k).d)
/-- What a pool reads and writes: three functions; what they do to a state; where that state lies. -/
structure Host (Ω : Type) where
  gr : Nat
  gw : Nat
  gl : Nat
  rpre : Array Value
  rcap : Array Value
  wpre : Array Value
  wcap : Array Value
  lpre : Array Value
  lcap : Array Value
  rdF : Ω → Int → (BA × Nat) × Ω
  wrF : Ω → Int → BA → Nat × Ω
  lgF : Ω → Int → Nat × Ω
  M : (Nat → Prop) → World → Ω → Prop
  ok : Ω → Nat → Prop
abbrev Host.rv {Ω : Type} (h : Host Ω) : Value := .func (.func h.gr) h.rpre h.rcap
abbrev Host.wv {Ω : Type} (h : Host Ω) : Value := .func (.func h.gw) h.wpre h.wcap
abbrev Host.lv {Ω : Type} (h : Host Ω) : Value := .func (.func h.gl) h.lpre h.lcap
section
variable {Ω : Type} (h : Host Ω)
def flushP (A : Pl) (o : Ω) (k : Int) : Nat × Pl × Ω :=
  if k ∈ A.ks ∧ (A.fr k).d = true then
    if (h.lgF o (A.fr k).lsn).1 ≠ 0 then ((h.lgF o (A.fr k).lsn).1, A, (h.lgF o (A.fr k).lsn).2)
    else if (h.wrF (h.lgF o (A.fr k).lsn).2 k (A.fr k).b).1 ≠ 0 then ((h.wrF (h.lgF o (A.fr k).lsn).2 k (A.fr k).b).1, A, (h.wrF (h.lgF o (A.fr k).lsn).2 k (A.fr k).b).2)
    else (0, cleanP A k, (h.wrF (h.lgF o (A.fr k).lsn).2 k (A.fr k).b).2)
  else (0, A, o)
def emptyP (A : Pl) (o : Ω) (k : Int) : Nat × Pl × Ω :=
  if (flushP h A o k).1 ≠ 0 then flushP h A o k else (0, delP (flushP h A o k).2.1 k, (flushP h A o k).2.2)
def provP (A : Pl) (o : Ω) (k : Int) (b : BA) : Nat × Pl × Ω :=
  if k ∈ A.ks then (0, A, o)
  else if A.ks.length < A.most then (0, insP A k b, o)
  else if (emptyP h A o (victim A)).1 ≠ 0 then emptyP h A o (victim A)
  else (0, insP (emptyP h A o (victim A)).2.1 k b, (emptyP h A o (victim A)).2.2)
def getP (A : Pl) (o : Ω) (k : Int) : (BA × Nat) × Pl × Ω :=
  if k ∈ A.ks then (((A.fr k).b, 0), accP A k, o)
  else if (h.rdF o k).1.2 ≠ 0 then (([], (h.rdF o k).1.2), A, (h.rdF o k).2)
  else if (provP h A (h.rdF o k).2 k (h.rdF o k).1.1).1 ≠ 0 then (([], (provP h A (h.rdF o k).2 k (h.rdF o k).1.1).1), (provP h A (h.rdF o k).2 k (h.rdF o k).1.1).2)
  else ((((provP h A (h.rdF o k).2 k (h.rdF o k).1.1).2.1.fr k).b, 0), accP (provP h A (h.rdF o k).2 k (h.rdF o k).1.1).2.1 k, (provP h A (h.rdF o k).2 k (h.rdF o k).1.1).2.2)
def setP (A : Pl) (o : Ω) (k : Int) (b : BA) (lsn : Int) : Nat × Pl × Ω :=
  if (provP h A o k []).1 ≠ 0 then provP h A o k []
  else (0, accP (dirtP (provP h A o k []).2.1 k b lsn) k, (provP h A o k []).2.2)
def allL (A : Pl) (o : Ω) : List Int → Nat × Pl × Ω
  | [] => (0, A, o)
  | k :: r => if (flushP h A o k).1 ≠ 0 then flushP h A o k else allL (flushP h A o k).2.1 (flushP h A o k).2.2 r
def allP (A : Pl) (o : Ω) : Nat × Pl × Ω := allL h A o (dirtyK A)
end
/-- Sizes; order. -/
structure Ok (A : Pl) : Prop where
  srt : A.ks.Pairwise (· < ·)
  len : A.ks.length ≤ A.most
  m1 : 1 ≤ A.most
  m2 : A.most ≤ 16
  rg : ∀ k ∈ A.ks, rng k
  tm : ∀ k, (A.tm k).1 ≤ A.acc ∧ (A.tm k).2 ≤ A.acc
  sz : ∀ k, (A.fr k).b.length ≤ 1099511627776
  si : ∀ k, rng (A.fr k).since
  ls : ∀ k, rng (A.fr k).lsn
/-! In memory. -/
def Rp (v : Value) : Option (DW × List MemPlace) := match v with
  | .pointer none => some (.nil, [])
  | .pointer (some ⟨b, 0, none⟩) => some (.lit (.int .i64 b), [])
  | _ => none
def eP : Option Nat → DW
  | none => .nil
  | some b => .lit (.int .i64 b)
def vP : Option Nat → Value
  | none => .pointer none
  | some b => ptr b
theorem Rp_inv {v : Value} {x : Option Nat} {ps : List MemPlace} (h : Rp v = some (eP x, ps)) : v = vP x := by
  unfold Rp at h
  split at h
  · cases x with
    | none => rfl
    | some b => simp [eP] at h
  · rename_i b
    cases x with
    | none => simp [eP] at h
    | some c => simp [eP] at h; obtain ⟨h, _⟩ := h; have : b = c := by omega
                subst this; rfl
  · cases h
def RtL : List Value → Option (DW × List MemPlace)
  | [.int .i64 a, .int .i64 b] => some (.agg [.lit (.int .i64 a), .lit (.int .i64 b)], [])
  | _ => none
def Rt (v : Value) : Option (DW × List MemPlace) := match v with
  | .agg cs => RtL cs.toList
  | _ => none
def tz : Option (Nat × Nat) → Nat × Nat
  | none => (0, 0)
  | some x => x
def eT (x : Option (Nat × Nat)) : DW := .agg [.lit (.int .i64 (tz x).1), .lit (.int .i64 (tz x).2)]
def vT (x : Nat × Nat) : Value := .agg #[.int .i64 x.1, .int .i64 x.2]
theorem Rt_inv {v : Value} {x : Option (Nat × Nat)} {ps : List MemPlace} (h : Rt v = some (eT x, ps)) : v = vT (tz x) := by
  unfold Rt at h
  split at h
  · rename_i cs
    unfold RtL at h
    split at h
    · rename_i a b hl
      simp [eT] at h
      obtain ⟨⟨h1, h2⟩, _⟩ := h
      have : cs = #[.int .i64 a, .int .i64 b] := by
        apply Array.toList_inj.1
        rw [hl]
      rw [this, h1, h2]; rfl
    · cases h
  · cases h
theorem Rt_mk (x : Nat × Nat) : Rt (vT x) = some (eT (some x), []) := rfl
def fcs (f : Fm) : Array Value := #[.string (str f.b), .bool f.d, .int .i64 f.since, .int .i64 f.lsn]
/-- The pool's blocks: F, T: its maps; bk: a page's frame. -/
structure PM (S : Nat → Prop) (rv wv lv : Value) (p F T : Nat) (bk : Int → Option Nat) (tf : Int → Option (Nat × Nat)) (A : Pl) (w : World) : Prop where
  box : Bx w p #[rv, wv, lv, .int .i64 A.most, .map (some F), .map (some T), .int .i64 A.acc] 63
  frm : MapI Rp eP w F A.ks.length bk
  tms : MapI Rt eT w T A.acc tf
  tmf : ∀ k, tz (tf k) = A.tm k
  fr : ∀ k b, bk k = some b → Bx w b (fcs (A.fr k)) 71
  iff : ∀ k, (bk k).isSome = true ↔ k ∈ A.ks
  inj : ∀ k k' b, bk k = some b → bk k' = some b → k = k'
  hFT : F ≠ T
  sp : S p
  sF : S F
  sT : S T
  sb : ∀ k b, bk k = some b → S b
  lt : ∀ i, S i → i < w.heap.size
theorem bx_map {w : World} {b n : Nat} {cs : Array Value} {t : TypeId} {α : Type} {R : Value → Option (DW × List MemPlace)} {e : Option α → DW} {f : Int → Option α} {c : Nat} (h : Bx w b cs t) (hm : MapI R e w c n f) : b ≠ c := by
  intro hbc
  subst hbc
  obtain ⟨D, ⟨es, clock, h1, _⟩, _⟩ := hm
  unfold Bx at h
  rw [h] at h1
  cases h1
theorem bx_type {w : World} {b c : Nat} {cs ds : Array Value} {t u : TypeId} (h : Bx w b cs t) (k : Bx w c ds u) (hne : t ≠ u) : b ≠ c := by
  intro hbc
  subst hbc
  unfold Bx at h k
  rw [h] at k
  simp only [Option.some.injEq, Obj.cells.injEq] at k
  exact hne k.2.1
theorem PM.keep {S S' : Nat → Prop} {rv wv lv : Value} {p F T : Nat} {bk : Int → Option Nat} {tf : Int → Option (Nat × Nat)} {A : Pl} {w w' : World} (h : PM S rv wv lv p F T bk tf A w) (t : Tn S' w w') (hs : ∀ i, S i → ¬ S' i) : PM S rv wv lv p F T bk tf A w' :=
  ⟨t.bx h.box (hs _ h.sp), h.frm.kept t (hs _ h.sF), h.tms.kept t (hs _ h.sT), h.tmf, fun k b hb => t.bx (h.fr k b hb) (hs _ (h.sb k b hb)), h.iff, h.inj, h.hFT, h.sp, h.sF, h.sT, h.sb, fun i hi => Nat.lt_of_lt_of_le (h.lt i hi) t.size⟩
end Go.Proofs.Ytcecfageijkifaa.Po
