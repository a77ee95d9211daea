/- PoolKeeps' disk; the pool's calls beside blocks of the law's own. -/
import Derived.Test.YtcecfageijkifaaKp
namespace Go.Proofs.Ytcecfageijkifaa.Po
open Go.ChangeShapes Go.WideShapes Go.ChangeAt Go.RowKit
set_option linter.unusedVariables false
set_option linter.unusedSimpArgs false
set_option maxRecDepth 100000
/-! Calls of a pool beside blocks K of the law's own. -/
def PK {Ω : Type} (h : Host Ω) (C p : Nat) (K : Nat → Prop) (A : Pl) (o : Ω) (w : World) : Prop := ∃ S SP F T bk tf, Bt h S SP p F T bk tf A o w ∧ (∀ i, S i → C ≤ i) ∧ C ≤ w.heap.size ∧ ∀ i, K i → ¬ S i ∧ i < w.heap.size
/-- The law's blocks stay. -/
def Kp (K : Nat → Prop) (w w' : World) : Prop := w.heap.size ≤ w'.heap.size ∧ ∀ i, K i → w'.heap[i]? = w.heap[i]?
theorem Kp.refl (K : Nat → Prop) (w : World) : Kp K w w := ⟨Nat.le_refl _, fun _ _ => rfl⟩
theorem Kp.trans {K : Nat → Prop} {a b c : World} (h : Kp K a b) (k : Kp K b c) : Kp K a c := ⟨Nat.le_trans h.1 k.1, fun i hi => (k.2 i hi).trans (h.2 i hi)⟩
theorem Kp.bx {K : Nat → Prop} {w w' : World} {B : Nat} {cs : Array Value} {t : TypeId} (h : Kp K w w') (hb : Bx w B cs t) (hk : K B) : Bx w' B cs t := (h.2 B hk).trans hb
theorem Kp.map {α : Type} {R : Value → Option (DW × List MemPlace)} {e : Option α → DW} {K : Nat → Prop} {w w' : World} {b n : Nat} {f : Int → Option α} (h : Kp K w w') (hm : MapI R e w b n f) (hk : K b) : MapI R e w' b n f := by
  obtain ⟨D, ⟨es, clock, h1, h2⟩, h3⟩ := hm
  exact ⟨D, ⟨es, clock, (h.2 b hk).trans h1, h2⟩, h3⟩
section
variable {Ω : Type} {h : Host Ω} {S SP : Nat → Prop} {C p F T : Nat} {K : Nat → Prop} {bk : Int → Option Nat} {tf : Int → Option (Nat × Nat)} {A : Pl} {o : Ω} {w : World}
theorem PK.of {S' SP' : Nat → Prop} {w' : World} {F' T' : Nat} {bk' : Int → Option Nat} {tf' : Int → Option (Nat × Nat)} {A' : Pl} {o' : Ω} (hs : ∀ i, S i → C ≤ i) (hC : C ≤ w.heap.size) (hK : ∀ i, K i → ¬ S i ∧ i < w.heap.size) (hb : Bt h S' SP' p F' T' bk' tf' A' o' w') (c : Ch S S' w w') : PK h C p K A' o' w' ∧ Below C w w' ∧ Kp K w w' :=
  ⟨⟨S', SP', F', T', bk', tf', hb, (c.below hs hC).2, Nat.le_trans hC c.1.size, fun i hi => ⟨fun hs' => by rcases c.2 i hs' with h1 | h1; exact (hK i hi).1 h1; have := (hK i hi).2; omega, Nat.lt_of_lt_of_le (hK i hi).2 c.1.size⟩⟩, (c.below hs hC).1, c.1.size, fun i hi => c.1.block i (hK i hi).2 (hK i hi).1⟩
/-- A step of the law's own, within its blocks. -/
theorem PK.turn (hg : h.Good) {w' : World} (hp : PK h C p K A o w) (t : Tn K w w') : PK h C p K A o w' := by
  obtain ⟨S, SP, F, T, bk, tf, h1, h2, h3, h4⟩ := hp
  exact ⟨S, SP, F, T, bk, tf, h1.keep hg t (fun i hi hk => (h4 i hk).1 hi), h2, Nat.le_trans h3 t.size, fun i hi => ⟨(h4 i hi).1, Nat.lt_of_lt_of_le (h4 i hi).2 t.size⟩⟩
theorem PK.keep (hg : h.Good) {w' : World} (hp : PK h C p K A o w) (hb : Below w.heap.size w w') : PK h C p K A o w' := hp.turn hg (Tn.of_below hb)
/-- A block of the law's own, new. -/
theorem PK.alloc (hg : h.Good) (hp : PK h C p K A o w) (x : Obj) : PK h C p (fun i => K i ∨ i = w.heap.size) A o (w.alloc x) := by
  obtain ⟨S, SP, F, T, bk, tf, h1, h2, h3, h4⟩ := hp
  have hlt := h1.2.2.2
  refine ⟨S, SP, F, T, bk, tf, h1.keep hg (Tn.alloc (fun _ => False) w x) (fun i hi hf => hf), h2, by rw [World.size_alloc]; omega, fun i hi => ?_⟩
  rcases hi with hi | hi
  · exact ⟨(h4 i hi).1, by rw [World.size_alloc]; have := (h4 i hi).2; omega⟩
  · subst hi
    exact ⟨fun hs => by have := hlt _ hs; omega, by rw [World.size_alloc]; omega⟩
theorem PK.less {K' : Nat → Prop} (hp : PK h C p K A o w) (hk : ∀ i, K' i → K i) : PK h C p K' A o w := by
  obtain ⟨S, SP, F, T, bk, tf, h1, h2, h3, h4⟩ := hp
  exact ⟨S, SP, F, T, bk, tf, h1, h2, h3, fun i hi => h4 i (hk i hi)⟩
theorem PK.m (hp : PK h C p K A o w) : ∃ SO, h.M SO w o := by
  obtain ⟨S, SP, F, T, bk, tf, ⟨_, ⟨SO, h2, _⟩, _⟩, _⟩ := hp
  exact ⟨SO, h2⟩
theorem pk_new (hg : h.Good) {SO : Nat → Prop} (hm : h.M SO w o) (hs : ∀ i, SO i → C ≤ i) (hC : C ≤ w.heap.size) {n : Nat} (h1 : 1 ≤ n) (h2 : n ≤ 16) : Calls Try.prog 9 #[.int .i64 n, .func (.func h.gr) h.rpre h.rcap, .func (.func h.gw) h.wpre h.wcap, .func (.func h.gl) h.lpre h.lcap] w fun e w' => ∃ p, e = .returned (ptr p) ∧ PK h C p (fun _ => False) (newP n) o w' ∧ Below C w w' := by
  refine (new_is hg hm h1 h2).mono ?_
  rintro e w' ⟨rfl, S', SP', F', T', hb, hbl, hn⟩
  exact ⟨_, rfl, ⟨S', SP', F', T', _, _, hb, fun i hi => by rcases hn i hi with h3 | h3; exact hs i h3; omega, Nat.le_trans hC hbl.size, fun i hf => hf.elim⟩, hbl.mono hC⟩
theorem pk_get (hg : h.Good) (hA : Ok A) {n : Nat} (hok : h.ok o (n + 3)) (ha : A.acc < 1000000) (hp : PK h C p K A o w) {k : Int} (hk : rng k) {R : (BA × Nat) × Pl × Ω} (hR : getP h A o k = R) :
    Calls Try.prog 13 #[ptr p, .int .i64 k] w fun e w' => e = .returned (.tuple #[.string (str R.1.1), .int .i64 R.1.2]) ∧ PK h C p K R.2.1 R.2.2 w' ∧ Below C w w' ∧ Kp K w w' := by
  subst hR
  obtain ⟨S, SP, F, T, bk, tf, h1, h2, h3, h4⟩ := hp
  refine (get_is hg hA hok ha h1 hk).mono ?_
  rintro e w' ⟨rfl, S', SP', F', T', bk', tf', hb, c⟩
  exact ⟨rfl, PK.of h2 h3 h4 hb c⟩
theorem pk_set (hg : h.Good) (hA : Ok A) {n : Nat} (hok : h.ok o (n + 2)) (ha : A.acc < 1000000) (hp : PK h C p K A o w) {k : Int} (hk : rng k) {c : BA} (hc : c.length ≤ 1099511627776) {lsn : Int} {R : Nat × Pl × Ω} (hR : setP h A o k c lsn = R) :
    Calls Try.prog 14 #[ptr p, .int .i64 k, .string (str c), .int .i64 lsn] w fun e w' => e = .returned (.int .i64 R.1) ∧ PK h C p K R.2.1 R.2.2 w' ∧ Below C w w' ∧ Kp K w w' := by
  subst hR
  obtain ⟨S, SP, F, T, bk, tf, h1, h2, h3, h4⟩ := hp
  refine (set_is hg hA hok ha h1 hk hc).mono ?_
  rintro e w' ⟨rfl, S', SP', F', T', bk', tf', hb, c⟩
  exact ⟨rfl, PK.of h2 h3 h4 hb c⟩
theorem pk_flush (hg : h.Good) (hA : Ok A) {n : Nat} (hok : h.ok o (n + 2)) (hp : PK h C p K A o w) {k : Int} (hk : rng k) {R : Nat × Pl × Ω} (hR : flushP h A o k = R) :
    Calls Try.prog 15 #[ptr p, .int .i64 k] w fun e w' => e = .returned (.int .i64 R.1) ∧ PK h C p K R.2.1 R.2.2 w' ∧ Below C w w' ∧ Kp K w w' := by
  subst hR
  obtain ⟨S, SP, F, T, bk, tf, h1, h2, h3, h4⟩ := hp
  refine (flush_is hg hA hok h1 hk).mono ?_
  rintro e w' ⟨rfl, S', hb, c⟩
  exact ⟨rfl, PK.of h2 h3 h4 hb c⟩
theorem pk_allc (hg : h.Good) (hA : Ok A) {n : Nat} (hok : h.ok o (n + 32)) (hp : PK h C p K A o w) {R : Nat × Pl × Ω} (hR : allP h A o = R) :
    Calls Try.prog 16 #[ptr p] w fun e w' => e = .returned (.int .i64 R.1) ∧ PK h C p K R.2.1 R.2.2 w' ∧ Below C w w' ∧ Kp K w w' := by
  subst hR
  obtain ⟨S, SP, F, T, bk, tf, h1, h2, h3, h4⟩ := hp
  refine (all_is hg hA hok h1).mono ?_
  rintro e w' ⟨rfl, S', hb, c⟩
  exact ⟨rfl, PK.of h2 h3 h4 hb c⟩
theorem PK.quiet (hg : h.Good) {w' : World} (hp : PK h C p K A o w) (hb : Below w.heap.size w w') : PK h C p K A o w' ∧ Below C w w' ∧ Kp K w w' := by
  have h9 := hp.keep hg hb
  obtain ⟨S, SP, F, T, bk, tf, h1, h2, h3, h4⟩ := hp
  exact ⟨h9, hb.mono h3, hb.size, fun i hi => hb.block i (h4 i hi).2⟩
theorem pk_dirty (hg : h.Good) (hA : Ok A) (hp : PK h C p K A o w) {l : List (Int × Int)} (hl : dirtyL A = l) : Calls Try.prog 17 #[ptr p] w fun e w' => ∃ v, e = .returned v ∧ OwnD w.heap.size w' v l ∧ PK h C p K A o w' ∧ Below C w w' ∧ Kp K w w' := by
  subst hl
  have hp2 := hp
  obtain ⟨S, SP, F, T, bk, tf, h1, h2, h3, h4⟩ := hp
  refine (dirty_is h1.1 hA).mono ?_
  rintro e w' ⟨v, rfl, ho, hb⟩
  exact ⟨v, rfl, ho, hp2.quiet hg hb⟩
theorem pk_has (hg : h.Good) (hA : Ok A) (hp : PK h C p K A o w) : Calls Try.prog 21 #[ptr p] w fun e w' => ∃ v, e = .returned v ∧ OwnI w.heap.size w' v A.ks ∧ PK h C p K A o w' ∧ Below C w w' ∧ Kp K w w' := by
  have hp2 := hp
  obtain ⟨S, SP, F, T, bk, tf, h1, h2, h3, h4⟩ := hp
  refine (has_is h1.1 hA).mono ?_
  rintro e w' ⟨v, rfl, ho, hb⟩
  exact ⟨v, rfl, ho, hp2.quiet hg hb⟩
theorem pk_clean (hp : PK h C p K A o w) {k : Int} (hk : rng k) {b : Bool} (hb : isClean A k = b) : Calls Try.prog 28 #[ptr p, .int .i64 k] w fun e w' => e = .returned (.bool b) ∧ w' = w := by
  subst hb
  obtain ⟨S, SP, F, T, bk, tf, h1, h2, h3, h4⟩ := hp
  exact clean_is h1.1 hk
end
/-! A map of numbers to texts. -/
def Rs (v : Value) : Option (DW × List MemPlace) := match v with
  | .string s => some (.lit (.string s.data.toList), [])
  | _ => none
def eS (x : Option BA) : DW := .lit (.string (x.getD []))
theorem Rs_inv {v : Value} {x : Option BA} {ps : List MemPlace} (h : Rs v = some (eS x, ps)) : v = .string (str (x.getD [])) := by
  unfold Rs at h
  split at h
  · rename_i s
    simp [eS] at h
    obtain ⟨h1, _⟩ := h
    have : s = str (x.getD []) := by
      rw [← h1]
      unfold str
      simp
    rw [this]
  · cases h
theorem Rs_mk (b : BA) : Rs (.string (str b)) = some (eS (some b), []) := rfl
theorem look_s {w : World} {m n : Nat} {f : Int → Option BA} (h : MapI Rs eS w m n f) {k : Int} (hk : rng k) : (Instr.lookup 48 (.map (some m)) (.int .i64 k) false).run Try.prog w = .ok (.string (str (gD f k))) w := by
  obtain ⟨v, ps, h1, h2⟩ := h.look Try.underlying48 (z := .string ⟨#[]⟩) (Try.zeroValue9 w) rfl hk
  rw [h1, Rs_inv h2]; rfl
/-- The disk, in a box that holds the map. -/
structure KM (B : Nat) (S : Nat → Prop) (m : Nat) (o : Dk) (w : World) : Prop where
  box : Bx w B #[.map (some m)] 48
  map : MapI Rs eS w m o.2 o.1
  sb : S B
  sm : S m
  so : ∀ i, S i → i = B ∨ i = m
  sz : ∀ k, (gD o.1 k).length ≤ 1099511627776
theorem KM.keep {B m : Nat} {S S' : Nat → Prop} {o : Dk} {w w' : World} (h : KM B S m o w) (t : Tn S' w w') (hs : ∀ i, S i → ¬ S' i) : KM B S m o w' :=
  ⟨t.bx h.box (hs _ h.sb), h.map.kept t (hs _ h.sm), h.sb, h.sm, h.so, h.sz⟩
def hostK (B : Nat) : Host Dk where
  gr := 18
  gw := 19
  gl := 20
  rpre := #[]
  rcap := #[ptr B]
  wpre := #[]
  wcap := #[ptr B]
  lpre := #[]
  lcap := #[]
  rdF := fun o k => ((gD o.1 k, 0), o)
  wrF := fun o k b => (0, (updI o.1 k (some b), o.2 + 1))
  lgF := fun o _ => (0, o)
  M := fun S w o => ∃ m, KM B S m o w
  ok := fun o n => o.2 + n ≤ 1000000
theorem hostK_2 (B : Nat) : Good2 (hostK B) := ⟨fun _ _ => rfl, fun _ _ _ => rfl, fun _ _ => rfl⟩
theorem hostK_good (B : Nat) : (hostK B).Good where
  er := enters_of Try.func18 (by kernel_rfl) rfl
  ew := enters_of Try.func19 (by kernel_rfl) rfl
  el := enters_of Try.func20 (by kernel_rfl) rfl
  keep := fun h t hs => by
    obtain ⟨m, hm⟩ := h
    exact ⟨m, hm.keep t hs⟩
  lt := fun h i hi => by
    obtain ⟨m, hm⟩ := h
    rcases hm.so i hi with rfl | rfl
    · exact hm.box.lt
    · exact hm.map.lt
  down := fun {o n} h => by
    have h' : o.2 + (n + 1) ≤ 1000000 := h
    show o.2 + n ≤ 1000000
    omega
  rok := fun {o n k} h => by
    have h' : o.2 + (n + 1) ≤ 1000000 := h
    show o.2 + n ≤ 1000000
    omega
  wok := fun {o n k b} h => by
    have h' : o.2 + (n + 1) ≤ 1000000 := h
    show o.2 + 1 + n ≤ 1000000
    omega
  lok := fun {o n k} h => by
    have h' : o.2 + (n + 1) ≤ 1000000 := h
    show o.2 + n ≤ 1000000
    omega
  rlen := fun {S w o k} h => by
    obtain ⟨m, hm⟩ := h
    exact hm.sz k
  read := fun {S w o n k} h hok hk => by
    obtain ⟨m, hm⟩ := h
    have c0 : w.cell? ⟨B, 0, none⟩ = some (.map (some m)) := hm.box.cell 0
    have lk := look_s hm.map hk
    refine (show Calls Try.prog 18 #[.int .i64 k, ptr B] w (fun e w' => e = .returned (.tuple #[.string (str (gD o.1 k)), .int .i64 0]) ∧ w' = w) from by
      go_enter Try.func18, Try.ntmps18
      go_wp2_with fail
      go_ret2
      exact ⟨rfl, rfl⟩).mono ?_
    rintro e w' ⟨rfl, rfl⟩
    exact ⟨rfl, S, ⟨m, hm⟩, Tn.refl _ _, fun i hi => .inl hi⟩
  write := fun {S w o n k b} h hok hk hb => by
    obtain ⟨m, hm⟩ := h
    have h' : o.2 + (n + 1) ≤ 1000000 := hok
    have c0 : w.cell? ⟨B, 0, none⟩ = some (.map (some m)) := hm.box.cell 0
    obtain ⟨w2, q1, q2, q3⟩ := hm.map.put Try.underlying48 (by unfold maxLen; omega) hk (Rs_mk b)
    refine (show Calls Try.prog 19 #[.int .i64 k, .string (str b), ptr B] w (fun e w' => e = .returned (.int .i64 0) ∧ w' = w2) from by
      go_enter Try.func19, Try.ntmps19
      go_wp2_with fail
      go_ret
      exact ⟨rfl, rfl⟩).mono ?_
    rintro e w' ⟨rfl, rfl⟩
    refine ⟨rfl, S, ⟨m, ⟨hm.box.grown q3 (fun e => bx_map hm.box hm.map (by cases e; rfl)), q2, hm.sb, hm.sm, hm.so, fun j => ?_⟩⟩, Tn.of_grown q3 (fun i hi => by cases hi; exact hm.sm), fun i hi => .inl hi⟩
    show (gD (updI o.1 k (some b)) j).length ≤ _
    by_cases hj : j = k
    · subst hj; rw [gD_same]; exact hb
    · rw [gD_other _ _ hj]; exact hm.sz j
  log := fun {S w o n k} h _ _ => by
    refine (show Calls Try.prog 20 #[.int .i64 k] w (fun e w' => e = .returned (.int .i64 0) ∧ w' = w) from by
      go_enter Try.func20, Try.ntmps20
      go_wp2_with fail
      go_ret
      exact ⟨rfl, rfl⟩).mono ?_
    rintro e w' ⟨rfl, rfl⟩
    exact ⟨rfl, S, h, Tn.refl _ _, fun i hi => .inl hi⟩
/-- The disk as the law sees it. -/
theorem pk_disk {B C p : Nat} {K : Nat → Prop} {A : Pl} {o : Dk} {w : World} (hp : PK (hostK B) C p K A o w) : ∃ m, w.cell? ⟨B, 0, none⟩ = some (.map (some m)) ∧ (∀ k, rng k → (Instr.lookup 48 (.map (some m)) (.int .i64 k) false).run Try.prog w = .ok (.string (str (gD o.1 k))) w) ∧ ∀ w', Below w.heap.size w w' → w'.cell? ⟨B, 0, none⟩ = some (.map (some m)) ∧ (∀ k, rng k → (Instr.lookup 48 (.map (some m)) (.int .i64 k) false).run Try.prog w' = .ok (.string (str (gD o.1 k))) w') := by
  obtain ⟨SO, m, hm⟩ := hp.m
  refine ⟨m, hm.box.cell 0, fun k hk => look_s hm.map hk, fun w' hb => ?_⟩
  have h2 := hm.keep (Tn.of_below (S := fun _ => False) hb) (fun i hi hf => hf)
  exact ⟨h2.box.cell 0, fun k hk => look_s h2.map hk⟩
theorem PK.new {Ω : Type} {h : Host Ω} {C p : Nat} {K : Nat → Prop} {A : Pl} {o : Ω} {w w' : World} (hg : h.Good) (hp : PK h C p K A o w) (hb : Below w.heap.size w w') (hs : w.heap.size < w'.heap.size) : PK h C p (fun i => K i ∨ i = w.heap.size) A o w' := by
  obtain ⟨S, SP, F, T, bk, tf, h1, h2, h3, h4⟩ := hp
  have hlt := h1.2.2.2
  refine ⟨S, SP, F, T, bk, tf, h1.keep hg (Tn.of_below (S := fun _ => False) hb) (fun i hi hf => hf), h2, Nat.le_trans h3 hb.size, fun i hi => ?_⟩
  rcases hi with hi | hi
  · exact ⟨(h4 i hi).1, Nat.lt_of_lt_of_le (h4 i hi).2 hb.size⟩
  · subst hi
    exact ⟨fun hs' => by have := hlt _ hs'; omega, hs⟩
theorem PK.c {Ω : Type} {h : Host Ω} {C p : Nat} {K : Nat → Prop} {A : Pl} {o : Ω} {w : World} (hp : PK h C p K A o w) : C ≤ w.heap.size := by
  obtain ⟨S, SP, F, T, bk, tf, h1, h2, h3, h4⟩ := hp
  exact h3
theorem Tn.turn {w w' : World} {K : Nat → Prop} {r : Nat} (h : w.grownBy w' (some r)) (hr : K r) : Tn K w w' := Tn.of_grown h (fun i hi => by cases hi; exact hr)
theorem Rs_val (v : Value) (y : DW × List MemPlace) (h : Rs v = some y) : ∃ b : BA, v = .string (str b) := by
  unfold Rs at h
  split at h
  · rename_i s
    exact ⟨s.data.toList, by unfold str; simp⟩
  · cases h
theorem key_val (key : Value) (kl : Lit) (h : keyOf Try.prog 3 key = some kl) : ∃ x : Int, key = .int .i64 x := by
  obtain ⟨x, rfl, _⟩ := Maps.keyOf_int_inv Try.underlying3 h
  exact ⟨x, rfl⟩
theorem Below.grown_none {w w' : World} (h : w.grownBy w' none) : Below w.heap.size w w' := ⟨h.os, h.tape, h.output, h.size, fun i hi => h.block i hi (by simp)⟩
/-- An entry of the map, as it comes. -/
theorem entry_s {D : DW} {f : Int → Option BA} (h2 : ∀ k, D.atKey (kI k) (eS none) = eS (f k)) {x : Int} {c : BA} {kl : Lit} {y : DW × List MemPlace} (hk : keyOf Try.prog 3 (.int .i64 x) = some kl) (hy : Rs (.string (str c)) = some y) (hat : ∀ zd, D.atKey kl zd = y.1) : gD f x = c ∧ rng x := by
  obtain ⟨x', ex, rfl, hw⟩ := Maps.keyOf_int_inv Try.underlying3 hk
  cases ex
  have h3 := h2 x
  rw [show D.atKey (kI x) (eS none) = y.1 from hat _] at h3
  rw [Rs_mk] at hy
  simp only [Option.some.injEq] at hy
  subst hy
  simp [eS] at h3
  exact ⟨h3.symm, wf_rng hw⟩
end Go.Proofs.Ytcecfageijkifaa.Po
