/- The pool's calls, as a law uses them: all it has lies from C on. -/
import Derived.Test.YtcecfageijkifaaPo
namespace Go.Proofs.Ytcecfageijkifaa.Po
open Go.ChangeShapes Go.WideShapes Go.ChangeAt Go.RowKit
set_option linter.unusedVariables false
set_option linter.unusedSimpArgs false
set_option maxRecDepth 100000
def PW {Ω : Type} (h : Host Ω) (C p : Nat) (A : Pl) (o : Ω) (w : World) : Prop := ∃ S SP F T bk tf, Bt h S SP p F T bk tf A o w ∧ (∀ i, S i → C ≤ i) ∧ C ≤ w.heap.size
section
variable {Ω : Type} {h : Host Ω} {S SP : Nat → Prop} {C p F T : Nat} {bk : Int → Option Nat} {tf : Int → Option (Nat × Nat)} {A : Pl} {o : Ω} {w : World}
theorem Ch.below {S' : Nat → Prop} {w' : World} (c : Ch S S' w w') (hs : ∀ i, S i → C ≤ i) (hC : C ≤ w.heap.size) : Below C w w' ∧ ∀ i, S' i → C ≤ i :=
  ⟨c.1.below hC hs, fun i hi => by rcases c.2 i hi with h1 | h1; exact hs i h1; omega⟩
theorem PW.of {S' SP' : Nat → Prop} {w' : World} {F' T' : Nat} {bk' : Int → Option Nat} {tf' : Int → Option (Nat × Nat)} {A' : Pl} {o' : Ω} (hs : ∀ i, S i → C ≤ i) (hC : C ≤ w.heap.size) (hb : Bt h S' SP' p F' T' bk' tf' A' o' w') (c : Ch S S' w w') : PW h C p A' o' w' ∧ Below C w w' :=
  ⟨⟨S', SP', F', T', bk', tf', hb, (c.below hs hC).2, Nat.le_trans hC c.1.size⟩, (c.below hs hC).1⟩
theorem PW.keep (hg : h.Good) {w' : World} (hp : PW h C p A o w) (hb : Below w.heap.size w w') : PW h C p A o w' := by
  obtain ⟨S, SP, F, T, bk, tf, h1, h2, h3⟩ := hp
  exact ⟨S, SP, F, T, bk, tf, h1.keep hg (Tn.of_below (S := fun _ => False) hb) (fun i hi hf => hf), h2, Nat.le_trans h3 hb.size⟩
theorem PW.drew (hg : h.Good) (hp : PW h C p A o w) : PW h C p A o w.drew := hp.keep hg (Below.refl _ _).drew
theorem pw_new (hg : h.Good) {SO : Nat → Prop} (hm : h.M SO w o) (hs : ∀ i, SO i → C ≤ i) (hC : C ≤ w.heap.size) {n : Nat} (h1 : 1 ≤ n) (h2 : n ≤ 16) : Calls Try.prog 9 #[.int .i64 n, .func (.func h.gr) h.rpre h.rcap, .func (.func h.gw) h.wpre h.wcap, .func (.func h.gl) h.lpre h.lcap] w fun e w' => ∃ p, e = .returned (ptr p) ∧ PW h C p (newP n) o w' ∧ Below C w w' := by
  refine (new_is hg hm h1 h2).mono ?_
  rintro e w' ⟨rfl, S', SP', F', T', hb, hbl, hn⟩
  exact ⟨_, rfl, ⟨S', SP', F', T', _, _, hb, fun i hi => by rcases hn i hi with h3 | h3; exact hs i h3; omega, Nat.le_trans hC hbl.size⟩, hbl.mono hC⟩
theorem pw_get (hg : h.Good) (hA : Ok A) {n : Nat} (hok : h.ok o (n + 3)) (ha : A.acc < 1000000) (hp : PW h C p A o w) {k : Int} (hk : rng k) {R : (BA × Nat) × Pl × Ω} (hR : getP h A o k = R) :
    Calls Try.prog 13 #[ptr p, .int .i64 k] w fun e w' => e = .returned (.tuple #[.string (str R.1.1), .int .i64 R.1.2]) ∧ PW h C p R.2.1 R.2.2 w' ∧ Below C w w' := by
  subst hR
  obtain ⟨S, SP, F, T, bk, tf, h1, h2, h3⟩ := hp
  refine (get_is hg hA hok ha h1 hk).mono ?_
  rintro e w' ⟨rfl, S', SP', F', T', bk', tf', hb, c⟩
  exact ⟨rfl, PW.of h2 h3 hb c⟩
theorem pw_set (hg : h.Good) (hA : Ok A) {n : Nat} (hok : h.ok o (n + 2)) (ha : A.acc < 1000000) (hp : PW h C p A o w) {k : Int} (hk : rng k) {c : BA} (hc : c.length ≤ 1099511627776) {lsn : Int} {R : Nat × Pl × Ω} (hR : setP h A o k c lsn = R) :
    Calls Try.prog 14 #[ptr p, .int .i64 k, .string (str c), .int .i64 lsn] w fun e w' => e = .returned (.int .i64 R.1) ∧ PW h C p R.2.1 R.2.2 w' ∧ Below C w w' := by
  subst hR
  obtain ⟨S, SP, F, T, bk, tf, h1, h2, h3⟩ := hp
  refine (set_is hg hA hok ha h1 hk hc).mono ?_
  rintro e w' ⟨rfl, S', SP', F', T', bk', tf', hb, c⟩
  exact ⟨rfl, PW.of h2 h3 hb c⟩
theorem pw_flush (hg : h.Good) (hA : Ok A) {n : Nat} (hok : h.ok o (n + 2)) (hp : PW h C p A o w) {k : Int} (hk : rng k) {R : Nat × Pl × Ω} (hR : flushP h A o k = R) :
    Calls Try.prog 15 #[ptr p, .int .i64 k] w fun e w' => e = .returned (.int .i64 R.1) ∧ PW h C p R.2.1 R.2.2 w' ∧ Below C w w' := by
  subst hR
  obtain ⟨S, SP, F, T, bk, tf, h1, h2, h3⟩ := hp
  refine (flush_is hg hA hok h1 hk).mono ?_
  rintro e w' ⟨rfl, S', hb, c⟩
  exact ⟨rfl, PW.of h2 h3 hb c⟩
theorem pw_all (hg : h.Good) (hA : Ok A) {n : Nat} (hok : h.ok o (n + 32)) (hp : PW h C p A o w) {R : Nat × Pl × Ω} (hR : allP h A o = R) :
    Calls Try.prog 16 #[ptr p] w fun e w' => e = .returned (.int .i64 R.1) ∧ PW h C p R.2.1 R.2.2 w' ∧ Below C w w' := by
  subst hR
  obtain ⟨S, SP, F, T, bk, tf, h1, h2, h3⟩ := hp
  refine (all_is hg hA hok h1).mono ?_
  rintro e w' ⟨rfl, S', hb, c⟩
  exact ⟨rfl, PW.of h2 h3 hb c⟩
theorem pw_clean (hp : PW h C p A o w) {k : Int} (hk : rng k) {b : Bool} (hb : isClean A k = b) : Calls Try.prog 28 #[ptr p, .int .i64 k] w fun e w' => e = .returned (.bool b) ∧ w' = w := by
  subst hb
  obtain ⟨S, SP, F, T, bk, tf, h1, h2, h3⟩ := hp
  exact clean_is h1.1 hk
theorem pw_dirty (hg : h.Good) (hA : Ok A) (hp : PW h C p A o w) {l : List (Int × Int)} (hl : dirtyL A = l) : Calls Try.prog 17 #[ptr p] w fun e w' => ∃ v, e = .returned v ∧ OwnD w.heap.size w' v l ∧ PW h C p A o w' ∧ Below C w w' := by
  subst hl
  have hp2 := hp
  obtain ⟨S, SP, F, T, bk, tf, h1, h2, h3⟩ := hp
  refine (dirty_is h1.1 hA).mono ?_
  rintro e w' ⟨v, rfl, ho, hb⟩
  exact ⟨v, rfl, ho, hp2.keep hg hb, hb.mono h3⟩
theorem pw_has (hg : h.Good) (hA : Ok A) (hp : PW h C p A o w) {l : List Int} (hl : A.ks = l) : Calls Try.prog 21 #[ptr p] w fun e w' => ∃ v, e = .returned v ∧ OwnI w.heap.size w' v l ∧ PW h C p A o w' ∧ Below C w w' := by
  subst hl
  have hp2 := hp
  obtain ⟨S, SP, F, T, bk, tf, h1, h2, h3⟩ := hp
  refine (has_is h1.1 hA).mono ?_
  rintro e w' ⟨v, rfl, ho, hb⟩
  exact ⟨v, rfl, ho, hp2.keep hg hb, hb.mono h3⟩
theorem PW.m (hp : PW h C p A o w) : ∃ SO, h.M SO w o := by
  obtain ⟨S, SP, F, T, bk, tf, ⟨_, ⟨SO, h2, _⟩, _⟩, _⟩ := hp
  exact ⟨SO, h2⟩
end
end Go.Proofs.Ytcecfageijkifaa.Po
