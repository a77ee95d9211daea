/- The law's alive(). -/
import Derived.Test.YtnjggoeahaglbaaGreatRows
import Derived.Test.YtnjggoeahaglbaaGreatFr
import Derived.Deep.Slices
import Derived.Lib.SmallJoins
import Derived.Deep.Fields
import Derived.SliceStrings
import Derived.OpenShut
import Derived.ChangeOld
import Derived.ChangeSame
import Derived.Below
import Derived.Carry
import Derived.SizedLaws
import Derived.Laws.MakeOwn
namespace Go.Proofs.YtnjggoeahaglbaaGreat.Fr
open Go.ChangeShapes Go.WideShapes Go.ChangeAt Go.RowKit
set_option linter.unusedVariables false
set_option linter.unusedSimpArgs false
set_option maxRecDepth 100000
def aL : List BA := [[97, 98, 99], [100]]
def aE : BA := encX ⟨3, 0, true, [0, 3, 97, 98, 99, 0, 1, 100]⟩
theorem a_ok : batOk 3 0 aL = true := by decide
theorem a_bat : batB 3 0 aL = [aE] := by unfold batB; rw [if_pos a_ok]; rfl
theorem a_scan : (scan [aE]).out = aL ∧ (scan [aE]).next = 1 ∧ (scan [aE]).ep = 3 := by
  obtain ⟨r1, r2, r3, r4, r5⟩ := bat_read (i := 0) (s := sc0) a_ok (by decide)
  rw [show ((0 : Nat) : Int) = 0 from rfl, a_bat] at r2 r3 r4
  exact ⟨r2, r3, r4⟩
theorem a_size : aE.length = 64 := rfl
theorem a_head : str (aE.take 14) = ⟨#[0, 0, 0, 3, 0, 0, 2, 8, 0, 3, 97, 98, 99, 0]⟩ := rfl
theorem a_cnt : cntB [[97, 98, 99]] = 1 := by decide
/-- Texts written out. -/
theorem Txt.lit (w : World) (l : List BA) (cs : Array Value) (hc : cs.toList = tcs l) (hl : ∀ x ∈ l, x.length ≤ maxLen) (hn : l.length ≤ maxLen) (B : Nat) (hB : B = w.heap.size) : Txt (B + 1) (w.alloc (.cells cs 9)) (some ⟨B, 0, none⟩) l.length l := by
  subst hB
  refine ⟨rfl, hn, fun k hk => ⟨_, _, rfl, Nat.lt_succ_self _, ?_, hl _ (getD_mem' _ hk)⟩⟩
  rw [Nat.zero_add, cell_of_row _ _ _ _ _ _ (heap_alloc_new w _), ← Array.getElem?_toList, hc, tcs_get hk]
theorem strm_aL : (strmB aL).length ≤ 1000000 := by decide
/-- A text of a row of a call's own. -/
theorem OwnT.at {B : Nat} {w : World} {A : Option Addr} {n c : Nat} {l : List BA} (h : OwnT B w (.slice A n c) l) {k : Nat} (hk : k < l.length) : ∃ g, A = some ⟨g, 0, none⟩ ∧ B ≤ g ∧ g < w.heap.size ∧ w.cell? ⟨g, k, none⟩ = some (.string (str (l.getD k []))) := by
  rcases h.2 with ⟨h1, h2⟩ | ⟨g, cap, cur, h1, h2, h3, h4⟩
  · omega
  · simp only [Value.slice.injEq] at h1
    obtain ⟨rfl, _, rfl⟩ := h1
    have hc := h.cells (g := g) rfl _ _ (tcs_get hk)
    rw [add_plain, Nat.zero_add] at hc
    exact ⟨g, rfl, h2, block_of_heap h3, hc⟩
end Go.Proofs.YtnjggoeahaglbaaGreat.Fr

/- Arguments read: lists of texts within the reach, sectors. -/
namespace Go.Proofs.YtnjggoeahaglbaaGreat.Fr
open Go.ChangeShapes Go.WideShapes Go.ChangeAt Go.RowKit Go.Joins
set_option linter.unusedVariables false
set_option linter.unusedSimpArgs false
set_option maxRecDepth 100000
theorem weights_all {H : Type} {P : Program} {e : TypeId} : ∀ {l : List (DataW H)} {d : DataW H}, d ∈ l → ∀ n ∈ d.weights P e, n ∈ DataW.weightsAll P e l
  | x :: l, d, hd, n, hn => by
    simp only [DataW.weightsAll, List.mem_append]
    rcases List.mem_cons.1 hd with rfl | hd
    · exact .inl hn
    · exact .inr (weights_all hd n hn)
/-- Texts, as the model's strings. -/
def lst (l : List ByteArray) : List BA := l.map fun s => s.data.toList
theorem lst_getD (l : List ByteArray) (k : Nat) (h : k < l.length) : str ((lst l).getD k []) = l.getD k ByteArray.empty := by
  simp [lst, List.getD, h, str_data]
theorem lst_len (l : List ByteArray) (k : Nat) (h : k < l.length) : ((lst l).getD k []).length = (l.getD k ByteArray.empty).size := by
  simp [lst, List.getD, h]
theorem txt_read {H : Type} {enc : TypeId × Value → H} {W : World} {A : Option Addr} {len cap base fuel : Nat} {sp : Nat → Bool} {hd : Bool} {d : DataW H} {ps : List MemPlace}
    (h : DataW.trod enc Tryz.prog W base sp hd fuel 50 [.slice A len cap] = some (d, ps)) (hsp : ∀ b, sp b = true) : ∃ l, Txt W.heap.size W A len l ∧ len ≤ cap ∧ cap ≤ maxLen ∧
      ∀ n, (∀ m ∈ DataW.weights Tryz.prog 50 d, m ≤ n) → ∀ s ∈ l, s.length ≤ n := by
  rcases open_strings Tryz.underlying50 Tryz.underlying9 (by kernel_rfl) h with ⟨hcs, _⟩ | ⟨a, len', cap', ss, hcs, _, hl, hm, hz, hx, hcell, hwz⟩
  · simp at hcs
    obtain ⟨rfl, rfl, rfl⟩ := hcs
    exact ⟨[], Txt.nil _ _ _, by omega, by unfold maxLen; omega, fun _ _ s hs => by simp at hs⟩
  · simp at hcs
    obtain ⟨rfl, rfl, rfl⟩ := hcs
    rw [hsp] at hz
    simp only [if_true] at hz
    refine ⟨lst (ss.take len), ⟨by simp [lst]; omega, by omega, fun i hi => ?_⟩, hl, hm, fun n hall s hs => ?_⟩
    · have hc := hcell i (by omega)
      have h0 := hcell 0 (by omega)
      obtain ⟨b, off, spot⟩ := a
      have hspot : spot = none := by simpa [Addr.add] using World.cell?_spot h0
      subst hspot
      rw [add_plain] at hc
      have hi' : i < (ss.take len).length := by rw [List.length_take]; omega
      have hg : (ss.take len).getD i ByteArray.empty = ss.getD i ByteArray.empty := by
        rw [List.getD_eq_getElem?_getD, List.getD_eq_getElem?_getD, List.getElem?_take, if_pos hi]
      refine ⟨b, off, rfl, World.block_lt_of_cell? W _ hc, ?_, ?_⟩
      · rw [hc, lst_getD _ _ hi', hg]
      · rw [lst_len _ _ hi']
        exact hwz _ (List.mem_of_mem_take (i := len) (getD_mem' _ hi'))
    · obtain ⟨x, hx', rfl⟩ := List.mem_map.1 hs
      simp only [Prod.mk.injEq] at hx
      obtain ⟨rfl, _⟩ := hx
      refine hall _ ?_
      simp only [DataW.weights, Tryz.underlying50, List.mem_cons, List.mem_append]
      refine .inr (.inl (weights_all (d := .lit (.string x.data.toList)) ?_ _ (by simp [DataW.weights])))
      exact List.mem_map.2 ⟨x, hx', rfl⟩
theorem txt_sized {H : Type} {ts : List TypeId} {ds : List (DataW H)} {i : Nat} {d : DataW H} {l : List BA} (hz : ∀ n, (∀ m ∈ DataW.weights Tryz.prog 50 d, m ≤ n) → ∀ s ∈ l, s.length ≤ n)
    (hall : (DataW.weightsEach Tryz.prog ts ds).all (· ≤ reachBytes) = true) (ht : ts[i]? = some 50) (hd : ds[i]? = some d) : ∀ s ∈ l, s.length ≤ 140737488351232 := by
  refine hz _ fun m hm => ?_
  have := List.all_eq_true.1 hall _ (DataW.weights_mem_each ht hd _ hm)
  exact of_decide_eq_true this
theorem open_sector {H : Type} {enc : TypeId × Value → H} {W : World} {v : Value} {d : DataW H} {p : List MemPlace} {b0 : Nat} {sp : Nat → Bool} {hd : Bool}
    (hv : Value.okWide Tryz.prog W .any b0 125 v) (h : DataW.Trod enc Tryz.prog W 0 sp hd 125 v d p) :
    ∃ (x : Sx), v = sv x ∧ (Lit.int .i64 x.ep).wf = true ∧ (Lit.int .i64 x.ix).wf = true ∧ x.pl.length ≤ maxLen ∧ ∀ (W' : World) (sp' : Nat → Bool), DataW.Trod enc Tryz.prog W' 0 sp' hd 125 v d p := by
  obtain ⟨v0, v1, v2, v3, y0, y1, y2, y3, n, rfl, rfl, rfl, h0, h1, h2, h3⟩ := open_agg4 Tryz.underlying125 (by kernel_rfl) (by kernel_rfl) hv h
  obtain ⟨k0, e0, x0, g0⟩ := DataW.trod_int Tryz.underlying3 h0
  obtain ⟨k1, e1, x1, g1⟩ := DataW.trod_int Tryz.underlying3 h1
  obtain ⟨k2, e2, x2⟩ := DataW.trod_bool Tryz.underlying4 h2
  obtain ⟨s, e3, x3, g3⟩ := DataW.trod_string Tryz.underlying9 h3
  simp only [List.cons.injEq, and_true] at e0 e1 e2 e3
  subst e0 e1 e2 e3 x0 x1 x2 x3
  refine ⟨⟨k0, k1, k2, s.data.toList⟩, rfl, g0, g1, g3, fun W' sp' => ?_⟩
  exact shut_agg4 Tryz.underlying125 (by kernel_rfl) (by kernel_rfl) (field_of_Trod (shut_int Tryz.underlying3 g0) rfl) (field_of_Trod (shut_int Tryz.underlying3 g1) rfl) (field_of_Trod (shut_bool Tryz.underlying4 _) rfl) (field_of_Trod (Go.ChangeMaps.shut_string Tryz.underlying9 g3) rfl)
/-- Few texts: how long the stream is. -/
theorem few_strm {l : List BA} (h : fewB l = true) : l.length ≤ 20 ∧ totL l ≤ 1500 ∧ (strmB l).length ≤ 1540 := by
  unfold fewB at h
  simp only [Bool.and_eq_true, decide_eq_true_eq] at h
  refine ⟨h.1, h.2, ?_⟩
  have : (strmB l).length = 2 * l.length + totL l := by
    clear h
    induction l with
    | nil => rfl
    | cons x l ih =>
      rw [strmB_cons, List.length_append, recX_length, ih, List.length_cons]
      simp only [totL, List.map_cons, List.sum_cons]
      omega
  omega
theorem int_range {n : Int} (h : (Lit.int .i64 n).wf = true) : -9223372036854775808 ≤ n ∧ n ≤ 9223372036854775807 := by
  have b1 : IntKind.i64.min = -9223372036854775808 := rfl
  have b2 : IntKind.i64.max = 9223372036854775807 := rfl
  simpa only [Lit.wf, Bool.and_eq_true, decide_eq_true_eq, b1, b2] using h
/-! A slice of numbers that came in. -/
def Ints (w : World) (A : Option Addr) (len : Nat) (l : List Int) : Prop :=
  l.length = len ∧ ∀ k, k < len → ∃ b off, A = some ⟨b, off, none⟩ ∧ b < w.heap.size ∧ w.cell? ⟨b, off + k, none⟩ = some (.int .i64 (l.getD k 0)) ∧ -9223372036854775808 ≤ l.getD k 0 ∧ l.getD k 0 ≤ 9223372036854775807
theorem wf_rng {a : Int} (h : (Lit.int .i64 a).wf = true) : rng a := by
  unfold rng
  exact int_range h
/-- What a batch of a few texts hands back, as a list of texts. -/
theorem few_bat {e i : Int} {l : List BA} (h : fewB l = true) : (batB e i l).length ≤ 28 ∧ ∀ x ∈ batB e i l, x.length = 64 := by
  have hs := (few_strm h).2.2
  unfold batB
  split
  · rename_i hb
    refine ⟨by rw [List.length_map, List.length_range]; unfold npX; omega, fun x hx => ?_⟩
    obtain ⟨k, hk, rfl⟩ := List.mem_map.1 hx
    exact encX_length (okX_iff.1 ((batOk_iff.1 hb).2 k (List.mem_range.1 hk))).2.2.2.2.2
  · exact ⟨by simp, fun x hx => by simp at hx⟩
theorem bat_txt {B n c : Nat} {w : World} {A : Option Addr} {e i : Int} {l : List BA} (h : fewB l = true) (ho : OwnT B w (.slice A n c) (batB e i l)) : n = (batB e i l).length ∧ Txt w.heap.size w A n (batB e i l) := by
  have hf := few_bat (e := e) (i := i) h
  exact ho.txt (fun x hx => by rw [hf.2 x hx]; unfold maxLen; omega) (by unfold maxLen; omega)
/-- Few texts, batched. -/
theorem batch_few {C n c : Nat} {A : Option Addr} {l : List BA} {w : World} (e i : Int) (he : rng e) (hi : rng i) (h : Txt C w A n l) (hC : C ≤ w.heap.size) (hf : fewB l = true) :
    Calls Tryz.prog 51 #[.int .i64 e, .int .i64 i, .slice A n c] w fun r w' => ∃ A1 c1, r = .returned (.tuple #[.slice A1 (batB e i l).length c1, .bool (batOk e i l)]) ∧ Txt w'.heap.size w' A1 (batB e i l).length (batB e i l) ∧ OwnT w.heap.size w' (.slice A1 (batB e i l).length c1) (batB e i l) ∧ Below w.heap.size w w' := by
  have hs := few_strm hf
  refine (bat_any e i he hi h hC (by rw [← h.1]; omega) (by omega)).mono ?_
  rintro r w' ⟨v, rfl, ho, hb⟩
  obtain ⟨A1, c1, rfl⟩ := ho.shape
  exact ⟨A1, c1, rfl, (bat_txt hf ho).2, ho, hb⟩
theorem bat_no {e i : Int} {l : List BA} (h : batOk e i l = false) : batB e i l = [] := by unfold batB; rw [if_neg (by rw [h]; simp)]
theorem scan_list {C n c : Nat} {A : Option Addr} {l : List BA} {w : World} (h : Txt C w A n l) (hC : C ≤ w.heap.size) (hn : n ≤ 10000) :
    Calls Tryz.prog 41 #[.slice A n c] w fun e w' => ∃ A2 c2, e = .returned (.tuple #[.slice A2 (scan l).out.length c2, .int .i64 ((scan l).next : Nat), .int .i64 (scan l).ep]) ∧ OwnT w.heap.size w' (.slice A2 (scan l).out.length c2) (scan l).out ∧ Below w.heap.size w w' := by
  refine (scan_any h hC hn).mono ?_
  rintro e w' ⟨v, rfl, ho, hb⟩
  obtain ⟨A2, c2, rfl⟩ := ho.shape
  exact ⟨A2, c2, rfl, ho, hb⟩
/-- The texts of a few, as a row's. -/
theorem few_size {l : List BA} (h : fewB l = true) : ∀ x ∈ l, x.length ≤ 1500 := by
  intro x hx
  have := (few_strm h).2.1
  have h2 : x.length ≤ totL l := by
    clear this h
    induction l with
    | nil => simp at hx
    | cons y l ih =>
      simp only [totL, List.map_cons, List.sum_cons] at ih ⊢
      rcases List.mem_cons.1 hx with rfl | hx
      · omega
      · have := ih hx; omega
  omega
theorem few_row {B n c : Nat} {w : World} {A : Option Addr} {l : List BA} (h : fewB l = true) (ho : OwnT B w (.slice A n c) l) : n = l.length ∧ Txt w.heap.size w A n l :=
  ho.txt (fun x hx => Nat.le_trans (few_size h x hx) (by unfold maxLen; omega)) (by have := (few_strm h).1; unfold maxLen; omega)
theorem Txt.src {C n : Nat} {w : World} {A : Option Addr} {l : List BA} (h : Txt C w A n l) : Src w 1 A n (tcs l) := by
  refine ⟨by rw [tcs_length, h.1, Nat.mul_one], fun h0 => ?_⟩
  obtain ⟨b, off, hA, _⟩ := h.2.2 0 h0
  refine ⟨⟨b, off, none⟩, hA, fun j u hu => ?_⟩
  have hj : j < l.length := by have := (List.getElem?_eq_some_iff.1 hu).1; rwa [tcs_length] at this
  obtain ⟨b2, off2, hA2, _, hc, _⟩ := h.2.2 j (by rw [← h.1]; exact hj)
  rw [hA] at hA2
  simp only [Option.some.injEq, Addr.mk.injEq, and_true] at hA2
  obtain ⟨rfl, rfl⟩ := hA2
  rw [tcs_get hj] at hu
  rw [add_plain, hc]
  exact hu
theorem row_txt {B n c : Nat} {w : World} {A : Option Addr} {l : List BA} (ho : w.ownsRow B 9 1 (.slice A n c) n (tcs l)) (hn : n = l.length) (hs : ∀ x ∈ l, x.length ≤ 100000) (hm : n ≤ 1000000) : Txt w.heap.size w A n l := by
  subst hn
  exact (OwnT.txt (B := B) ho (fun x hx => Nat.le_trans (hs x hx) (by unfold maxLen; omega)) (by unfold maxLen; omega)).2
theorem count_b {C n c : Nat} {A : Option Addr} {l : List BA} (w : World) (h : Txt C w A n l) (hn : n ≤ 1000000) : Calls Tryz.prog 49 #[.slice A n c] w fun e w' => e = .returned (.int .i64 (cntB l : Nat)) ∧ Below w.heap.size w w' :=
  (count_any w h hn).mono fun e w' ⟨he, q, hq⟩ => ⟨he, by rw [hq]; exact below_drewN (Below.refl _ _) q⟩
theorem Txt.take {C n : Nat} {w : World} {A : Option Addr} {l : List BA} (h : Txt C w A n l) {k : Nat} (hk : k ≤ n) : Txt C w A k (l.take k) := by
  refine ⟨by rw [List.length_take, h.1]; omega, by have := h.2.1; omega, fun j hj => ?_⟩
  obtain ⟨b, off, h1, h2, h3, h4⟩ := h.2.2 j (by omega)
  have e : (l.take k).getD j [] = l.getD j [] := by
    rw [List.getD_eq_getElem?_getD, List.getD_eq_getElem?_getD, List.getElem?_take, if_pos hj]
  exact ⟨b, off, h1, h2, by rw [e]; exact h3, by rw [e]; exact h4⟩
theorem place (a : Int) (N : Nat) (h1 : N ≤ 1000000) : ∃ k : Nat, k ≤ N ∧ IntKind.i64.wrap ((N : Int) + 1) = (N : Int) + 1 ∧ IntKind.i64.wrap (a.tmod ((N : Int) + 1)) = a.tmod ((N : Int) + 1) ∧ IntKind.i64.wrap (a.tmod ((N : Int) + 1) + (N : Int)) = a.tmod ((N : Int) + 1) + (N : Int) ∧ IntKind.i64.wrap (a.tmod ((N : Int) + 1) + (N : Int) + 1) = a.tmod ((N : Int) + 1) + (N : Int) + 1 ∧ (a.tmod ((N : Int) + 1) + (N : Int) + 1).tmod ((N : Int) + 1) = (k : Int) ∧ IntKind.i64.wrap (k : Int) = (k : Int) := by
  have e1 : a.tmod ((N : Int) + 1) < (N : Int) + 1 := Int.tmod_lt_of_pos a (by omega)
  have e2 : -((N : Int) + 1) < a.tmod ((N : Int) + 1) := by
    have := Int.tmod_lt_of_pos (-a) (b := (N : Int) + 1) (by omega)
    rw [Int.neg_tmod] at this
    omega
  generalize a.tmod ((N : Int) + 1) = x at *
  have e4 : (x + (N : Int) + 1).tmod ((N : Int) + 1) = (((x + (N : Int) + 1).toNat % (N + 1) : Nat) : Int) := by
    rw [Int.tmod_eq_emod_of_nonneg (by omega), Int.natCast_emod, Int.toNat_of_nonneg (by omega)]
    rfl
  have e5 : (x + (N : Int) + 1).toNat % (N + 1) < N + 1 := Nat.mod_lt _ (by omega)
  exact ⟨_, Nat.le_of_lt_succ e5, IntWalk.i64_in _ (by omega), IntWalk.i64_in _ (by omega), IntWalk.i64_in _ (by omega), IntWalk.i64_in _ (by omega), e4, IntWalk.i64_in _ (by omega)⟩
theorem elemS : Tryz.prog.elem 50 = 9 := by kernel_rfl
theorem cutS (g len cap k : Nat) (h1 : k ≤ cap) (w : World) : (Instr.slice 50 (.slice (some ⟨g, 0, none⟩) len cap) none (some (.int .i64 (k : Int))) none).run Tryz.prog w = .ok (.slice (some ⟨g, 0, none⟩) k cap) w := by
  rw [run_slice_h (P := Tryz.prog) w 50 (some ⟨g, 0, none⟩) len cap (by rw [elemS]; exact Tryz.underlying50) .i64 _ (by omega) (by omega), elemS, show (sizeOf 9).run Tryz.prog w = .ok 1 w from Tryz.sizeOf9 w]
  simp only [Result.andThen, sliced, slicedAt]
  rw [Int.toNat_natCast, Option.map_some, Nat.zero_mul, add_plain]
  simp
theorem np_pos {e i : Int} {l : List BA} (h : batOk e i l = true) : 0 < npX (strmB l) := by
  have := strm_pos (batOk_iff.1 h).1
  unfold npX; omega
end Go.Proofs.YtnjggoeahaglbaaGreat.Fr

/- Lists of texts made whole; Zeros. -/
namespace Go.Proofs.YtnjggoeahaglbaaGreat.Fr
open Go.ChangeShapes Go.WideShapes Go.ChangeAt Go.RowKit
set_option linter.unusedVariables false
set_option linter.unusedSimpArgs false
set_option maxRecDepth 100000
/-- A block that is just these texts. -/
def Tab (w : World) (g : Nat) (l : List BA) : Prop := Bx w g (tcs l).toArray 9
theorem Tab.cell {w : World} {g : Nat} {l : List BA} (h : Tab w g l) {k : Nat} (hk : k < l.length) : w.cell? ⟨g, k, none⟩ = some (.string (str (l.getD k []))) := by
  rw [Bx.cell h k]
  simpa using tcs_get hk
theorem Tab.free {w : World} {g : Nat} {l : List BA} (h : Tab w g l) (k : Nat) : w.frozen? ⟨g, k, none⟩ = false := Bx.free h k
theorem Tab.lt {w : World} {g : Nat} {l : List BA} (h : Tab w g l) : g < w.heap.size := Bx.lt h
theorem Tab.held {w w' : World} {g : Nat} {l : List BA} (h : Tab w g l) (hb : Below w.heap.size w w') : Tab w' g l := Bx.held h hb
theorem Tab.set {w : World} {g : Nat} {l : List BA} (h : Tab w g l) (k : Nat) (b : BA) : Tab (w.setCell ⟨g, k, none⟩ (.string (str b))) g (l.set k b) := by
  have := Bx.set h k (.string (str b))
  unfold Tab
  rw [show (tcs (l.set k b)).toArray = (tcs l).toArray.setIfInBounds k (.string (str b)) by simp [tcs, List.map_set]]
  exact this
theorem Tab.txt {w : World} {g : Nat} {l : List BA} (h : Tab w g l) (hs : ∀ x ∈ l, x.length ≤ maxLen) (hm : l.length ≤ maxLen) : Txt w.heap.size w (some ⟨g, 0, none⟩) l.length l :=
  ⟨rfl, hm, fun k hk => ⟨g, 0, rfl, h.lt, by rw [Nat.zero_add]; exact h.cell hk, hs _ (getD_mem' _ hk)⟩⟩
theorem make_tab (n : Nat) (hn : n ≤ 1000) (w : World) : ∃ w2, (Instr.makeSlice 50 (.int .i64 n) (.int .i64 n)).run Tryz.prog w = .ok (.slice (some ⟨w.heap.size, 0, none⟩) n n) w2 ∧ Tab w2 w.heap.size (List.replicate n []) ∧ Below w.heap.size w w2 := by
  obtain ⟨i0, hi, hz0, hz1, hz2⟩ := info_parts info_s
  have hmk := run_make (P := Tryz.prog) w 50 9 i0 _ Tryz.underlying50 hi hz0 .i64 .i64 (n : Int) (n : Int) (by omega) (Int.le_refl _) (by rw [hz2]; omega) (by omega)
  rw [hz1] at hmk
  simp only [Int.toNat_natCast, Value.cells, Nat.mul_one] at hmk
  refine ⟨_, hmk, ?_, (Below.refl _ _).alloc (Nat.le_refl _) _⟩
  have e : (tcs (List.replicate n [])).toArray = madeCells #[Value.string ⟨#[]⟩] n := by
    apply Array.ext'
    apply List.ext_getElem
    · simp [madeCells, tcs]
    · intro i h1 h2
      simp [madeCells, Nat.mod_one, tcs, str]
  unfold Tab
  rw [e]
  exact heap_alloc_new w _
theorem made_bytes (n : Nat) : madeCells #[Value.int .u8 0] n = (bcs (zs n)).toArray := by
  apply Array.ext'
  apply List.ext_getElem
  · simp [madeCells, zs, bcs]
  · intro i h1 h2
    simp [madeCells, Nat.mod_one, zs, bcs]
theorem make_str (n : Nat) (hn : n ≤ 1000) (w : World) : ∃ w2, (Instr.makeSlice 70 (.int .i64 n) (.int .i64 n)).run Tryz.prog w = .ok (.slice (some ⟨w.heap.size, 0, none⟩) n n) w2 ∧ (convert 70 9 (.slice (some ⟨w.heap.size, 0, none⟩) n n)).run Tryz.prog w2 = .ok (.string (str (zs n))) w2 ∧ Below w.heap.size w w2 := by
  obtain ⟨i0, hi, hz0, hz1, hz2⟩ := info_parts info_b
  have hmk := run_make (P := Tryz.prog) w 70 5 i0 _ Tryz.underlying70 hi hz0 .i64 .i64 (n : Int) (n : Int) (by omega) (Int.le_refl _) (by rw [hz2]; omega) (by omega)
  rw [hz1] at hmk
  simp only [Int.toNat_natCast, Value.cells, Nat.mul_one] at hmk
  refine ⟨_, hmk, ?_, (Below.refl _ _).alloc (Nat.le_refl _) _⟩
  rw [made_bytes]
  have h := run_convert_bytes_back (P := Tryz.prog) (w.alloc (.cells (bcs (zs n)).toArray 5)) 70 9 5 ⟨w.heap.size, 0, none⟩ n (zs n) Tryz.underlying70 Tryz.underlying5 Tryz.underlying9 fun j hj => by
    rw [add_plain, Nat.zero_add, cell_of_row _ _ _ _ _ _ (heap_alloc_new w _)]
    simp [bcs, List.getElem?_eq_getElem hj]
  rw [zs_length] at h
  exact h
theorem zs_none : getOkX (zs 64) = false := zeros_none rfl
theorem rep_set {l : List BA} {n k : Nat} {z : BA} (hk : k < n) (h : l = List.replicate k z ++ List.replicate (n - k) []) : l.set k z = List.replicate (k + 1) z ++ List.replicate (n - (k + 1)) [] := by
  subst h
  rw [List.set_append_right _ _ (by simp), List.length_replicate, Nat.sub_self, show n - k = (n - (k + 1)) + 1 by omega, List.replicate_succ, List.set_cons_zero, List.replicate_succ' (n := k), List.append_assoc]
  rfl
theorem scan_none {n : Nat} {z : BA} (h : getOkX z = false) : scan (List.replicate n z) = sc0 := by
  cases n with
  | zero => rfl
  | succ n => rw [List.replicate_succ]; exact scan_zeros h
end Go.Proofs.YtnjggoeahaglbaaGreat.Fr

/- How much is read at most. -/
namespace Go.Proofs.YtnjggoeahaglbaaGreat.Fr
set_option linter.unusedVariables false
set_option maxRecDepth 100000
theorem drain_small (K : Nat) : ∀ (f : Nat) (out : List BA) (op : BA) (d : Bool), (∀ x ∈ out, x.length ≤ K) → op.length ≤ K → (drainX f out op d).1.length + (drainX f out op d).2.1.length ≤ out.length + op.length ∧ ∀ x ∈ (drainX f out op d).1, x.length ≤ K
  | 0, out, op, d, h1, _ => ⟨Nat.le_refl _, h1⟩
  | f + 1, out, op, d, h1, h2 => by
    unfold drainX
    split
    · rename_i hc
      split
      · exact ⟨Nat.le_refl _, h1⟩
      · have c1 := hc.2.1
        have hd : (op.drop (2 + num (op.take 2))).length ≤ op.length - 2 := by rw [List.length_drop]; omega
        obtain ⟨a1, a2⟩ := drain_small K f (out ++ [(op.drop 2).take (num (op.take 2))]) (op.drop (2 + num (op.take 2))) false (fun x hx => by
          rcases List.mem_append.1 hx with hx | hx
          · exact h1 x hx
          · obtain rfl := List.mem_singleton.1 hx
            rw [List.length_take, List.length_drop]; omega) (by omega)
        refine ⟨?_, a2⟩
        rw [List.length_append, List.length_singleton] at a1
        omega
    · exact ⟨Nat.le_refl _, h1⟩
theorem feed_small (K i M : Nat) (s : Sc) (x : Sx) (h1 : ∀ y ∈ s.out, y.length ≤ K) (h2 : s.out.length + s.op.length ≤ M) (hx : x.pl.length ≤ 56) (hK : M + 56 ≤ K) :
    (∀ y ∈ (feedX i s x).out, y.length ≤ K) ∧ (feedX i s x).out.length + (feedX i s x).op.length ≤ M + 56 := by
  have hl : ((if x.fr then [] else s.op) ++ x.pl : BA).length ≤ s.op.length + 56 := by
    rw [List.length_append]
    split
    · simp; omega
    · omega
  obtain ⟨a1, a2⟩ := drain_small K (((if x.fr then [] else s.op) ++ x.pl : BA).length + 1) s.out ((if x.fr then [] else s.op) ++ x.pl) (if x.fr then false else s.dead) h1 (by omega)
  exact ⟨a2, by
    show (drainX _ _ _ _).1.length + (drainX _ _ _ _).2.1.length ≤ _
    omega⟩
theorem scanX_small (K : Nat) : ∀ (l : List BA) (i M : Nat) (s : Sc), (∀ y ∈ s.out, y.length ≤ K) → s.out.length + s.op.length ≤ M → M + 56 * l.length ≤ K → (scanX i s l).out.length ≤ K ∧ ∀ y ∈ (scanX i s l).out, y.length ≤ K
  | [], i, M, s, h1, h2, hK => ⟨by show s.out.length ≤ K; omega, h1⟩
  | b :: l, i, M, s, h1, h2, hK => by
    rw [List.length_cons] at hK
    unfold scanX
    split
    · rename_i ha
      have hg : getOkX b = true := by unfold accX at ha; rw [Bool.and_eq_true] at ha; exact ha.1
      have hp := (okX_iff.1 (ok_got hg)).2.2.2.2.2
      obtain ⟨a1, a2⟩ := feed_small K i M s (gotX b) h1 h2 hp (by omega)
      exact scanX_small K l (i + 1) (M + 56) _ a1 a2 (by omega)
    · exact ⟨by omega, h1⟩
theorem scan_small {l : List BA} (h : l.length ≤ 200) : (scan l).out.length ≤ 11200 ∧ ∀ x ∈ (scan l).out, x.length ≤ 11200 :=
  scanX_small 11200 l 0 0 sc0 (by simp [sc0]) (by simp [sc0]) (by omega)
end Go.Proofs.YtnjggoeahaglbaaGreat.Fr

/- Slices of texts from a bound on, or up to one. -/
namespace Go.Proofs.YtnjggoeahaglbaaGreat.Fr
open Go.ChangeShapes Go.WideShapes Go.ChangeAt Go.RowKit Go.Joins
set_option linter.unusedVariables false
set_option linter.unusedSimpArgs false
set_option maxRecDepth 100000
def loA (A : Option Addr) (cap k : Nat) : Option Addr := if cap = k then A else A.map (·.add (k * 1))
theorem cut_lo (A : Option Addr) (len cap k : Nat) (h : k ≤ len) (w : World) : (Instr.slice 50 (.slice A len cap) (some (.int .i64 (k : Int))) none none).run Tryz.prog w = .ok (.slice (loA A cap k) (len - k) (cap - k)) w := by
  rw [run_slice_l (P := Tryz.prog) w 50 A len cap (by rw [elemS]; exact Tryz.underlying50) .i64 _ (by omega) (by omega), elemS, show (sizeOf 9).run Tryz.prog w = .ok 1 w from Tryz.sizeOf9 w]
  simp only [Result.andThen, sliced, slicedAt]
  rw [Int.toNat_natCast]
  rfl
theorem add_none (a : Addr) : a.add 0 = a := by
  obtain ⟨b, o, s⟩ := a
  cases s <;> simp [Addr.add]
theorem cut_hi (A : Option Addr) (len cap k : Nat) (h : k ≤ cap) (w : World) : (Instr.slice 50 (.slice A len cap) none (some (.int .i64 (k : Int))) none).run Tryz.prog w = .ok (.slice A k cap) w := by
  rw [run_slice_h (P := Tryz.prog) w 50 A len cap (by rw [elemS]; exact Tryz.underlying50) .i64 _ (by omega) (by omega), elemS, show (sizeOf 9).run Tryz.prog w = .ok 1 w from Tryz.sizeOf9 w]
  simp only [Result.andThen, sliced, slicedAt]
  rw [Int.toNat_natCast]
  have e : (if cap = 0 then A else A.map (·.add (0 * 1))) = A := by
    split
    · rfl
    · cases A with
      | none => rfl
      | some a => rw [Option.map_some, Nat.zero_mul, add_none]
  rw [e]
  simp
theorem Txt.drop {C n : Nat} {w : World} {A : Option Addr} {l : List BA} (h : Txt C w A n l) {k cap : Nat} (hk : k ≤ n) (hc : n ≤ cap) : Txt C w (loA A cap k) (n - k) (l.drop k) := by
  refine ⟨by rw [List.length_drop, h.1], by have := h.2.1; omega, fun j hj => ?_⟩
  obtain ⟨b, off, h1, h2, h3, h4⟩ := h.2.2 (k + j) (by omega)
  have e : (l.drop k).getD j [] = l.getD (k + j) [] := by
    rw [List.getD_eq_getElem?_getD, List.getD_eq_getElem?_getD, List.getElem?_drop]
  refine ⟨b, off + k, ?_, h2, by rw [e, ← h3, Nat.add_assoc], by rw [e]; exact h4⟩
  unfold loA
  rw [if_neg (by omega), h1, Option.map_some, Nat.mul_one, add_plain]
end Go.Proofs.YtnjggoeahaglbaaGreat.Fr
