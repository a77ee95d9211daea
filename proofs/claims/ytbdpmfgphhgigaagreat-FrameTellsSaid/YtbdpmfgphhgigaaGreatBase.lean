/- Arguments read: lists of texts within the reach, sectors. -/
import Derived.Test.YtbdpmfgphhgigaaGreatAlive
import Derived.Deep.Slices
import Derived.Lib.SmallJoins
import Derived.Deep.Fields
import Derived.SliceStrings
import Derived.OpenShut
import Derived.ChangeOld
import Derived.ChangeSame
import Derived.Below
import Derived.Carry
import Derived.SizedLaws
namespace Go.Proofs.YtbdpmfgphhgigaaGreat
open Go.ChangeShapes Go.WideShapes Go.ChangeAt Go.RowKit Go.Joins
set_option linter.unusedVariables false
set_option linter.unusedSimpArgs false
set_option maxRecDepth 100000
theorem weights_all {H : Type} {P : Program} {e : TypeId} : ∀ {l : List (DataW H)} {d : DataW H}, d ∈ l → ∀ n ∈ d.weights P e, n ∈ DataW.weightsAll P e l
  | x :: l, d, hd, n, hn => by
    simp only [DataW.weightsAll, List.mem_append]
    rcases List.mem_cons.1 hd with rfl | hd
    · exact .inl hn
    · exact .inr (weights_all hd n hn)
/-- Texts, as the model's strings. -/
def lst (l : List ByteArray) : List BA := l.map fun s => s.data.toList
theorem lst_getD (l : List ByteArray) (k : Nat) (h : k < l.length) : str ((lst l).getD k []) = l.getD k ByteArray.empty := by
  simp [lst, List.getD, h, str_data]
theorem lst_len (l : List ByteArray) (k : Nat) (h : k < l.length) : ((lst l).getD k []).length = (l.getD k ByteArray.empty).size := by
  simp [lst, List.getD, h]
theorem txt_read {H : Type} {enc : TypeId × Value → H} {W : World} {A : Option Addr} {len cap base fuel : Nat} {sp : Nat → Bool} {hd : Bool} {d : DataW H} {ps : List MemPlace}
    (h : DataW.trod enc Tryz.prog W base sp hd fuel 24 [.slice A len cap] = some (d, ps)) (hsp : ∀ b, sp b = true) : ∃ l, Txt W.heap.size W A len l ∧ len ≤ cap ∧ cap ≤ maxLen ∧
      ∀ n, (∀ m ∈ DataW.weights Tryz.prog 24 d, m ≤ n) → ∀ s ∈ l, s.length ≤ n := by
  rcases open_strings Tryz.underlying24 Tryz.underlying9 (by kernel_rfl) h with ⟨hcs, _⟩ | ⟨a, len', cap', ss, hcs, _, hl, hm, hz, hx, hcell, hwz⟩
  · simp at hcs
    obtain ⟨rfl, rfl, rfl⟩ := hcs
    exact ⟨[], Txt.nil _ _ _, by omega, by unfold maxLen; omega, fun _ _ s hs => by simp at hs⟩
  · simp at hcs
    obtain ⟨rfl, rfl, rfl⟩ := hcs
    rw [hsp] at hz
    simp only [if_true] at hz
    refine ⟨lst (ss.take len), ⟨by simp [lst]; omega, by omega, fun i hi => ?_⟩, hl, hm, fun n hall s hs => ?_⟩
    · have hc := hcell i (by omega)
      have h0 := hcell 0 (by omega)
      obtain ⟨b, off, spot⟩ := a
      have hspot : spot = none := by simpa [Addr.add] using World.cell?_spot h0
      subst hspot
      rw [add_plain] at hc
      have hi' : i < (ss.take len).length := by rw [List.length_take]; omega
      have hg : (ss.take len).getD i ByteArray.empty = ss.getD i ByteArray.empty := by
        rw [List.getD_eq_getElem?_getD, List.getD_eq_getElem?_getD, List.getElem?_take, if_pos hi]
      refine ⟨b, off, rfl, World.block_lt_of_cell? W _ hc, ?_, ?_⟩
      · rw [hc, lst_getD _ _ hi', hg]
      · rw [lst_len _ _ hi']
        exact hwz _ (List.mem_of_mem_take (i := len) (getD_mem' _ hi'))
    · obtain ⟨x, hx', rfl⟩ := List.mem_map.1 hs
      simp only [Prod.mk.injEq] at hx
      obtain ⟨rfl, _⟩ := hx
      refine hall _ ?_
      simp only [DataW.weights, Tryz.underlying24, List.mem_cons, List.mem_append]
      refine .inr (.inl (weights_all (d := .lit (.string x.data.toList)) ?_ _ (by simp [DataW.weights])))
      exact List.mem_map.2 ⟨x, hx', rfl⟩
theorem txt_sized {H : Type} {ts : List TypeId} {ds : List (DataW H)} {i : Nat} {d : DataW H} {l : List BA} (hz : ∀ n, (∀ m ∈ DataW.weights Tryz.prog 24 d, m ≤ n) → ∀ s ∈ l, s.length ≤ n)
    (hall : (DataW.weightsEach Tryz.prog ts ds).all (· ≤ reachBytes) = true) (ht : ts[i]? = some 24) (hd : ds[i]? = some d) : ∀ s ∈ l, s.length ≤ 140737488351232 := by
  refine hz _ fun m hm => ?_
  have := List.all_eq_true.1 hall _ (DataW.weights_mem_each ht hd _ hm)
  exact of_decide_eq_true this
theorem open_sector {H : Type} {enc : TypeId × Value → H} {W : World} {v : Value} {d : DataW H} {p : List MemPlace} {b0 : Nat} {sp : Nat → Bool} {hd : Bool}
    (hv : Value.okWide Tryz.prog W .any b0 23 v) (h : DataW.Trod enc Tryz.prog W 0 sp hd 23 v d p) :
    ∃ (x : Sx), v = sv x ∧ (Lit.int .i64 x.ep).wf = true ∧ (Lit.int .i64 x.ix).wf = true ∧ x.pl.length ≤ maxLen ∧ ∀ (W' : World) (sp' : Nat → Bool), DataW.Trod enc Tryz.prog W' 0 sp' hd 23 v d p := by
  obtain ⟨v0, v1, v2, v3, y0, y1, y2, y3, n, rfl, rfl, rfl, h0, h1, h2, h3⟩ := open_agg4 Tryz.underlying23 (by kernel_rfl) (by kernel_rfl) hv h
  obtain ⟨k0, e0, x0, g0⟩ := DataW.trod_int Tryz.underlying3 h0
  obtain ⟨k1, e1, x1, g1⟩ := DataW.trod_int Tryz.underlying3 h1
  obtain ⟨k2, e2, x2⟩ := DataW.trod_bool Tryz.underlying4 h2
  obtain ⟨s, e3, x3, g3⟩ := DataW.trod_string Tryz.underlying9 h3
  simp only [List.cons.injEq, and_true] at e0 e1 e2 e3
  subst e0 e1 e2 e3 x0 x1 x2 x3
  refine ⟨⟨k0, k1, k2, s.data.toList⟩, rfl, g0, g1, g3, fun W' sp' => ?_⟩
  exact shut_agg4 Tryz.underlying23 (by kernel_rfl) (by kernel_rfl) (field_of_Trod (shut_int Tryz.underlying3 g0) rfl) (field_of_Trod (shut_int Tryz.underlying3 g1) rfl) (field_of_Trod (shut_bool Tryz.underlying4 _) rfl) (field_of_Trod (Go.ChangeMaps.shut_string Tryz.underlying9 g3) rfl)
/-- Few texts: how long the stream is. -/
theorem few_strm {l : List BA} (h : fewB l = true) : l.length ≤ 20 ∧ totL l ≤ 1500 ∧ (strmB l).length ≤ 1540 := by
  unfold fewB at h
  simp only [Bool.and_eq_true, decide_eq_true_eq] at h
  refine ⟨h.1, h.2, ?_⟩
  have : (strmB l).length = 2 * l.length + totL l := by
    clear h
    induction l with
    | nil => rfl
    | cons x l ih =>
      rw [strmB_cons, List.length_append, recX_length, ih, List.length_cons]
      simp only [totL, List.map_cons, List.sum_cons]
      omega
  omega
theorem int_range {n : Int} (h : (Lit.int .i64 n).wf = true) : -9223372036854775808 ≤ n ∧ n ≤ 9223372036854775807 := by
  have b1 : IntKind.i64.min = -9223372036854775808 := rfl
  have b2 : IntKind.i64.max = 9223372036854775807 := rfl
  simpa only [Lit.wf, Bool.and_eq_true, decide_eq_true_eq, b1, b2] using h
/-! A slice of numbers that came in. -/
def Ints (w : World) (A : Option Addr) (len : Nat) (l : List Int) : Prop :=
  l.length = len ∧ ∀ k, k < len → ∃ b off, A = some ⟨b, off, none⟩ ∧ b < w.heap.size ∧ w.cell? ⟨b, off + k, none⟩ = some (.int .i64 (l.getD k 0)) ∧ -9223372036854775808 ≤ l.getD k 0 ∧ l.getD k 0 ≤ 9223372036854775807
theorem wf_rng {a : Int} (h : (Lit.int .i64 a).wf = true) : rng a := by
  unfold rng
  exact int_range h
/-- What a batch of a few texts hands back, as a list of texts. -/
theorem few_bat {e i : Int} {l : List BA} (h : fewB l = true) : (batB e i l).length ≤ 28 ∧ ∀ x ∈ batB e i l, x.length = 64 := by
  have hs := (few_strm h).2.2
  unfold batB
  split
  · rename_i hb
    refine ⟨by rw [List.length_map, List.length_range]; unfold npX; omega, fun x hx => ?_⟩
    obtain ⟨k, hk, rfl⟩ := List.mem_map.1 hx
    exact encX_length (okX_iff.1 ((batOk_iff.1 hb).2 k (List.mem_range.1 hk))).2.2.2.2.2
  · exact ⟨by simp, fun x hx => by simp at hx⟩
theorem bat_txt {B n c : Nat} {w : World} {A : Option Addr} {e i : Int} {l : List BA} (h : fewB l = true) (ho : OwnT B w (.slice A n c) (batB e i l)) : n = (batB e i l).length ∧ Txt w.heap.size w A n (batB e i l) := by
  have hf := few_bat (e := e) (i := i) h
  exact ho.txt (fun x hx => by rw [hf.2 x hx]; unfold maxLen; omega) (by unfold maxLen; omega)
/-- Few texts, batched. -/
theorem batch_few {C n c : Nat} {A : Option Addr} {l : List BA} {w : World} (e i : Int) (he : rng e) (hi : rng i) (h : Txt C w A n l) (hC : C ≤ w.heap.size) (hf : fewB l = true) :
    Calls Tryz.prog 11 #[.int .i64 e, .int .i64 i, .slice A n c] w fun r w' => ∃ A1 c1, r = .returned (.tuple #[.slice A1 (batB e i l).length c1, .bool (batOk e i l)]) ∧ Txt w'.heap.size w' A1 (batB e i l).length (batB e i l) ∧ OwnT w.heap.size w' (.slice A1 (batB e i l).length c1) (batB e i l) ∧ Below w.heap.size w w' := by
  have hs := few_strm hf
  refine (bat_any e i he hi h hC (by rw [← h.1]; omega) (by omega)).mono ?_
  rintro r w' ⟨v, rfl, ho, hb⟩
  obtain ⟨A1, c1, rfl⟩ := ho.shape
  exact ⟨A1, c1, rfl, (bat_txt hf ho).2, ho, hb⟩
theorem bat_no {e i : Int} {l : List BA} (h : batOk e i l = false) : batB e i l = [] := by unfold batB; rw [if_neg (by rw [h]; simp)]
theorem scan_list {C n c : Nat} {A : Option Addr} {l : List BA} {w : World} (h : Txt C w A n l) (hC : C ≤ w.heap.size) (hn : n ≤ 1000) :
    Calls Tryz.prog 14 #[.slice A n c] w fun e w' => ∃ A2 c2, e = .returned (.tuple #[.slice A2 (scan l).out.length c2, .int .i64 ((scan l).next : Nat), .int .i64 (scan l).ep]) ∧ OwnT w.heap.size w' (.slice A2 (scan l).out.length c2) (scan l).out ∧ Below w.heap.size w w' := by
  refine (scan_any h hC hn).mono ?_
  rintro e w' ⟨v, rfl, ho, hb⟩
  obtain ⟨A2, c2, rfl⟩ := ho.shape
  exact ⟨A2, c2, rfl, ho, hb⟩
/-- The texts of a few, as a row's. -/
theorem few_size {l : List BA} (h : fewB l = true) : ∀ x ∈ l, x.length ≤ 1500 := by
  intro x hx
  have := (few_strm h).2.1
  have h2 : x.length ≤ totL l := by
    clear this h
    induction l with
    | nil => simp at hx
    | cons y l ih =>
      simp only [totL, List.map_cons, List.sum_cons] at ih ⊢
      rcases List.mem_cons.1 hx with rfl | hx
      · omega
      · have := ih hx; omega
  omega
theorem few_row {B n c : Nat} {w : World} {A : Option Addr} {l : List BA} (h : fewB l = true) (ho : OwnT B w (.slice A n c) l) : n = l.length ∧ Txt w.heap.size w A n l :=
  ho.txt (fun x hx => Nat.le_trans (few_size h x hx) (by unfold maxLen; omega)) (by have := (few_strm h).1; unfold maxLen; omega)
theorem Txt.src {C n : Nat} {w : World} {A : Option Addr} {l : List BA} (h : Txt C w A n l) : Src w 1 A n (tcs l) := by
  refine ⟨by rw [tcs_length, h.1, Nat.mul_one], fun h0 => ?_⟩
  obtain ⟨b, off, hA, _⟩ := h.2.2 0 h0
  refine ⟨⟨b, off, none⟩, hA, fun j u hu => ?_⟩
  have hj : j < l.length := by have := (List.getElem?_eq_some_iff.1 hu).1; rwa [tcs_length] at this
  obtain ⟨b2, off2, hA2, _, hc, _⟩ := h.2.2 j (by rw [← h.1]; exact hj)
  rw [hA] at hA2
  simp only [Option.some.injEq, Addr.mk.injEq, and_true] at hA2
  obtain ⟨rfl, rfl⟩ := hA2
  rw [tcs_get hj] at hu
  rw [add_plain, hc]
  exact hu
theorem row_txt {B n c : Nat} {w : World} {A : Option Addr} {l : List BA} (ho : w.ownsRow B 9 1 (.slice A n c) n (tcs l)) (hn : n = l.length) (hs : ∀ x ∈ l, x.length ≤ 100000) (hm : n ≤ 1000000) : Txt w.heap.size w A n l := by
  subst hn
  exact (OwnT.txt (B := B) ho (fun x hx => Nat.le_trans (hs x hx) (by unfold maxLen; omega)) (by unfold maxLen; omega)).2
theorem few_b {C n c : Nat} {A : Option Addr} {l : List BA} (w : World) (h : Txt C w A n l) (hs : ∀ x ∈ l, x.length ≤ 140737488351232) : Calls Tryz.prog 4 #[.slice A n c] w fun e w' => e = .returned (.bool (fewB l)) ∧ Below w.heap.size w w' :=
  (few_any w h hs).mono fun e w' ⟨he, q, hq⟩ => ⟨he, by rw [hq]; exact below_drewN (Below.refl _ _) q⟩
theorem count_b {C n c : Nat} {A : Option Addr} {l : List BA} (w : World) (h : Txt C w A n l) (hn : n ≤ 1000000) : Calls Tryz.prog 17 #[.slice A n c] w fun e w' => e = .returned (.int .i64 (cntB l : Nat)) ∧ Below w.heap.size w w' :=
  (count_any w h hn).mono fun e w' ⟨he, q, hq⟩ => ⟨he, by rw [hq]; exact below_drewN (Below.refl _ _) q⟩
theorem same_b {C D n m c d : Nat} {A B : Option Addr} {l r : List BA} (w : World) (h1 : Txt C w A n l) (h2 : Txt D w B m r) : Calls Tryz.prog 16 #[.slice A n c, .slice B m d] w fun e w' => e = .returned (.bool (decide (l = r))) ∧ Below w.heap.size w w' :=
  (sameTx_is w h1 h2).mono fun e w' ⟨he, q, hq⟩ => ⟨he, by rw [hq]; exact below_drewN (Below.refl _ _) q⟩
theorem Txt.take {C n : Nat} {w : World} {A : Option Addr} {l : List BA} (h : Txt C w A n l) {k : Nat} (hk : k ≤ n) : Txt C w A k (l.take k) := by
  refine ⟨by rw [List.length_take, h.1]; omega, by have := h.2.1; omega, fun j hj => ?_⟩
  obtain ⟨b, off, h1, h2, h3, h4⟩ := h.2.2 j (by omega)
  have e : (l.take k).getD j [] = l.getD j [] := by
    rw [List.getD_eq_getElem?_getD, List.getD_eq_getElem?_getD, List.getElem?_take, if_pos hj]
  exact ⟨b, off, h1, h2, by rw [e]; exact h3, by rw [e]; exact h4⟩
theorem place (a : Int) (N : Nat) (h1 : N ≤ 1000000) : ∃ k : Nat, k ≤ N ∧ IntKind.i64.wrap ((N : Int) + 1) = (N : Int) + 1 ∧ IntKind.i64.wrap (a.tmod ((N : Int) + 1)) = a.tmod ((N : Int) + 1) ∧ IntKind.i64.wrap (a.tmod ((N : Int) + 1) + (N : Int)) = a.tmod ((N : Int) + 1) + (N : Int) ∧ IntKind.i64.wrap (a.tmod ((N : Int) + 1) + (N : Int) + 1) = a.tmod ((N : Int) + 1) + (N : Int) + 1 ∧ (a.tmod ((N : Int) + 1) + (N : Int) + 1).tmod ((N : Int) + 1) = (k : Int) ∧ IntKind.i64.wrap (k : Int) = (k : Int) := by
  have e1 : a.tmod ((N : Int) + 1) < (N : Int) + 1 := Int.tmod_lt_of_pos a (by omega)
  have e2 : -((N : Int) + 1) < a.tmod ((N : Int) + 1) := by
    have := Int.tmod_lt_of_pos (-a) (b := (N : Int) + 1) (by omega)
    rw [Int.neg_tmod] at this
    omega
  generalize a.tmod ((N : Int) + 1) = x at *
  have e4 : (x + (N : Int) + 1).tmod ((N : Int) + 1) = (((x + (N : Int) + 1).toNat % (N + 1) : Nat) : Int) := by
    rw [Int.tmod_eq_emod_of_nonneg (by omega), Int.natCast_emod, Int.toNat_of_nonneg (by omega)]
    rfl
  have e5 : (x + (N : Int) + 1).toNat % (N + 1) < N + 1 := Nat.mod_lt _ (by omega)
  exact ⟨_, Nat.le_of_lt_succ e5, IntWalk.i64_in _ (by omega), IntWalk.i64_in _ (by omega), IntWalk.i64_in _ (by omega), IntWalk.i64_in _ (by omega), e4, IntWalk.i64_in _ (by omega)⟩
theorem elemS : Tryz.prog.elem 24 = 9 := by kernel_rfl
theorem cutS (g len cap k : Nat) (h1 : k ≤ cap) (w : World) : (Instr.slice 24 (.slice (some ⟨g, 0, none⟩) len cap) none (some (.int .i64 (k : Int))) none).run Tryz.prog w = .ok (.slice (some ⟨g, 0, none⟩) k cap) w := by
  rw [run_slice_h (P := Tryz.prog) w 24 (some ⟨g, 0, none⟩) len cap (by rw [elemS]; exact Tryz.underlying24) .i64 _ (by omega) (by omega), elemS, show (sizeOf 9).run Tryz.prog w = .ok 1 w from Tryz.sizeOf9 w]
  simp only [Result.andThen, sliced, slicedAt]
  rw [Int.toNat_natCast, Option.map_some, Nat.zero_mul, add_plain]
  simp
theorem np_pos {e i : Int} {l : List BA} (h : batOk e i l = true) : 0 < npX (strmB l) := by
  have := strm_pos (batOk_iff.1 h).1
  unfold npX; omega
end Go.Proofs.YtbdpmfgphhgigaaGreat
