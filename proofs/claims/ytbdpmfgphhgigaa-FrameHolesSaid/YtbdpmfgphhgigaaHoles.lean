/- What FrameHoles wants: the document's Zeros, copies into a block of texts, slices from a low bound, the disk as it is written. -/
import Derived.Test.YtbdpmfgphhgigaaLists
import Derived.Test.YtbdpmfgphhgigaaMake
import Derived.Laws.CopyOwn
namespace Go.Proofs.Ytbdpmfgphhgigaa
open Go.ChangeShapes Go.WideShapes Go.ChangeAt Go.RowKit Go.Joins
set_option linter.unusedVariables false
set_option linter.unusedSimpArgs false
set_option maxRecDepth 100000
set_option maxHeartbeats 400000 in
theorem zeros_b (n : Nat) (hn : n ≤ 1000) (w : World) : Calls Try.prog 17 #[.int .i64 n] w fun e w' => e = .returned (.string (str (zs n))) ∧ Below w.heap.size w w' := by
  obtain ⟨w2, hmk, hcv, hb⟩ := make_str n hn w
  have HB := Lib.hid hb
  generalize str (zs n) = z at *
  clear hb
  have k0 : (0 : Int) ≤ (n : Int) := by omega
  generalize w.heap.size = g at *
  go_enter Try.func17, Try.ntmps17
  go_wp2_with fail
  go_ret
  exact ⟨rfl, HB.out⟩
def loA (A : Option Addr) (cap k : Nat) : Option Addr := if cap = k then A else A.map (·.add (k * 1))
theorem cut_lo (A : Option Addr) (len cap k : Nat) (h : k ≤ len) (w : World) : (Instr.slice 25 (.slice A len cap) (some (.int .i64 (k : Int))) none none).run Try.prog w = .ok (.slice (loA A cap k) (len - k) (cap - k)) w := by
  rw [run_slice_l (P := Try.prog) w 25 A len cap (by rw [elemS]; exact Try.underlying25) .i64 _ (by omega) (by omega), elemS, show (sizeOf 9).run Try.prog w = .ok 1 w from Try.sizeOf9 w]
  simp only [Result.andThen, sliced, slicedAt]
  rw [Int.toNat_natCast]
  rfl
theorem add_none (a : Addr) : a.add 0 = a := by
  obtain ⟨b, o, s⟩ := a
  cases s <;> simp [Addr.add]
theorem cut_hi (A : Option Addr) (len cap k : Nat) (h : k ≤ cap) (w : World) : (Instr.slice 25 (.slice A len cap) none (some (.int .i64 (k : Int))) none).run Try.prog w = .ok (.slice A k cap) w := by
  rw [run_slice_h (P := Try.prog) w 25 A len cap (by rw [elemS]; exact Try.underlying25) .i64 _ (by omega) (by omega), elemS, show (sizeOf 9).run Try.prog w = .ok 1 w from Try.sizeOf9 w]
  simp only [Result.andThen, sliced, slicedAt]
  rw [Int.toNat_natCast]
  have e : (if cap = 0 then A else A.map (·.add (0 * 1))) = A := by
    split
    · rfl
    · cases A with
      | none => rfl
      | some a => rw [Option.map_some, Nat.zero_mul, add_none]
  rw [e]
  simp
theorem Txt.drop {C n : Nat} {w : World} {A : Option Addr} {l : List BA} (h : Txt C w A n l) {k cap : Nat} (hk : k ≤ n) (hc : n ≤ cap) : Txt C w (loA A cap k) (n - k) (l.drop k) := by
  refine ⟨by rw [List.length_drop, h.1], by have := h.2.1; omega, fun j hj => ?_⟩
  obtain ⟨b, off, h1, h2, h3, h4⟩ := h.2.2 (k + j) (by omega)
  have e : (l.drop k).getD j [] = l.getD (k + j) [] := by
    rw [List.getD_eq_getElem?_getD, List.getD_eq_getElem?_getD, List.getElem?_drop]
  refine ⟨b, off + k, ?_, h2, by rw [e, ← h3, Nat.add_assoc], by rw [e]; exact h4⟩
  unfold loA
  rw [if_neg (by omega), h1, Option.map_some, Nat.mul_one, add_plain]
theorem tcs_splice (L cs : List BA) (off : Nat) : splice (tcs L) off (tcs cs) = tcs (splice L off cs) := by
  simp [splice, tcs, List.map_take, List.map_drop]
section
variable {P : Program}
theorem copy_tab {w : World} {ops : Array Oper} {rest : List Oper} {o : Oper} {a : Act} {Q : Exit → Act → World → Prop} (hgd : o.guard = none) (d s : Operand)
    (ho : o.op = .call { callee := .builtin .copy, args := #[d, s], argTypes := #[25, 25] }) (dp A : Option Addr) (dLen dCap n c : Nat) (hd : a.eval d = .slice dp dLen dCap) (hs : a.eval s = .slice A n c)
    (g off C : Nat) (cur cs : List BA) (htab : Tab w g cur) (hsrc : Txt C w A n cs) (hdp : 0 < n → dp = some ⟨g, off, none⟩) (hn : n ≤ dLen) (hfit : off + n ≤ cur.length) (B : Nat) (w0 : World) (hb : Below B w0 w) (hB : B ≤ g)
    (h : ∀ w', Hid (Tab w' g (splice cur off cs)) → Below B w0 w' → wpList Try.prog ops Q rest (a.put o.dst (goInt n)) w') : wpList Try.prog ops Q (o :: rest) a w := by
  have hl : (tcs cs).length = n := by rw [tcs_length, hsrc.1]
  refine wpList_copy_splice hgd d s 25 25 ho 9 Try.underlying25 (by kernel_rfl) dp A dLen dCap n c hd hs g off (tcs cur) 9 htab (tcs cs) (by rw [hl]; exact (Nat.min_eq_left hn).symm) (fun h0 => ?_) (by rw [hl, tcs_length]; exact hfit) (tcs_one _) B w0 hb hB fun w' hw' hb' => ?_
  · rw [hl] at h0
    refine ⟨hdp h0, ?_⟩
    obtain ⟨ad, h1, h2⟩ := hsrc.src.2 (by omega)
    exact ⟨ad, h1, h2⟩
  · rw [hl]
    refine h w' (Lib.hid ?_) hb'
    have := hw'.out
    rw [tcs_splice] at this
    exact this
end
/-! The disk, as the law writes it. -/
def kp (keep : Nat → Bool) (i t : Nat) : Bool := decide (t < i) && keep t
theorem splice_at {L cs : List BA} {off j : Nat} (h : off + cs.length ≤ L.length) : (splice L off cs)[j]? = if j < off then L[j]? else if j < off + cs.length then cs[j - off]? else L[j]? := by
  unfold splice
  by_cases h1 : j < off
  · rw [if_pos h1, List.getElem?_append_left (by rw [List.length_take]; omega), List.getElem?_take, if_pos h1]
  · rw [if_neg h1, List.getElem?_append_right (by rw [List.length_take]; omega), List.length_take, Nat.min_eq_left (by omega)]
    by_cases h2 : j < off + cs.length
    · rw [if_pos h2, List.getElem?_append_left (by omega)]
    · rw [if_neg h2, List.getElem?_append_right (by omega), List.getElem?_drop]
      congr 1
      omega
theorem disk_start {a o b : List BA} {keep : Nat → Bool} {z : BA} {N : Nat} (h : a.length + o.length ≤ N) : splice (splice (List.replicate N z) 0 a) a.length o = diskX a o b (kp keep 0) z N := by
  apply List.ext_getElem?
  intro j
  have l1 : (splice (List.replicate N z) 0 a).length = N := by rw [length_splice _ _ _ (by rw [List.length_replicate]; omega), List.length_replicate]
  rw [splice_at (by omega), splice_at (by rw [List.length_replicate]; omega)]
  by_cases hj : j < N
  · rw [disk_at _ _ _ _ _ _ hj, List.getElem?_replicate, if_pos hj]
    by_cases c1 : j < a.length
    · rw [if_pos c1, if_pos c1, if_neg (by omega), if_pos (by omega), Nat.sub_zero, List.getD_eq_getElem?_getD, List.getElem?_eq_getElem c1]
      rfl
    · rw [if_neg c1, if_neg c1, if_neg (show ¬ (j - a.length < b.length ∧ kp keep 0 (j - a.length) = true) from fun h => by simp [kp] at h), List.getD_eq_getElem?_getD]
      by_cases c2 : j < a.length + o.length
      · rw [if_pos c2, List.getElem?_eq_getElem (show j - a.length < o.length by omega)]
        rfl
      · rw [if_neg c2, if_neg (by omega), if_neg (by omega), List.getElem?_eq_none (show o.length ≤ j - a.length by omega)]
        rfl
  · rw [if_neg (by omega), if_neg (by omega), if_neg (by omega), if_neg (by omega), List.getElem?_eq_none (by rw [List.length_replicate]; omega), List.getElem?_eq_none (by rw [disk_length]; omega)]
theorem disk_yes {a o b : List BA} {keep : Nat → Bool} {z : BA} {N i : Nat} (hi : i < b.length) (h : a.length + i < N) (hk : keep i = true) : (diskX a o b (kp keep i) z N).set (a.length + i) (b.getD i []) = diskX a o b (kp keep (i + 1)) z N := by
  apply List.ext_getElem?
  intro j
  rw [List.getElem?_set]
  by_cases hj : j < N
  · rw [disk_at _ _ _ _ _ _ hj, disk_at _ _ _ _ _ _ hj, disk_length]
    by_cases e : a.length + i = j
    · subst e
      rw [if_pos rfl, if_pos hj, if_neg (by omega), Nat.add_sub_cancel_left, if_pos ⟨hi, by simp [kp, hk]⟩, List.getD_eq_getElem?_getD, List.getD_eq_getElem?_getD, List.getElem?_eq_getElem hi]
      rfl
    · rw [if_neg e]
      by_cases c1 : j < a.length
      · rw [if_pos c1, if_pos c1]
      · rw [if_neg c1, if_neg c1]
        have e2 : kp keep (i + 1) (j - a.length) = kp keep i (j - a.length) := by
          unfold kp
          rw [show decide (j - a.length < i + 1) = decide (j - a.length < i) from by simp only [decide_eq_decide]; omega]
        rw [e2]
  · rw [if_neg (by omega), List.getElem?_eq_none (by rw [disk_length]; omega), List.getElem?_eq_none (by rw [disk_length]; omega)]
theorem disk_same {a o b : List BA} {keep : Nat → Bool} {z : BA} {N i : Nat} (hk : keep i = false) : diskX a o b (kp keep i) z N = diskX a o b (kp keep (i + 1)) z N := by
  have : kp keep i = kp keep (i + 1) := by
    funext t
    unfold kp
    by_cases e : t = i
    · subst e; simp [hk]
    · rw [show decide (t < i + 1) = decide (t < i) from by simp only [decide_eq_decide]; omega]
  rw [this]
theorem disk_all {a o b : List BA} {keep : Nat → Bool} {z : BA} {N : Nat} : diskX a o b (kp keep b.length) z N = diskX a o b keep z N := by
  unfold diskX
  congr 1
  funext j
  by_cases c : j - a.length < b.length
  · have : kp keep b.length (j - a.length) = keep (j - a.length) := by unfold kp; rw [decide_eq_true c, Bool.true_and]
    rw [this]
  · simp [c]
theorem cnt_strm {l : List BA} (h : cntB l ≠ 0) : strmOk l = true := by
  cases hs : strmOk l with
  | true => rfl
  | false => exact absurd (by unfold cntB; rw [hs]; rfl) h
theorem few_ok {l : List BA} {e i : Int} (hf : fewB l = true) (h : cntB l ≠ 0) (he : 1 ≤ e ∧ e ≤ 1000) (hi : 0 ≤ i ∧ i ≤ 1000) : batOk e i l = true := by
  have := (few_strm hf).2.2
  exact bat_in (cnt_strm h) ⟨by omega, by omega⟩ (by omega) (by unfold npX; omega)
theorem Low.len {q : Int} (z : BA) (h : getOkX z = false) : Low q z := .inl h
theorem holes_facts {l0 l1 l2 : List BA} (f0 : fewB l0 = true) (f1 : fewB l1 = true) (f2 : fewB l2 = true) (h0 : cntB l0 ≠ 0) (h1 : cntB l1 ≠ 0) (h2 : cntB l2 ≠ 0) :
    ∃ a o b : List BA, a = batB 1 0 l0 ∧ o = batB 2 (a.length : Nat) l1 ∧ b = batB 3 (a.length : Nat) l2 ∧ batOk 1 0 l0 = true ∧ batOk 2 (a.length : Nat) l1 = true ∧ batOk 3 (a.length : Nat) l2 = true ∧ a.length ≤ 28 ∧ o.length ≤ 28 ∧ b.length ≤ 28 ∧
      (∀ x ∈ b, x.length = 64) ∧
      (∀ keep first, first ≤ b.length → (∀ t, t < first → keep t = true) → (first < b.length → keep first = false) →
        ∃ D, D = diskX a o b keep (zs 64) 120 ∧ (∃ m, (scan D).out = l0 ++ m) ∧ (0 < first → ∃ u c, l2 = u ++ c ∧ (scan D).out = l0 ++ u ∧ (first = b.length → u = l2)) ∧ (∀ x ∈ D, Low 3 x) ∧ D.length = 120 ∧ (∀ x ∈ D, x.length = 64)) := by
  have b0 := few_ok (e := 1) (i := 0) f0 h0 (by omega) (by omega)
  have a28 := few_bat (e := 1) (i := 0) f0
  have b1 := few_ok (e := 2) (i := ((batB 1 0 l0).length : Nat)) f1 h1 (by omega) (by omega)
  have b2 := few_ok (e := 3) (i := ((batB 1 0 l0).length : Nat)) f2 h2 (by omega) (by omega)
  have o28 := few_bat (e := 2) (i := ((batB 1 0 l0).length : Nat)) f1
  have c28 := few_bat (e := 3) (i := ((batB 1 0 l0).length : Nat)) f2
  refine ⟨_, _, _, rfl, rfl, rfl, b0, b1, b2, a28.1, o28.1, c28.1, c28.2, fun keep first hf hk hno => ⟨_, rfl, ?_⟩⟩
  have hh := scan_holes (ahead := l0) (old := l1) (l := l2) (keep := keep) (z := zs 64) (N := 120) (first := first) b0 b2 (Low.len _ zs_none) (by omega) hf hk hno
  refine ⟨hh.1, hh.2, disk_low (fun x hx => (low_bat x hx).mono (by omega)) (fun x hx => (low_bat x hx).mono (by omega)) low_bat (Low.len _ zs_none), disk_length _ _ _ _ _ _, fun x hx => ?_⟩
  have z64 : (zs 64).length = 64 := zs_length 64
  have gd : ∀ (m : List BA), (∀ y ∈ m, y.length = 64) → ∀ t, (m.getD t (zs 64)).length = 64 := fun m hm t => by
    rw [List.getD_eq_getElem?_getD]
    by_cases ht : t < m.length
    · rw [List.getElem?_eq_getElem ht]; exact hm _ (List.getElem_mem ht)
    · rw [List.getElem?_eq_none (by omega)]; exact z64
  unfold diskX at hx
  obtain ⟨j, hj, rfl⟩ := List.mem_map.1 hx
  split
  · exact gd _ a28.2 _
  · split
    · exact gd _ c28.2 _
    · exact gd _ o28.2 _
/-! How much is read at most. -/
theorem drain_small (K : Nat) : ∀ (f : Nat) (out : List BA) (op : BA) (d : Bool), (∀ x ∈ out, x.length ≤ K) → op.length ≤ K → (drainX f out op d).1.length + (drainX f out op d).2.1.length ≤ out.length + op.length ∧ ∀ x ∈ (drainX f out op d).1, x.length ≤ K
  | 0, out, op, d, h1, _ => ⟨Nat.le_refl _, h1⟩
  | f + 1, out, op, d, h1, h2 => by
    unfold drainX
    split
    · rename_i hc
      split
      · exact ⟨Nat.le_refl _, h1⟩
      · have c1 := hc.2.1
        have hd : (op.drop (2 + num (op.take 2))).length ≤ op.length - 2 := by rw [List.length_drop]; omega
        obtain ⟨a1, a2⟩ := drain_small K f (out ++ [(op.drop 2).take (num (op.take 2))]) (op.drop (2 + num (op.take 2))) false (fun x hx => by
          rcases List.mem_append.1 hx with hx | hx
          · exact h1 x hx
          · obtain rfl := List.mem_singleton.1 hx
            rw [List.length_take, List.length_drop]; omega) (by omega)
        refine ⟨?_, a2⟩
        rw [List.length_append, List.length_singleton] at a1
        omega
    · exact ⟨Nat.le_refl _, h1⟩
theorem feed_small (K i M : Nat) (s : Sc) (x : Sx) (h1 : ∀ y ∈ s.out, y.length ≤ K) (h2 : s.out.length + s.op.length ≤ M) (hx : x.pl.length ≤ 56) (hK : M + 56 ≤ K) :
    (∀ y ∈ (feedX i s x).out, y.length ≤ K) ∧ (feedX i s x).out.length + (feedX i s x).op.length ≤ M + 56 := by
  have hl : ((if x.fr then [] else s.op) ++ x.pl : BA).length ≤ s.op.length + 56 := by
    rw [List.length_append]
    split
    · simp; omega
    · omega
  obtain ⟨a1, a2⟩ := drain_small K (((if x.fr then [] else s.op) ++ x.pl : BA).length + 1) s.out ((if x.fr then [] else s.op) ++ x.pl) (if x.fr then false else s.dead) h1 (by omega)
  exact ⟨a2, by
    show (drainX _ _ _ _).1.length + (drainX _ _ _ _).2.1.length ≤ _
    omega⟩
theorem scanX_small (K : Nat) : ∀ (l : List BA) (i M : Nat) (s : Sc), (∀ y ∈ s.out, y.length ≤ K) → s.out.length + s.op.length ≤ M → M + 56 * l.length ≤ K → (scanX i s l).out.length ≤ K ∧ ∀ y ∈ (scanX i s l).out, y.length ≤ K
  | [], i, M, s, h1, h2, hK => ⟨by show s.out.length ≤ K; omega, h1⟩
  | b :: l, i, M, s, h1, h2, hK => by
    rw [List.length_cons] at hK
    unfold scanX
    split
    · rename_i ha
      have hg : getOkX b = true := by unfold accX at ha; rw [Bool.and_eq_true] at ha; exact ha.1
      have hp := (okX_iff.1 (ok_got hg)).2.2.2.2.2
      obtain ⟨a1, a2⟩ := feed_small K i M s (gotX b) h1 h2 hp (by omega)
      exact scanX_small K l (i + 1) (M + 56) _ a1 a2 (by omega)
    · exact ⟨by omega, h1⟩
theorem scan_small {l : List BA} (h : l.length ≤ 200) : (scan l).out.length ≤ 11200 ∧ ∀ x ∈ (scan l).out, x.length ≤ 11200 :=
  scanX_small 11200 l 0 0 sc0 (by simp [sc0]) (by simp [sc0]) (by omega)
end Go.Proofs.Ytbdpmfgphhgigaa
