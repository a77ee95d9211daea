/- The program's pool: dirtyPages; Dirty. -/
import Derived.Test.YtcecfageijkifaaPh
namespace Go.Proofs.Ytcecfageijkifaa.Po
open Go.ChangeShapes Go.WideShapes Go.ChangeAt Go.RowKit
set_option linter.unusedVariables false
set_option linter.unusedSimpArgs false
set_option maxRecDepth 100000
/-! append of a whole slice onto a row of the call's own; the source may be nil or empty. -/
def Src (w : World) (size : Nat) (A : Option Addr) (m : Nat) (news : List Value) : Prop :=
  news.length = m * size ∧ (0 < m → ∃ ad, A = some ad ∧ ∀ j u, news[j]? = some u → w.cell? (ad.add j) = some u)
section
variable {P : Program} (w : World)
theorem run_append_src (t ty e : TypeId) (i : TypeInfo) (z : Value) (size bytes : Nat) (ht : P.underlying t = some (.slice e)) (hi : P.info? e = some i) (hz : i.zero = some z)
    (hsize : i.size = size) (hby : i.bytes = bytes) (hzs : z.cells.size = size) (hsz : 0 < size) (base : Nat)
    (v : Value) (n : Nat) (xs : List Value) (hown : w.ownsRow base e size v n xs)
    (A : Option Addr) (m c : Nat) (news : List Value) (hs : Src w size A m news) (h1 : ∀ u ∈ news, u.oneCell' = true)
    (h63 : n + m ≤ maxLen) (hbytes : (n + m) * bytes ≤ 140737488355328) (hbase : base ≤ w.heap.size) :
    ∃ v' w', (Builtin.append_ #[t, t] ty #[v, .slice A m c]).run P w = .ok v' w' ∧ w'.ownsRow base e size v' (n + m) (xs ++ news) ∧ w.grownBy w' v.ownBlock ∧ (v'.ownBlock = v.ownBlock ∨ v'.ownBlock = some w.heap.size) := by
  cases A with
  | some ad =>
    have hc : ∀ j u, news[j]? = some u → w.cell? (ad.add j) = some u := by
      intro j u hu
      by_cases h0 : m = 0
      · subst h0
        have : news = [] := List.eq_nil_of_length_eq_zero (by simpa using hs.1)
        subst this
        simp at hu
      · obtain ⟨ad', h, hc⟩ := hs.2 (by omega)
        simp only [Option.some.injEq] at h
        subst h
        exact hc j u hu
    obtain ⟨v', w', r1, r2, r3, _, r5⟩ := run_append_own_at (P := P) w base t ty e i z size bytes ht hi hz hsize hby hzs hsz v n xs hown ad m c news hs.1 hc h1 h63 hbytes hbase
    exact ⟨v', w', r1, r2, r3, r5⟩
  | none =>
    have h0 : m = 0 := by
      by_cases h : 0 < m
      · obtain ⟨_, h, _⟩ := hs.2 h
        cases h
      · omega
    subst h0
    have hn : news = [] := List.eq_nil_of_length_eq_zero (by simpa using hs.1)
    subst hn
    refine ⟨v, w, ?_, by simpa using hown, ⟨rfl, rfl, rfl, Nat.le_refl _, fun _ _ _ => rfl⟩, .inl rfl⟩
    rcases hown.2 with ⟨rfl, rfl⟩ | ⟨g, cap, cur, rfl, _, _, hle, _⟩
    · simp [Builtin.append_, run_underlying ht, sizeOf, typeInfo, hi, Builtin.lenOf, Builtin.firstCells]
    · simp [Builtin.append_, run_underlying ht, sizeOf, typeInfo, hi, Builtin.lenOf, Builtin.firstCells, hle, storeCells]
theorem wp_append_src {o : Oper} {a : Act} {K : Act → World → Prop} {Q : Exit → Act → World → Prop} (s x : Operand) (t : TypeId) (ho : o.op = .call { callee := .builtin .append, args := #[s, x], argTypes := #[t, t] })
    (e : TypeId) (i : TypeInfo) (z : Value) (size bytes : Nat) (ht : P.underlying t = some (.slice e)) (hi : P.info? e = some i) (hz : i.zero = some z)
    (hsize : i.size = size) (hby : i.bytes = bytes) (hzs : z.cells.size = size) (hsz : 0 < size) (base : Nat)
    (v : Value) (n : Nat) (xs : List Value) (hv : a.eval s = v) (hown : w.ownsRow base e size v n xs)
    (A : Option Addr) (m c : Nat) (news : List Value) (hx : a.eval x = .slice A m c) (hs : Src w size A m news) (h1 : ∀ u ∈ news, u.oneCell' = true)
    (h63 : n + m ≤ maxLen) (hbytes : (n + m) * bytes ≤ 140737488355328) (hbase : base ≤ w.heap.size)
    (h : ∀ v' w', w'.ownsRow base e size v' (n + m) (xs ++ news) → w.grownBy w' v.ownBlock → (v'.ownBlock = v.ownBlock ∨ v'.ownBlock = some w.heap.size) → K (a.put o.dst v') w') : o.wp P a w K Q := by
  obtain ⟨v', w', r1, r2, r3, r4⟩ := run_append_src (P := P) w t o.type e i z size bytes ht hi hz hsize hby hzs hsz base v n xs hown A m c news hs h1 h63 hbytes hbase
  unfold Oper.wp execOp
  simp only [ho, resolve, invoke, builtin, Sem.run_bind, Sem.run_pure, Result.andThen_ok, List.map_toArray, List.map_cons, List.map_nil, hv, hx, r1]
  exact h v' w' r2 r3 r4
theorem wpList_append_src {ops : Array Oper} {rest : List Oper} {o : Oper} {a : Act} {Q : Exit → Act → World → Prop} (hg : o.guard = none) (s x : Operand) (t : TypeId) (ho : o.op = .call { callee := .builtin .append, args := #[s, x], argTypes := #[t, t] })
    (e : TypeId) (i : TypeInfo) (z : Value) (size bytes : Nat) (ht : P.underlying t = some (.slice e)) (hi : P.info? e = some i) (hz : i.zero = some z)
    (hsize : i.size = size) (hby : i.bytes = bytes) (hzs : z.cells.size = size) (hsz : 0 < size) (base : Nat)
    (v : Value) (n : Nat) (xs : List Value) (hv : a.eval s = v) (hown : w.ownsRow base e size v n xs)
    (A : Option Addr) (m c : Nat) (news : List Value) (hx : a.eval x = .slice A m c) (hs : Src w size A m news) (h1 : ∀ u ∈ news, u.oneCell' = true)
    (h63 : n + m ≤ maxLen) (hbytes : (n + m) * bytes ≤ 140737488355328) (hbase : base ≤ w.heap.size)
    (h : ∀ v' w', w'.ownsRow base e size v' (n + m) (xs ++ news) → w.grownBy w' v.ownBlock → (v'.ownBlock = v.ownBlock ∨ v'.ownBlock = some w.heap.size) → wpList P ops Q rest (a.put o.dst v') w') : wpList P ops Q (o :: rest) a w :=
  wpList_plain hg fun _ hK => wp_append_src w s x t ho e i z size bytes ht hi hz hsize hby hzs hsz base v n xs hv hown A m c news hx hs h1 h63 hbytes hbase fun v' w' a b c => hK _ _ (h v' w' a b c)
end

theorem own_shape {w : World} {B e s n : Nat} {v : Value} {xs : List Value} (h : w.ownsRow B e s v n xs) : ∃ A c, v = .slice A n c := by
  rcases h.2 with ⟨rfl, rfl⟩ | ⟨g, cap, cur, rfl, _⟩
  · exact ⟨_, _, rfl⟩
  · exact ⟨_, _, rfl⟩
theorem own_base {w : World} {B D e s n : Nat} {v : Value} {xs : List Value} (h : w.ownsRow B e s v n xs) (hD : D ≤ B) : w.ownsRow D e s v n xs := by
  refine ⟨h.1, ?_⟩
  rcases h.2 with h | ⟨g, cap, cur, h1, h2, h3⟩
  · exact .inl h
  · exact .inr ⟨g, cap, cur, h1, Nat.le_trans hD h2, h3⟩
theorem owns_kept2 {w w' : World} {B e s n : Nat} {v : Value} {xs : List Value} (h : w.ownsRow B e s v n xs) (hk : ∀ g, v.ownBlock = some g → w'.heap[g]? = w.heap[g]?) : w'.ownsRow B e s v n xs := by
  refine ⟨h.1, ?_⟩
  rcases h.2 with h1 | ⟨g', cap, cur, rfl, h1, h2, h3⟩
  · exact .inl h1
  · exact .inr ⟨g', cap, cur, rfl, h1, (hk g' rfl).trans h2, h3⟩

/-- The cells of a row of what Dirty tells. -/
def dcs (l : List (Int × Int)) : List Value := l.flatMap fun x => [Value.int .i64 x.1, Value.int .i64 x.2]
theorem dcs_append (l m : List (Int × Int)) : dcs (l ++ m) = dcs l ++ dcs m := by simp [dcs]
theorem dcs_one (x : Int × Int) : ∀ u ∈ dcs [x], u.oneCell' = true := by
  intro u hu
  simp [dcs] at hu
  rcases hu with rfl | rfl <;> rfl
def OwnD (B : Nat) (w : World) (v : Value) (l : List (Int × Int)) : Prop := w.ownsRow B 54 2 v l.length (dcs l)
theorem info_d : (Try.prog.info? 54).map (fun i => (i.zero, i.size, i.bytes)) = some (some (.agg #[.int .i64 0, .int .i64 0]), 2, 16) := by kernel_rfl
def dirtyL (A : Pl) : List (Int × Int) := (dirtyK A).map fun k => (k, (A.fr k).since)
theorem dirty_mem {A : Pl} {k : Int} (h : k ∈ dirtyK A) : k ∈ A.ks ∧ (A.fr k).d = true := by simpa [dirtyK] using h
theorem dirty_len {A : Pl} (hA : Ok A) : (dirtyK A).length ≤ 16 := Nat.le_trans (List.length_filter_le _ _) (Nat.le_trans hA.len hA.m2)
section
variable {Ω : Type} {h : Host Ω} {S : Nat → Prop} {p F T : Nat} {bk : Int → Option Nat} {tf : Int → Option (Nat × Nat)} {A : Pl} {w : World}
theorem dirtyPages_is (hp : PM S h.rv h.wv h.lv p F T bk tf A w) (hA : Ok A) : Calls Try.prog 37 #[ptr p] w fun e w' => ∃ v', e = .returned v' ∧ Lst w.heap.size w' v' (dirtyK A) ∧ Below w.heap.size w w' := by
  have HH := Lib.hid (has_is hp hA)
  have DD := Lib.hid (fun (w1 : World) (hw : Below w.heap.size w w1) (v : Value) (ho : OwnI w.heap.size w1 v A.ks) => del_is hp hA hw ho)
  clear hp
  go_enter Try.func37, Try.ntmps37
  go_wp2_with fail
  refine HH.out.mono ?_; rintro e w1 ⟨v, rfl, ho, hb⟩
  have D1 := Lib.hid (DD.out w1 hb v ho)
  clear ho hb
  go_wp2_with fail
  refine D1.out.mono ?_; rintro e w2 ⟨v2, rfl, ho, hb⟩
  go_wp2_with fail
  go_ret
  exact ⟨_, rfl, ho, hb⟩
theorem Lst.at {B : Nat} {v : Value} {l : List Int} (hl : Lst B w v l) : ∃ Av c, v = .slice Av l.length c ∧ ∀ i, i < l.length → ∃ g, Av = some ⟨g, 0, none⟩ ∧ B ≤ g ∧ g < w.heap.size ∧ w.cell? ⟨g, i, none⟩ = some (.int .i64 (l.getD i 0)) := by
  rcases hl with ⟨rfl, rfl⟩ | ⟨g, c, rfl, h1, h2, h3, h4⟩
  · exact ⟨none, 0, rfl, fun i hi => by simp at hi⟩
  · exact ⟨_, _, rfl, fun i hi => ⟨g, rfl, h1, h2, h4 i hi⟩⟩
set_option maxHeartbeats 1000000 in
theorem dirty_is (hp : PM S h.rv h.wv h.lv p F T bk tf A w) (hA : Ok A) : Calls Try.prog 17 #[ptr p] w fun e w' => ∃ v', e = .returned v' ∧ OwnD w.heap.size w' v' (dirtyL A) ∧ Below w.heap.size w w' := by
  have DP := Lib.hid (dirtyPages_is hp hA)
  have HP := Lib.hid (fun (u : World) (hu : Below w.heap.size w u) => hp.below hu)
  have HA := Lib.hid hA
  have HL := dirty_len hA
  obtain ⟨i0, hi0⟩ : ∃ i, Try.prog.info? 54 = some i := by have := info_d; cases hq : Try.prog.info? 54 with
    | none => rw [hq] at this; cases this
    | some i => exact ⟨i, rfl⟩
  have hz := info_d
  rw [hi0] at hz
  simp only [Option.map_some, Option.some.injEq, Prod.mk.injEq] at hz
  obtain ⟨hz0, hz1, hz2⟩ := hz
  clear hp hA
  go_enter Try.func17, Try.ntmps17
  go_wp2_with fail
  refine DP.out.mono ?_; rintro e w1 ⟨v1, rfl, hl, hb1⟩
  obtain ⟨Av, c, rfl, hat⟩ := hl.at
  obtain ⟨n, hn⟩ : ∃ n, (dirtyK A).length = n := ⟨_, rfl⟩
  rw [hn] at hat HL ⊢
  have HN := Lib.hid hn
  have HAT := Lib.hid hat
  have HB1 := Lib.hid hb1
  clear hat hb1 hl hn DP
  go_wp2_with fail
  go_loopw [3, 9] (fun v x wr => ∃ i : Nat, i ≤ n ∧ x = .int .i64 i ∧ Hid (OwnD w1.heap.size wr v ((dirtyL A).take i)) ∧ Hid (Below w1.heap.size w1 wr)) (fun _ x _ => n - (intOf x).toNat)
  case atStart => exact ⟨0, Nat.zero_le _, rfl, Lib.hid (World.ownsRow_nil _ _ _ _), Lib.hid (Below.refl _ _)⟩
  case round =>
    rename_i v0 _ wr
    obtain ⟨i, hi, rfl, ho, hb⟩ := hrel
    have HO := Lib.hid ho.out
    have HB := Lib.hid hb.out
    clear ho hb
    have b0 : (0 : Int) ≤ (i : Int) := by omega
    by_cases hlt : i < n
    · have b1 : (i : Int) < (n : Int) := by omega
      obtain ⟨g, rfl, hg1, hg2, hci⟩ := HAT.out i hlt
      have hci : wr.cell? ⟨g, i, none⟩ = some (.int .i64 ((dirtyK A).getD i 0)) := (HB.out.cell (p := ⟨g, i, none⟩) hg2).trans hci
      have hk : (dirtyK A).getD i 0 ∈ dirtyK A := by simp [List.getD, HN.out, hlt]
      have HSTEP := Lib.hid (show (dirtyL A).take (i + 1) = (dirtyL A).take i ++ [((dirtyK A).getD i 0, (A.fr ((dirtyK A).getD i 0)).since)] from by
        have hl2 : i < (dirtyL A).length := by unfold dirtyL; rw [List.length_map, HN.out]; exact hlt
        rw [List.take_succ_eq_append_getElem hl2]
        simp [dirtyL, List.getD, show i < (dirtyK A).length from by rw [HN.out]; exact hlt])
      have HLT := Lib.hid (show ((dirtyL A).take i).length = i from by unfold dirtyL; rw [List.length_take, List.length_map, HN.out]; omega)
      obtain ⟨hk1, hk2⟩ := dirty_mem hk
      have HPU := HP.out wr (HB1.out.trans (HB.out.mono HB1.out.size))
      obtain ⟨b, hbk⟩ : ∃ b, bk ((dirtyK A).getD i 0) = some b := by
        have := (HPU.iff _).2 hk1
        cases hq : bk ((dirtyK A).getD i 0) with
        | none => rw [hq] at this; cases this
        | some b => exact ⟨b, rfl⟩
      have lk := HPU.look (HA.out.rg _ hk1)
      rw [hbk] at lk
      simp only [vP] at lk
      have c4 := HPU.cells.2.2.2.2.1
      have f2 := (HPU.frame hbk).2.2.1
      clear HPU hk hk1 hk2 hbk
      generalize (dirtyK A).getD i 0 = k at *
      generalize (A.fr k).since = s at *
      obtain ⟨A0, c0, rfl⟩ := own_shape HO.out
      have HOO := HO.out
      unfold OwnD at HOO
      rw [HLT.out] at HOO ⊢
      have HO2 := Lib.hid HOO
      clear HOO HO
      go_wp2_with (at_builtin; refine wpList_append_src _ rfl _ _ 45 rfl 54 i0 (.agg #[.int .i64 0, .int .i64 0]) 2 16 Try.underlying45 hi0 hz0 hz1 hz2 rfl (by decide) w1.heap.size (.slice A0 i c0) i _ rfl (World.ownsRow.alloc HO2.out _) (some ⟨wr.heap.size, 0, none⟩) 1 1 (dcs [(k, s)]) rfl ⟨rfl, fun _ => ⟨_, rfl, fun j u hu => by rcases j with _ | _ | j <;> simp [dcs] at hu <;> subst hu <;> simp [Addr.add]⟩⟩ (dcs_one _) (by unfold maxLen; omega) (by omega) (by rw [World.size_alloc]; have := HB.out.size; omega) ?_; intro v' w2 hown hgrow hat2)
      have HB2 := Lib.hid ((HB.out.alloc HB.out.size (.cells #[.int .i64 k, .int .i64 s] 54)).grown hgrow (by rw [World.size_alloc]; have := HB.out.size; omega) (fun q hq => ((World.ownsRow.alloc HO2.out (.cells #[.int .i64 k, .int .i64 s] 54)).lt q hq).1))
      have HO3 := Lib.hid (show OwnD w1.heap.size w2 v' ((dirtyL A).take (i + 1)) from by
        rw [HSTEP.out]
        unfold OwnD
        rw [List.length_append, HLT.out, dcs_append]
        exact hown)
      clear hown hgrow hat2
      go_roundw
      case rel => exact ⟨i + 1, by omega, by go_num, HO3, HB2⟩
      case measure => simp [intOf]; omega
    · obtain rfl : i = n := by omega
      have HALL := Lib.hid (show (dirtyL A).take i = dirtyL A from List.take_of_length_le (by unfold dirtyL; rw [List.length_map, HN.out]; omega))
      rw [HALL.out] at HO
      go_wp2_with fail
      go_ret
      exact ⟨_, rfl, own_base HO.out HB1.out.size, HB1.out.trans (HB.out.mono HB1.out.size)⟩
end
end Go.Proofs.Ytcecfageijkifaa.Po
