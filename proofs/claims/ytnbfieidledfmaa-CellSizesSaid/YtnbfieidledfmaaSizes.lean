/- Cells have room just as long as their sizes, and a byte, have, for every number of cells and every size of their values. -/
import Derived.Test.YtnbfieidledfmaaRows
import Derived.Test.YtnbfieidledfmaaTurn
import Derived.Deep.RegionHeld3
import Derived.StillTailTactics
import Derived.BigQuiet
import Derived.Laws.MakeOwn
import Derived.Deep.DeepCutAuto
import Derived.Deep.RegionLaw
import Derived.Lib.Hide
import Derived.WalkKit
import Derived.ProofKit
import Derived.OpenShut
import Derived.ChangeOld
import Derived.Below
import Derived.Carry
namespace Go.Proofs.Ytnbfieidledfmaa.cellSizes
open Go.ChangeShapes Go.WideShapes Go.ChangeAt Go.RowKit
set_option linter.unusedVariables false

theorem own : ownKnob Try.prog.godebug = none := by kernel_rfl
theorem laidOut : laidOutB Try.prog = true := by kernel_rfl


def szC (k s : Nat) : Ce := ⟨str [107, UInt8.ofNat (65 + k)], str (zs s), 0, 0⟩
def szL (n s : Nat) : List Ce := (List.range n).map fun k => szC k s
theorem szL_length (n s : Nat) : (szL n s).length = n := by simp [szL]
theorem szL_succ (n s : Nat) : szL (n + 1) s = szL n s ++ [szC n s] := by simp [szL, List.range_succ]
theorem szC_ok {k s : Nat} (hs : s ≤ 40) : (szC k s).Ok := by
  refine ⟨⟨?_, ?_⟩, .inl ⟨rfl, ?_, rfl⟩⟩
  · show 1 ≤ (str [107, UInt8.ofNat (65 + k)]).size; rw [str_size]; simp
  · show (str [107, UInt8.ofNat (65 + k)]).size ≤ 16; rw [str_size]; simp
  · show (str (zs s)).size ≤ 40; rw [str_size, zs_length]; exact hs
theorem szC_size (k s : Nat) : sizeC (szC k s) = 6 + s := by
  unfold sizeC szC
  dsimp only
  rw [if_pos rfl, str_size, str_size, zs_length]
  simp only [List.length_cons, List.length_nil]
theorem sz_sums (s : Nat) : ∀ n, sums (szL n s) = n * (6 + s)
  | 0 => by simp [szL, sums]
  | n + 1 => by rw [szL_succ, sums_append, sz_sums s n, sums_cons, sums_nil, szC_size, Nat.add_mul]; omega
theorem szC_lt {i j s : Nat} (h : i < j) (hj : j < 80) : ltK (szC i s) (szC j s) = true := by
  unfold ltK cmpK szC
  dsimp only
  rw [str_toList, str_toList]
  have : UInt8.ofNat (65 + i) < UInt8.ofNat (65 + j) := by
    rw [UInt8.lt_iff_toNat_lt, UInt8.toNat_ofNat', UInt8.toNat_ofNat']
    omega
  generalize UInt8.ofNat (65 + i) = a at *
  generalize UInt8.ofNat (65 + j) = b at *
  simp [Lib.compareBytes, this, UInt8.lt_irrefl]
theorem sz_rises {n s : Nat} (hn : n ≤ 80) : risesB (szL n s) = true := by
  refine pair_rises ?_
  rw [List.pairwise_iff_getElem]
  intro i j hi hj hij
  rw [szL_length] at hi hj
  simp only [szL, List.getElem_map, List.getElem_range]
  exact szC_lt hij (by omega)
theorem sz_mem {n s : Nat} (hs : s ≤ 40) : ∀ c ∈ szL n s, c.Ok := by
  intro c hc
  simp only [szL, List.mem_map] at hc
  obtain ⟨k, _, rfl⟩ := hc
  exact szC_ok hs
theorem sz_ok {n s : Nat} (hn : n ≤ 80) (hs : s ≤ 40) : putOk (szL n s) = decide (1 + n * (6 + s) ≤ 240) ∧ fitsB (szL n s) = decide (1 + n * (6 + s) ≤ 240) := by
  have hr := sz_rises (s := s) hn
  have hf : fitsB (szL n s) = decide (1 + n * (6 + s) ≤ 240) := by
    unfold fitsB
    rw [List.all_eq_true.2 (fun c hc => okC_iff.2 (sz_mem hs c hc)), sz_sums, decide_eq_true (rises_nodup hr), Bool.and_true, Bool.true_and]
  refine ⟨?_, hf⟩
  unfold putOk
  rw [hf, hr, Bool.and_true]
theorem sz_sizes (n : Nat) {s : Nat} (hs : s ≤ 40) : ∀ p ∈ szL n s, p.key.size ≤ maxLen ∧ p.val.size ≤ maxLen := by
  intro p hp
  have ho := sz_mem hs p hp
  refine ⟨max_small (by have := ho.1; omega), ?_⟩
  obtain ⟨_, h | h⟩ := ho
  · exact max_small (by omega)
  · exact max_small (by omega)
theorem mul_le {n s : Nat} (hn : n ≤ 80) (hs : s ≤ 40) : n * (6 + s) ≤ 3680 := Nat.le_trans (Nat.mul_le_mul hn (by omega : 6 + s ≤ 46)) (by decide)
/-- All below is as it was; block g holds one byte. -/
def HS (B : Nat) (w : World) (g n : Nat) (w' : World) : Prop := Below B w w' ∧ w'.heap[g]? = some (.cells #[.int .u8 ((n : Nat) : Int)] 5 (0, 0))
theorem HS.lt {B : Nat} {w w' : World} {g n : Nat} (h : HS B w g n w') : g < w'.heap.size := (Array.getElem?_eq_some_iff.1 h.2).1
theorem HS.step {B : Nat} {w w1 w2 : World} {g n : Nat} (h : HS B w g n w1) (hb : Below w1.heap.size w1 w2) (hB : B ≤ w.heap.size := by exact Nat.le_refl _) : HS B w g n w2 := ⟨h.1.trans (hb.mono (Nat.le_trans hB h.1.size)), (hb.block g h.lt).trans h.2⟩
theorem HS.alloc {B : Nat} {w w1 : World} {g n : Nat} (h : HS B w g n w1) (o : Obj) (hB : B ≤ w.heap.size := by exact Nat.le_refl _) : HS B w g n (w1.alloc o) := HS.step h ((Below.refl _ _).alloc (Nat.le_refl _) o) hB
theorem HS.grown {B m : Nat} {w w1 w2 : World} {g n : Nat} {v : Value} {xs : List Value} (h : HS B w g n w1) (hg : w1.grownBy w2 v.ownBlock) (ho : w1.ownsRow B 29 4 v m xs) (hB : B ≤ w1.heap.size) : HS B w g n w2 := by
  refine ⟨h.1.grown hg hB (fun k hk => (ho.lt k hk).1), (hg.block g h.lt (fun e => ?_)).trans h.2⟩
  rcases ho.2 with ⟨rfl, _⟩ | ⟨q, cap, cur, rfl, _, hq, _⟩
  · cases e
  · simp only [Value.ownBlock, Option.some.injEq] at e
    subst e
    rw [h.2] at hq
    simp at hq
theorem HS.convert {B : Nat} {w w' : World} {g n : Nat} (h : HS B w g n w') (hn : n < 256 := by omega) : (convert 34 9 (.slice (some ⟨g, 0, none⟩) 1 1)).run Try.prog w' = .ok (.string (str [UInt8.ofNat n])) w' := by
  rw [← strOfNums_bytes]
  refine run_convert_bytes_arg w' 34 5 Try.underlying34 Try.underlying5 g 0 1 1 _ rfl (fun i hi => ?_) 9 Try.underlying9
  obtain rfl : i = 0 := by omega
  rw [cell_of_row _ _ _ _ _ _ h.2, Nat.zero_add]
  simp only [List.map_cons, List.map_nil, byte_nat hn]
  rfl
theorem news_at (W : World) (B : Nat) (hB : W.heap.size = B) (x : Ce) (t : TypeId) : ∀ j u, (ccell x)[j]? = some u → (W.alloc (.cells #[.string x.key, .string x.val, .int .i64 x.blob, .int .i64 x.size] t)).cell? ((⟨B, 0, none⟩ : Addr).add j) = some u := by
  subst hB
  exact news_four W _ _ _ _ t
theorem wp_append_own2 {P : Program} {w : World} {o : Oper} {a : Act} {K : Act → World → Prop} {Q : Exit → Act → World → Prop} (s x : Operand) (t : TypeId) (ho : o.op = .call { callee := .builtin .append, args := #[s, x], argTypes := #[t, t] })
    (e : TypeId) (i : TypeInfo) (z : Value) (size bytes : Nat) (ht : P.underlying t = some (.slice e)) (hi : P.info? e = some i) (hz : i.zero = some z)
    (hsize : i.size = size) (hby : i.bytes = bytes) (hzs : z.cells.size = size) (hsz : 0 < size) (base : Nat)
    (v : Value) (n : Nat) (xs : List Value) (hv : a.eval s = v) (hown : w.ownsRow base e size v n xs)
    (ad : Addr) (m c : Nat) (news : List Value) (hx : a.eval x = .slice (some ad) m c) (hl : news.length = m * size) (hnews : ∀ j u, news[j]? = some u → w.cell? (ad.add j) = some u) (h1 : ∀ u ∈ news, u.oneCell' = true)
    (h63 : n + m ≤ maxLen) (hbytes : (n + m) * bytes ≤ 140737488355328) (hbase : base ≤ w.heap.size)
    (h : ∀ v' w', w'.ownsRow base e size v' (n + m) (xs ++ news) → w.grownBy w' v.ownBlock → K (a.put o.dst v') w') : o.wp P a w K Q :=
  wp_append_src w s x t ho e i z size bytes ht hi hz hsize hby hzs hsz base v n xs hv hown (some ad) m c news hx ⟨hl, fun _ => ⟨ad, rfl, hnews⟩⟩ h1 h63 hbytes hbase fun v' w' a b _ => h v' w' a b
set_option maxRecDepth 100000 in
set_option maxHeartbeats 8000000 in
theorem walk (a0 a1 : Int) (w : World) (w0 : (Lit.int .i64 a0).wf = true) (w1 : (Lit.int .i64 a1).wf = true) :
    Calls Try.prog 4 #[.int .i64 a0, .int .i64 a1] w fun e w' => e = .returned (.bool true) ∧ Below w.heap.size w w' := by
  by_cases c0 : a0 < 0
  · as_aux_lemma =>
      have HB0 := Lib.hid (Below.refl w.heap.size w)
      have AL := Lib.hid alive_yes
      go_enter Try.func4, Try.ntmps4
      go_wp2_with fail
      refine (AL.out _).mono ?_; rintro e w1 ⟨rfl, hb⟩
      have HB1 := Lib.hid (HB0.out.trans (hb.mono (Below.size HB0.out)))
      clear hb HB0 
      go_wp2_with fail
      go_ret
      exact ⟨rfl, HB1.out⟩
  · by_cases c1 : 80 < a0
    · as_aux_lemma =>
        have HB0 := Lib.hid (Below.refl w.heap.size w)
        have AL := Lib.hid alive_yes
        go_enter Try.func4, Try.ntmps4
        go_wp2_with fail
        refine (AL.out _).mono ?_; rintro e w1 ⟨rfl, hb⟩
        have HB1 := Lib.hid (HB0.out.trans (hb.mono (Below.size HB0.out)))
        clear hb HB0 
        go_wp2_with fail
        go_ret
        exact ⟨rfl, HB1.out⟩
    · by_cases c2 : a1 < 0
      · as_aux_lemma =>
          have HB0 := Lib.hid (Below.refl w.heap.size w)
          have AL := Lib.hid alive_yes
          go_enter Try.func4, Try.ntmps4
          go_wp2_with fail
          refine (AL.out _).mono ?_; rintro e w1 ⟨rfl, hb⟩
          have HB1 := Lib.hid (HB0.out.trans (hb.mono (Below.size HB0.out)))
          clear hb HB0 
          go_wp2_with fail
          go_ret
          exact ⟨rfl, HB1.out⟩
      · by_cases c3 : 40 < a1
        · as_aux_lemma =>
            have HB0 := Lib.hid (Below.refl w.heap.size w)
            have AL := Lib.hid alive_yes
            go_enter Try.func4, Try.ntmps4
            go_wp2_with fail
            refine (AL.out _).mono ?_; rintro e w1 ⟨rfl, hb⟩
            have HB1 := Lib.hid (HB0.out.trans (hb.mono (Below.size HB0.out)))
            clear hb HB0 
            go_wp2_with fail
            go_ret
            exact ⟨rfl, HB1.out⟩
        · obtain ⟨n, rfl⟩ : ∃ n : Nat, a0 = (n : Int) := ⟨a0.toNat, by omega⟩
          obtain ⟨sz, rfl⟩ : ∃ n : Nat, a1 = (n : Int) := ⟨a1.toNat, by omega⟩
          have hn : n ≤ 80 := by omega
          have hsz : sz ≤ 40 := by omega
          clear w0 w1 c0 c1 c2 c3
          obtain ⟨i0, hi, hz0, hz1, hz2⟩ := info_parts info_c
          have n0 : (0 : Int) ≤ (n : Int) := by omega
          have n1 : (n : Int) ≤ 80 := by omega
          have s0 : (0 : Int) ≤ (sz : Int) := by omega
          have s1 : (sz : Int) ≤ 40 := by omega
          have HN80 := Lib.hid hn
          have HS40 := Lib.hid hsz
          have ZR := Lib.hid (fun w => zeros_ok sz (by omega) w)
          obtain ⟨zz, hzz⟩ : ∃ zz, zz = str (zs sz) := ⟨_, rfl⟩
          rw [← hzz] at ZR
          have HZZ := Lib.hid hzz
          clear hzz hn hsz
          have HB0 := Lib.hid (Below.refl w.heap.size w)
          have AL := Lib.hid alive_yes
          go_enter Try.func4, Try.ntmps4
          go_wp2_with fail
          refine (AL.out _).mono ?_; rintro e w1 ⟨rfl, hb⟩
          have HB1 := Lib.hid (HB0.out.trans (hb.mono (Below.size HB0.out)))
          clear hb HB0 
          go_wp2_with fail
          go_loopw [5, 6] (fun v x wr => ∃ k : Nat, k ≤ n ∧ x = .int .i64 k ∧ ∃ A c, v = .slice A k c ∧ Hid (wr.ownsRow w.heap.size 29 4 (.slice A k c) k (ccs (szL k sz)) ∧ Below w.heap.size w wr)) (fun _ x _ => n - (intOf x).toNat)
          case atStart => exact ⟨0, Nat.zero_le _, rfl, none, 0, rfl, World.ownsRow_nil _ _ _ _, HB1.out⟩
          case round =>
            obtain ⟨k, hk, rfl, A, c, rfl, hq⟩ := hrel
            have HQ := Lib.hid hq
            clear hq
            have k0 : (0 : Int) ≤ (k : Int) := by omega
            by_cases hlt : k < n
            · have q1 : (k : Int) < (n : Int) := by omega
              have hk80 : k < 80 := by have := HN80.out; omega
              have q2 : (k : Int) < 80 := by omega
              obtain ⟨m, hm⟩ : ∃ m : Nat, m = 65 + k := ⟨_, rfl⟩
              have e1 : IntKind.i64.wrap (65 + (k : Int)) = (m : Int) := by rw [IntWalk.i64_in _ (by omega)]; omega
              have e1' : (65 : Int) + (k : Int) = (m : Int) := by omega
              have e2 : IntKind.u8.wrap (m : Int) = (m : Int) := u8_in (by omega) (by omega)
              have e1'' : IntKind.i64.wrap (m : Int) = (m : Int) := IntWalk.i64_in _ (by omega)
              have e3 : (m : Int) % 256 = (m : Int) := by omega
              have hm256 : m < 256 := by omega
              obtain ⟨kb, hkb⟩ : ∃ kb, kb = str [UInt8.ofNat m] := ⟨_, rfl⟩
              obtain ⟨kk, hkk⟩ : ∃ kk, kk = ByteArray.mk #[107] ++ kb := ⟨_, rfl⟩
              have hks : kb.size = 1 := by rw [hkb]; rfl
              have HC := Lib.hid (show szC k sz = ⟨kk, zz, 0, 0⟩ from by unfold szC; rw [hkk, hkb, hm, HZZ.out, append_str, str_toList]; rfl)
              have HKB := Lib.hid hkb.symm
              have HKK := Lib.hid hkk.symm
              clear hkb hkk hm
              go_wp2_with fail
              refine wp_region_noPanic ?_
              refine wp_region_held_drew (S := Below w.heap.size w) (by kernel_rfl) ?_ (fun hHeld => ?_)
              · exact Below.drew HQ.out.out.2
              refine wpAnyH_take (i := 0) (oi := { dst := some 33, op := Op.move (Operand.tmp 5), type := 22, pos := "more.go:19", after := #[], guard := none }) (v := .slice A k c) rfl (by kernel_rfl) (by kernel_rfl) (by kernel_rfl) (fun _ _ _ h => h) (Or.inl ⟨by rfl, fun w' hSw => by ((try dsimp only at hSw); go_simp)⟩) (by assumption) ?_
              (try simp only [Act.put, List.setIfInBounds_toArray, List.set_cons_zero, List.set_cons_succ])
              refine wpAnyH_take (i := 1) (oi := { dst := some 34, op := Op.move (Operand.tmp 6), type := 3, pos := "more.go:19", after := #[], guard := none }) (v := .int .i64 k) rfl (by kernel_rfl) (by kernel_rfl) (by kernel_rfl) (fun _ _ _ h => h) (Or.inl ⟨by rfl, fun w' hSw => by ((try dsimp only at hSw); go_simp)⟩) (by assumption) ?_
              (try simp only [Act.put, List.setIfInBounds_toArray, List.set_cons_zero, List.set_cons_succ])
              refine wpAnyH_take (i := 2) (oi := { dst := some 35, op := Op.binOp BinOp.add 3 (Operand.const (Value.int IntKind.i64 65)) (Operand.tmp 34) 3, type := 3, pos := "more.go:19", after := #[{ on := 1, ground := Ground.data }], guard := none }) (v := .int .i64 (m : Int)) rfl (by kernel_rfl) (by kernel_rfl) (by kernel_rfl) (fun _ _ _ h => h) (Or.inl ⟨by rfl, fun w' hSw => by ((try dsimp only at hSw); go_simp)⟩) (by assumption) ?_
              (try simp only [Act.put, List.setIfInBounds_toArray, List.set_cons_zero, List.set_cons_succ])
              refine wpAnyH_take (i := 3) (oi := { dst := some 36, op := Op.convert 3 5 (Operand.tmp 35), type := 5, pos := "more.go:19", after := #[{ on := 2, ground := Ground.data }], guard := none }) (v := .int .u8 (m : Int)) rfl (by kernel_rfl) (by kernel_rfl) (by kernel_rfl) (fun _ _ _ h => h) (Or.inl ⟨by rfl, fun w' hSw => by ((try dsimp only at hSw); go_simp)⟩) (by assumption) ?_
              (try simp only [Act.put, List.setIfInBounds_toArray, List.set_cons_zero, List.set_cons_succ])
              refine wpAnyH_take (i := 7) (oi := { dst := some 40, op := Op.move (Operand.tmp 1), type := 3, pos := "more.go:19", after := #[], guard := none }) (v := .int .i64 sz) rfl (by kernel_rfl) (by kernel_rfl) (by kernel_rfl) (fun _ _ _ h => h) (Or.inl ⟨by rfl, fun w' hSw => by ((try dsimp only at hSw); go_simp)⟩) (by assumption) ?_
              (try simp only [Act.put, List.setIfInBounds_toArray, List.set_cons_zero, List.set_cons_succ])
              refine wpAnyH_ready (rs := [4, 8]) (by kernel_rfl) (by simp) ?_
              refine AllReadyH.cons (o := { dst := some 37, op := Op.buildSlice 34 1 #[(0, Operand.tmp 36)], type := 34, pos := "more.go:19", after := #[{ on := 3, ground := Ground.data }], guard := none }) rfl (fun K hK => ?_) ?_
              · go_simp
                refine hK.out _ _ ?_ (fun hHeld => ?_)
                · first | exact Below.alloc HQ.out.out.2 HQ.out.out.2.size _ | exact Below.alloc (Below.drew HQ.out.out.2) HQ.out.out.2.size _
                clear hK K
                (try simp only [Act.put, List.setIfInBounds_toArray, List.set_cons_zero, List.set_cons_succ])
                have hRow : HS w.heap.size w (wr.heap.size) m _ := ⟨hHeld, heap_alloc_new wr (.cells #[.int .u8 (m : Int)] 5)⟩
                refine wpAnyH_mono (S' := HS w.heap.size w (wr.heap.size) m) (fun r h => h.1) ?_
                replace hHeld := hRow
                clear hRow
                refine wpAnyH_take (i := 5) (oi := { dst := some 38, op := Op.convert 34 9 (Operand.tmp 37), type := 9, pos := "more.go:19", after := #[{ on := 4, ground := Ground.data }], guard := none }) (v := .string kb) rfl (by kernel_rfl) (by kernel_rfl) (by kernel_rfl) (fun _ _ _ h => h) (Or.inl ⟨by rfl, fun w' hSw => by ((try dsimp only at hSw); have := HS.convert hSw; rw [HKB.out] at this; go_simp)⟩) (by assumption) ?_
                (try simp only [Act.put, List.setIfInBounds_toArray, List.set_cons_zero, List.set_cons_succ])
                refine wpAnyH_take (i := 6) (oi := { dst := some 39, op := Op.binOp BinOp.add 9 (Operand.const (Value.string { data := #[107] })) (Operand.tmp 38) 9, type := 9, pos := "more.go:19", after := #[{ on := 5, ground := Ground.data }], guard := none }) (v := .string kk) rfl (by kernel_rfl) (by kernel_rfl) (by kernel_rfl) (fun _ _ _ h => h) (Or.inl ⟨by rfl, fun w' hSw => by ((try dsimp only at hSw); go_simp; try rw [HKK.out])⟩) (by assumption) ?_
                (try simp only [Act.put, List.setIfInBounds_toArray, List.set_cons_zero, List.set_cons_succ])
                refine wpAnyH_ready (rs := [8]) (by kernel_rfl) (by simp) ?_
                refine AllReadyH.cons (o := { dst := some 41, op := Op.call { callee := Callee.value (Operand.func 15), args := #[Operand.tmp 40], argTypes := #[3] }, type := 9, pos := "more.go:19", after := #[{ on := 7, ground := Ground.data }], guard := none }) rfl (fun K hK => ?_) ?_
                · go_simp; go_at_call 15; refine (ZR.out _).mono ?_; rintro e w5 ⟨rfl, hb5⟩
                  refine hK.out _ _ ?_ (fun hHeld => ?_)
                  · exact HS.step (by assumption) hb5
                  clear hK K
                  (try simp only [Act.put, List.setIfInBounds_toArray, List.set_cons_zero, List.set_cons_succ])
                  refine wpAnyH_take (i := 9) (oi := { dst := some 42, op := Op.build 29 #[(0, Operand.tmp 39), (1, Operand.tmp 41)], type := 29, pos := "more.go:19", after := #[{ on := 6, ground := Ground.data }, { on := 8, ground := Ground.data }], guard := none }) (v := .agg #[.string kk, .string zz, .int .i64 0, .int .i64 0]) rfl (by kernel_rfl) (by kernel_rfl) (by kernel_rfl) (fun _ _ _ h => h) (Or.inl ⟨by rfl, fun w' hSw => by ((try dsimp only at hSw); go_simp)⟩) (by assumption) ?_
                  (try simp only [Act.put, List.setIfInBounds_toArray, List.set_cons_zero, List.set_cons_succ])
                  have HOX := Lib.hid (show World.ownsRow w5 w.heap.size 29 4 (.slice A k c) k (ccs (szL k sz)) from owns_kept2 (World.ownsRow.alloc HQ.out.out.1 (.cells #[.int .u8 (m : Int)] 5)) (fun q hq => hb5.block q ((World.ownsRow.alloc HQ.out.out.1 (.cells #[.int .u8 (m : Int)] 5)).lt q hq).2))
                  have hPre := hHeld
                  refine wpAnyH_ready (rs := [10]) (by kernel_rfl) (by simp) ?_
                  refine AllReadyH.cons (o := { dst := some 43, op := Op.buildSlice 22 1 #[(0, Operand.tmp 42)], type := 22, pos := "more.go:19", after := #[{ on := 9, ground := Ground.data }], guard := none }) rfl (fun K hK => ?_) ?_
                  · go_simp
                    refine hK.out _ _ ?_ (fun hHeld => ?_)
                    · exact HS.alloc (by assumption) _
                    clear hK K
                    (try simp only [Act.put, List.setIfInBounds_toArray, List.set_cons_zero, List.set_cons_succ])
                    refine wpAnyH_ready (rs := [11]) (by kernel_rfl) (by simp) ?_
                    refine AllReadyH.cons (o := { dst := some 44, op := Op.call { callee := Callee.builtin Builtin.append, args := #[Operand.tmp 33, Operand.tmp 43], argTypes := #[22, 22] }, type := 22, pos := "more.go:19", after := #[{ on := 0, ground := Ground.data }, { on := 10, ground := Ground.data }, { on := 8, ground := Ground.chain }], guard := none }) rfl (fun K hK => ?_) ?_
                    · refine wp_append_own2 _ _ 22 rfl 29 i0 (.agg #[.string ⟨#[]⟩, .string ⟨#[]⟩, .int .i64 0, .int .i64 0]) 4 48 Try.underlying22 hi hz0 hz1 hz2 rfl (by decide) w.heap.size _ k _ rfl (World.ownsRow.alloc HOX.out _) ⟨_, 0, none⟩ 1 1 (ccell ⟨kk, zz, 0, 0⟩) rfl rfl (news_at _ _ (by simp) _ _) (ccell_one _) (by unfold maxLen; omega) (by omega) (by have := hPre.1.size; simp at this ⊢; omega) ?_; intro v' w6 hown hgrow; obtain ⟨A', c', rfl⟩ := own_shape hown; have HGR := Lib.hid hgrow; have HOW := Lib.hid hown; clear hgrow hown
                      refine hK.out _ _ ?_ (fun hHeld => ?_)
                      · exact HS.grown (HS.alloc hPre _) HGR.out (World.ownsRow.alloc HOX.out _) (by have := hPre.1.size; simp at this ⊢; omega)
                      clear hK K
                      (try simp only [Act.put, List.setIfInBounds_toArray, List.set_cons_zero, List.set_cons_succ])
                      refine wpAnyH_take (i := 12) (oi := { dst := some 5, op := Op.assign (Operand.tmp 44), type := 22, pos := "more.go:19", after := #[{ on := 11, ground := Ground.data }, { on := 11, ground := Ground.chain }, { on := 0, ground := Ground.phase }, { on := 1, ground := Ground.phase }, { on := 2, ground := Ground.phase }, { on := 3, ground := Ground.phase }, { on := 4, ground := Ground.phase }, { on := 5, ground := Ground.phase }, { on := 6, ground := Ground.phase }, { on := 7, ground := Ground.phase }, { on := 8, ground := Ground.phase }, { on := 9, ground := Ground.phase }, { on := 10, ground := Ground.phase }, { on := 11, ground := Ground.phase }], guard := none }) (v := (.slice A' (k + 1) c')) rfl (by kernel_rfl) (by kernel_rfl) (by kernel_rfl) (fun _ _ _ h => h) (Or.inl ⟨by rfl, fun w' hSw => by ((try dsimp only at hSw); go_simp)⟩) (by assumption) ?_
                      (try simp only [Act.put, List.setIfInBounds_toArray, List.set_cons_zero, List.set_cons_succ])
                      refine wpAnyH_done (by kernel_rfl) ?_ _
                      refine NoPanic.normal ?_
                      have HBN := Lib.hid hHeld.1
                      clear hHeld hPre HGR
                      go_wp2_with fail
                      go_roundw
                      case rel => exact ⟨k + 1, by omega, by go_num, A', c', rfl, by rw [szL_succ, ccs_append, ccs_single, HC.out]; exact HOW.out, HBN.out⟩
                      case measure => simp [intOf]; omega
                    exact AllReadyH.nil
                  exact AllReadyH.nil
                exact AllReadyH.nil
              refine AllReadyH.cons (o := { dst := some 41, op := Op.call { callee := Callee.value (Operand.func 15), args := #[Operand.tmp 40], argTypes := #[3] }, type := 9, pos := "more.go:19", after := #[{ on := 7, ground := Ground.data }], guard := none }) rfl (fun K hK => ?_) ?_
              · go_simp; go_at_call 15; refine (ZR.out _).mono ?_; rintro e w5 ⟨rfl, hb5⟩
                refine hK.out _ _ ?_ (fun hHeld => ?_)
                · exact Below.trans hHeld (hb5.mono HQ.out.out.2.size)
                clear hK K
                (try simp only [Act.put, List.setIfInBounds_toArray, List.set_cons_zero, List.set_cons_succ])
                refine wpAnyH_ready (rs := [4]) (by kernel_rfl) (by simp) ?_
                refine AllReadyH.cons (o := { dst := some 37, op := Op.buildSlice 34 1 #[(0, Operand.tmp 36)], type := 34, pos := "more.go:19", after := #[{ on := 3, ground := Ground.data }], guard := none }) rfl (fun K hK => ?_) ?_
                · go_simp
                  refine hK.out _ _ ?_ (fun hHeld => ?_)
                  · exact Below.alloc hHeld (Nat.le_trans HQ.out.out.2.size hb5.size) _
                  clear hK K
                  (try simp only [Act.put, List.setIfInBounds_toArray, List.set_cons_zero, List.set_cons_succ])
                  have hRow : HS w.heap.size w (w5.heap.size) m _ := ⟨hHeld, heap_alloc_new w5 (.cells #[.int .u8 (m : Int)] 5)⟩
                  refine wpAnyH_mono (S' := HS w.heap.size w (w5.heap.size) m) (fun r h => h.1) ?_
                  replace hHeld := hRow
                  clear hRow
                  refine wpAnyH_take (i := 5) (oi := { dst := some 38, op := Op.convert 34 9 (Operand.tmp 37), type := 9, pos := "more.go:19", after := #[{ on := 4, ground := Ground.data }], guard := none }) (v := .string kb) rfl (by kernel_rfl) (by kernel_rfl) (by kernel_rfl) (fun _ _ _ h => h) (Or.inl ⟨by rfl, fun w' hSw => by ((try dsimp only at hSw); have := HS.convert hSw; rw [HKB.out] at this; go_simp)⟩) (by assumption) ?_
                  (try simp only [Act.put, List.setIfInBounds_toArray, List.set_cons_zero, List.set_cons_succ])
                  refine wpAnyH_take (i := 6) (oi := { dst := some 39, op := Op.binOp BinOp.add 9 (Operand.const (Value.string { data := #[107] })) (Operand.tmp 38) 9, type := 9, pos := "more.go:19", after := #[{ on := 5, ground := Ground.data }], guard := none }) (v := .string kk) rfl (by kernel_rfl) (by kernel_rfl) (by kernel_rfl) (fun _ _ _ h => h) (Or.inl ⟨by rfl, fun w' hSw => by ((try dsimp only at hSw); go_simp; try rw [HKK.out])⟩) (by assumption) ?_
                  (try simp only [Act.put, List.setIfInBounds_toArray, List.set_cons_zero, List.set_cons_succ])
                  refine wpAnyH_take (i := 9) (oi := { dst := some 42, op := Op.build 29 #[(0, Operand.tmp 39), (1, Operand.tmp 41)], type := 29, pos := "more.go:19", after := #[{ on := 6, ground := Ground.data }, { on := 8, ground := Ground.data }], guard := none }) (v := .agg #[.string kk, .string zz, .int .i64 0, .int .i64 0]) rfl (by kernel_rfl) (by kernel_rfl) (by kernel_rfl) (fun _ _ _ h => h) (Or.inl ⟨by rfl, fun w' hSw => by ((try dsimp only at hSw); go_simp)⟩) (by assumption) ?_
                  (try simp only [Act.put, List.setIfInBounds_toArray, List.set_cons_zero, List.set_cons_succ])
                  have HOX := Lib.hid (show World.ownsRow (w5.alloc (.cells #[.int .u8 (m : Int)] 5)) w.heap.size 29 4 (.slice A k c) k (ccs (szL k sz)) from World.ownsRow.alloc (owns_kept2 HQ.out.out.1 (fun q hq => hb5.block q (World.ownsRow.lt HQ.out.out.1 q hq).2)) (.cells #[.int .u8 (m : Int)] 5))
                  have hPre := hHeld
                  refine wpAnyH_ready (rs := [10]) (by kernel_rfl) (by simp) ?_
                  refine AllReadyH.cons (o := { dst := some 43, op := Op.buildSlice 22 1 #[(0, Operand.tmp 42)], type := 22, pos := "more.go:19", after := #[{ on := 9, ground := Ground.data }], guard := none }) rfl (fun K hK => ?_) ?_
                  · go_simp
                    refine hK.out _ _ ?_ (fun hHeld => ?_)
                    · exact HS.alloc (by assumption) _
                    clear hK K
                    (try simp only [Act.put, List.setIfInBounds_toArray, List.set_cons_zero, List.set_cons_succ])
                    refine wpAnyH_ready (rs := [11]) (by kernel_rfl) (by simp) ?_
                    refine AllReadyH.cons (o := { dst := some 44, op := Op.call { callee := Callee.builtin Builtin.append, args := #[Operand.tmp 33, Operand.tmp 43], argTypes := #[22, 22] }, type := 22, pos := "more.go:19", after := #[{ on := 0, ground := Ground.data }, { on := 10, ground := Ground.data }, { on := 8, ground := Ground.chain }], guard := none }) rfl (fun K hK => ?_) ?_
                    · refine wp_append_own2 _ _ 22 rfl 29 i0 (.agg #[.string ⟨#[]⟩, .string ⟨#[]⟩, .int .i64 0, .int .i64 0]) 4 48 Try.underlying22 hi hz0 hz1 hz2 rfl (by decide) w.heap.size _ k _ rfl (World.ownsRow.alloc HOX.out _) ⟨_, 0, none⟩ 1 1 (ccell ⟨kk, zz, 0, 0⟩) rfl rfl (news_at _ _ (by simp) _ _) (ccell_one _) (by unfold maxLen; omega) (by omega) (by have := hPre.1.size; simp at this ⊢; omega) ?_; intro v' w6 hown hgrow; obtain ⟨A', c', rfl⟩ := own_shape hown; have HGR := Lib.hid hgrow; have HOW := Lib.hid hown; clear hgrow hown
                      refine hK.out _ _ ?_ (fun hHeld => ?_)
                      · exact HS.grown (HS.alloc hPre _) HGR.out (World.ownsRow.alloc HOX.out _) (by have := hPre.1.size; simp at this ⊢; omega)
                      clear hK K
                      (try simp only [Act.put, List.setIfInBounds_toArray, List.set_cons_zero, List.set_cons_succ])
                      refine wpAnyH_take (i := 12) (oi := { dst := some 5, op := Op.assign (Operand.tmp 44), type := 22, pos := "more.go:19", after := #[{ on := 11, ground := Ground.data }, { on := 11, ground := Ground.chain }, { on := 0, ground := Ground.phase }, { on := 1, ground := Ground.phase }, { on := 2, ground := Ground.phase }, { on := 3, ground := Ground.phase }, { on := 4, ground := Ground.phase }, { on := 5, ground := Ground.phase }, { on := 6, ground := Ground.phase }, { on := 7, ground := Ground.phase }, { on := 8, ground := Ground.phase }, { on := 9, ground := Ground.phase }, { on := 10, ground := Ground.phase }, { on := 11, ground := Ground.phase }], guard := none }) (v := (.slice A' (k + 1) c')) rfl (by kernel_rfl) (by kernel_rfl) (by kernel_rfl) (fun _ _ _ h => h) (Or.inl ⟨by rfl, fun w' hSw => by ((try dsimp only at hSw); go_simp)⟩) (by assumption) ?_
                      (try simp only [Act.put, List.setIfInBounds_toArray, List.set_cons_zero, List.set_cons_succ])
                      refine wpAnyH_done (by kernel_rfl) ?_ _
                      refine NoPanic.normal ?_
                      have HBN := Lib.hid hHeld.1
                      clear hHeld hPre HGR
                      go_wp2_with fail
                      go_roundw
                      case rel => exact ⟨k + 1, by omega, by go_num, A', c', rfl, by rw [szL_succ, ccs_append, ccs_single, HC.out]; exact HOW.out, HBN.out⟩
                      case measure => simp [intOf]; omega
                    exact AllReadyH.nil
                  exact AllReadyH.nil
                exact AllReadyH.nil
              exact AllReadyH.nil
            · obtain rfl : n = k := by omega
              have q1 : ¬ (n : Int) < (n : Int) := by omega
              have hsl := szL_length n sz
              obtain ⟨hsok, hfok⟩ := sz_ok HN80.out HS40.out
              have HCE := Lib.hid (Own.ces HQ.out.out.1 hsl (sz_sizes n HS40.out) (by unfold maxLen; omega))
              have PU := Lib.hid (fun w' (hb : Below wr.heap.size wr w') => put_any (c := c) w' (HCE.out.kept hb) hsl (by omega) hb.size)
              have FI := Lib.hid (fun w' (hb : Below wr.heap.size wr w') => fits_walk (c := c) w' (HCE.out.kept hb) hsl (by omega) hb.size)
              rw [hsok] at PU
              rw [hfok] at FI
              have hm := mul_le HN80.out HS40.out
              have hm2 : (n : Int) * (6 + (sz : Int)) = ((n * (6 + sz) : Nat) : Int) := by simp
              generalize n * (6 + sz) = m at *
              have e1 : IntKind.i64.wrap (6 + (sz : Int)) = 6 + (sz : Int) := IntWalk.i64_in _ (by omega)
              have e2 : IntKind.i64.wrap ((n : Int) * (6 + (sz : Int))) = (m : Int) := by rw [hm2]; exact IntWalk.i64_in _ (by omega)
              have e3 : IntKind.i64.wrap (1 + (m : Int)) = 1 + (m : Int) := IntWalk.i64_in _ (by omega)
              have HE2 := Lib.hid (show wrap64 (m : Int) = (m : Int) by unfold wrap64; omega)
              have HE3 := Lib.hid (show wrap64 (1 + (m : Int)) = 1 + (m : Int) by unfold wrap64; omega)
              have hd : decide (1 + (m : Int) ≤ 240) = decide (1 + m ≤ 240) := by
                by_cases e : 1 + m ≤ 240
                · rw [decide_eq_true e, decide_eq_true (by omega)]
                · rw [decide_eq_false e, decide_eq_false (by omega)]
              generalize decide (1 + m ≤ 240) = gd at *
              generalize str (putS (szL n sz)) = X at *
              clear hsl hsok hfok hm e1 e2 e3
              have e2' := HE2.out
              have e3' := HE3.out
              clear HE2 HE3
              go_wp2_with fail
              refine (PU.out _ (Below.refl _ _)).mono ?_; rintro e w5 ⟨rfl, hb5⟩
              have HB5 := Lib.hid (HQ.out.out.2.trans (hb5.mono HQ.out.out.2.size))
              have H55 := Lib.hid hb5
              clear hb5
              cases gd with
              | true =>
                go_wp2_with fail
                refine (FI.out _ H55.out).mono ?_; rintro e w6 ⟨rfl, hb⟩
                have HB6 := Lib.hid (HB5.out.trans (hb.mono HB5.out.size))
                clear hb
                go_wp2_with fail
                go_ret
                exact ⟨rfl, HB6.out⟩
              | false =>
                go_wp2_with fail
                refine (FI.out _ H55.out).mono ?_; rintro e w6 ⟨rfl, hb⟩
                have HB6 := Lib.hid (HB5.out.trans (hb.mono HB5.out.size))
                clear hb
                go_wp2_with fail
                go_ret
                exact ⟨rfl, HB6.out⟩

/-! The row's step. -/
set_option maxRecDepth 100000 in
theorem lifted (os : Os) (started : os.Started) (H : Type) (enc : TypeId × Value → H) :
    ReturnsInHanded {} Try.checked os 4 .any (Rows.cellSizesSpec.pre6 enc Try.prog Try.f4 Rows.cellSizesRow.domain false) (Rows.cellSizesSpec.post enc Try.prog Try.f4 false true false false) := by
  refine returnsInHanded_of_change (C := Try.checked) own started (by kernel_rfl) Try.func4
    (ChangeSpec.witness6 (enc := enc) (C := Try.checked) false ⟨#[], #[.int .i64 0, .int .i64 0], []⟩ 8 (by kernel_rfl) (by kernel_rfl) (by kernel_rfl) (by kernel_rfl)) ?_
  intro W base args ds gs before hval0 hW hcnd _
  have hval : ∀ (j : Nat) t v, Try.f4.params[j]? = some t → args[j]? = some v → Value.okWide Try.prog W .any base t v := hval0
  have hW' := hW
  obtain ⟨p, q, hA0, hV, rfl, hfz, hnd⟩ := hW
  have hA : DataW.TrodAll enc Try.prog W 0 (fun _ => true) true Try.f4.params.toList args.toList ds p := hA0
  rw [Try.params4] at hA hval
  obtain ⟨v0, vs0, d0, ds0, p0, q0, hargs, rfl, rfl, h0, r0⟩ := trodAll_cons hA
  obtain ⟨v1, vs1, d1, ds1, p1, q1, rfl, rfl, rfl, h1, r1⟩ := trodAll_cons r0
  obtain ⟨rfl, rfl, rfl⟩ := trodAll_nil r1
  obtain rfl : args = #[v0, v1] := by cases args; simp_all
  obtain ⟨rfl, rfl⟩ := trodVars_none hV
  obtain ⟨a0, rfl, rfl, rfl, w0⟩ := open_int Try.underlying3 (hval 0 3 v0 rfl rfl) h0
  obtain ⟨a1, rfl, rfl, rfl, w1⟩ := open_int Try.underlying3 (hval 1 3 v1 rfl rfl) h1
  clear hA0 hval0
  refine (walk a0 a1 W w0 w1).mono fun e W' ⟨he, bel⟩ => ?_
  subst he
  exact ⟨_, rfl, _, _, _, [], _, [], hW', trodAll_mk1 (shut_bool Try.underlying4 _), (trodAll_cons_mk (shut_int Try.underlying3 w0) (trodAll_cons_mk (shut_int Try.underlying3 w1) trodAll_mk0)), rfl, bel.frame _, fun h => by cases h⟩

theorem over : Rows.cellSizesRow.holds Try.pinned (OpenSpec.ofChange Rows.cellSizesSpec) :=
  OpenClaim.holds_of_wide 4 Try.f4 rfl rfl rfl rfl rfl rfl rfl ⟨rfl, rfl, rfl, rfl, rfl⟩ rfl rfl rfl rfl rfl (by kernel_rfl) Try.func4 (by kernel_rfl)
    (of_decide_eq_true (by kernel_rfl)) (by unfold Func.isWrapper; first | (rw [if_pos (by decide +kernel)]; kernel_rfl) | (rw [if_neg (by decide +kernel)]; exact ⟨rfl, rfl⟩))
    (fun os started H enc _ => lifted os started H enc)

/-- The statement. -/
theorem proved : Rows.CellSizesSaid := over
end Go.Proofs.Ytnbfieidledfmaa.cellSizes
