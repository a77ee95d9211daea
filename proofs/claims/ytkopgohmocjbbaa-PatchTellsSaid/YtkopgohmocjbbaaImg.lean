/- A page's bytes in memory; one patch laid over them; a list of them. -/
import Derived.Test.YtkopgohmocjbbaaMem
import Derived.Lib.LazyBuf
import Derived.Laws.IdiomCopy
import Derived.Laws.Slices
import Derived.Deep.RegionLaw
namespace Go.Proofs.Ytkopgohmocjbbaa
open Go.ChangeShapes Go.WideShapes Go.ChangeAt Go.RowKit
set_option linter.unusedVariables false
set_option linter.unusedSimpArgs false
/-- Block B holds these bytes. -/
def Img (w : World) (B : Nat) (b : BA) : Prop := B < w.heap.size ∧ (∀ j x, b[j]? = some x → w.cell? ⟨B, j, none⟩ = some (.int .u8 (x.toNat : Int))) ∧ ∀ j, j < b.length → w.frozen? ⟨B, j, none⟩ = false
theorem cell_heap {w w' : World} {B : Nat} (h : w'.heap[B]? = w.heap[B]?) (j : Nat) : w'.cell? ⟨B, j, none⟩ = w.cell? ⟨B, j, none⟩ := by
  unfold World.cell?
  simp only [h]
theorem frozen_heap {w w' : World} {B : Nat} (h : w'.heap[B]? = w.heap[B]?) (j : Nat) : w'.frozen? ⟨B, j, none⟩ = w.frozen? ⟨B, j, none⟩ := by
  unfold World.frozen?
  simp only [h]
theorem Img.kept {w w' : World} {B D : Nat} {b : BA} (h : Img w B b) (hb : Below D w w') (hD : B < D) : Img w' B b := by
  have e := hb.block B hD
  exact ⟨Nat.lt_of_lt_of_le h.1 hb.size, fun j x hx => (cell_heap e j).trans (h.2.1 j x hx), fun j hj => (frozen_heap e j).trans (h.2.2 j hj)⟩
theorem Img.held {w w' : World} {B : Nat} {b : BA} (h : Img w B b) (hb : Below w.heap.size w w') : Img w' B b := h.kept hb h.1
theorem Img.some {w : World} {B : Nat} {b : BA} (h : Img w B b) (j : Nat) (hj : j < b.length) : (w.cell? ⟨B, j, none⟩).isSome = true := by
  rw [h.2.1 j b[j] (List.getElem?_eq_getElem hj)]; rfl
def bcs (b : ByteArray) : List Value := b.data.toList.map fun x => Value.int .u8 (x.toNat : Int)
theorem bcs_length (b : ByteArray) : (bcs b).length = b.size := by unfold bcs; rw [List.length_map, size_data]
theorem below_bytes {C B : Nat} {a w : World} (hb : C ≤ B) (vs : List Value) (o : Nat) (h : Below C a w) : Below C a (w.setCells B o vs) := below_setCells hb vs o w h
/-- One patch laid over. -/
theorem Img.over {w : World} {B : Nat} {b : BA} {p : Pt} (h : Img w B b) (hb : b.length = 256) (hp : p.Ok) : Img (w.setCells B p.ofs.toNat (bcs p.bs)) B (over b p) := by
  have hl := over_length hp hb
  have hp' := hp
  obtain ⟨_, h1, h2, h3⟩ := hp'
  have hs := bcs_length p.bs
  have hin := World.cell?_setCells_in B (bcs p.bs) p.ofs.toNat w (fun j hj => h.some _ (by omega))
  have hout := World.cell?_setCells_out B (bcs p.bs) p.ofs.toNat w
  refine ⟨Nat.lt_of_lt_of_le h.1 (below_bytes (Nat.le_refl _) _ _ (Below.refl B w)).size, fun j x hx => ?_, fun j hj => ?_⟩
  · have hj : j < 256 := by rw [← hl]; exact (List.getElem?_eq_some_iff.1 hx).1
    rw [over_get hp hb j hj] at hx
    split at hx
    · obtain ⟨d, rfl⟩ : ∃ d, j = p.ofs.toNat + d := ⟨j - p.ofs.toNat, by omega⟩
      rw [hin d (by omega)]
      rw [Nat.add_sub_cancel_left] at hx
      have hd := (List.getElem?_eq_some_iff.1 hx)
      obtain ⟨hd1, hd2⟩ := hd
      unfold bcs
      rw [List.getElem_map, hd2]
    · rename_i hc
      rw [hout ⟨B, j, none⟩ (fun _ _ => by show j < _ ∨ _ ≤ j; omega)]
      exact h.2.1 j x hx
  · rw [World.frozen?_setCells]
    exact h.2.2 j (by omega)
theorem run_sl (W : World) (B c k : Nat) (hk : k < 256) (hc : 256 ≤ c) : (Instr.slice 48 (.slice (some ⟨B, 0, none⟩) 256 c) (some (.int .i64 (k : Int))) none none).run Try.prog W = .ok (.slice (some ⟨B, k, none⟩) (256 - k) (c - k)) W := by
  have hz : ∀ w, (Go.sizeOf (Try.prog.elem 48)).run Try.prog w = .ok 1 w := fun w => by kernel_rfl
  rw [run_slice_l W 48 _ _ _ (show Try.prog.underlying 48 = some (.slice (Try.prog.elem 48)) by kernel_rfl) .i64 _ (by omega) (by omega), hz]
  have h0 : ¬ c = k := by omega
  by_cases h1 : k = 0
  · subst h1; simp [Result.andThen, sliced, Addr.add]
  · simp [Result.andThen, sliced, Addr.add, h0, h1]
def Laid (C B : Nat) (b : BA) (w : World) (w' : World) : Prop := Img w' B b ∧ Below C w w'
set_option maxHeartbeats 2000000 in
theorem replace_walk {C B c : Nat} {b : BA} {p : Pt} (w : World) (h : Img w B b) (hb : b.length = 256) (hp : p.Ok) (hC : C ≤ B) (hc : 256 ≤ c) :
    Calls Try.prog 29 #[.slice (some ⟨B, 0, none⟩) 256 c, pvP p] w fun e w' => e = .returned (.tuple #[]) ∧ Laid C B (over b p) w w' := by
  obtain ⟨k, hk⟩ : ∃ k : Nat, p.ofs = (k : Int) := ⟨p.ofs.toNat, by have := hp.2.1; omega⟩
  have HSZ := hp.2.2.2
  have HPOS := hp.2.2.1
  rw [hk] at HSZ
  have SL := fun W => run_sl W B c k (by omega) hc
  have hlt := h.1
  have hfin := fun (w' : World) (hi : Img w' B b) => hi.over hb hp
  have hsome := fun (w' : World) (hi : Img w' B b) j (hj : j < p.bs.size) => hi.some (k + j) (by omega)
  have hfree := fun (w' : World) (hi : Img w' B b) j (hj : j < p.bs.size) => hi.2.2 (k + j) (by omega)
  unfold pvP pv
  rw [hk] at hfin ⊢
  rw [Int.toNat_natCast] at hfin
  unfold bcs at hfin
  have HK := Lib.hid hk
  obtain ⟨OV, hov⟩ : ∃ OV, OV = over b p := ⟨_, rfl⟩
  rw [← hov] at hfin ⊢
  generalize p.bs = s at *
  generalize p.pg = pg at *
  clear hov hp HPOS HK hk p
  have hA := (Below.refl w.heap.size w).alloc (Nat.le_refl _) (.cells #[.int .i64 pg, .int .i64 k, .string s] 26)
  have HI := Lib.hid (h.held hA)
  have hA2 := (Below.refl C w).alloc (B := C) (by omega) (.cells #[.int .i64 pg, .int .i64 k, .string s] 26)
  have HA2 := Lib.hid hA2
  obtain ⟨x0, x1, x2⟩ := (Box.new w (.int .i64 pg) (.int .i64 k) (.string s)).cells
  clear h hA hA2
  have HF := Lib.hid hfin
  have HS := Lib.hid hsome
  have HR := Lib.hid hfree
  clear hfin hsome hfree
  go_enter Try.func29, Try.ntmps29
  go_wp2_with fail
  generalize w.alloc (.cells #[.int .i64 pg, .int .i64 k, .string s] 26) = W at *
  go_region_law (refine step_copy_string rfl (.tmp 7) (.tmp 9) 48 9 rfl 5 (by kernel_rfl) (by intro w; kernel_rfl) B k (256 - k) (c - k) (by simp [Act.eval, Act.put]) s (by simp [Act.eval, Act.put]) (by omega) (fun j hj => HS.out _ (HI.out.held (Below.refl _ _).drew) j hj) (fun j hj => HR.out _ (HI.out.held (Below.refl _ _).drew) j hj) ?_)
  all_goals
    go_end0
    exact ⟨rfl, HF.out _ (HI.out.held (Below.refl _ _).drew), below_bytes hC _ _ HA2.out.drew⟩
set_option maxHeartbeats 2000000 in
/-- The patches of a page, one behind the other. -/
theorem each_walk {C B c n lc : Nat} {A : Option Addr} {b : BA} {l : List Pt} {page : Int} (w : World) (h : Img w B b) (hb : b.length = 256) (hl : Pts C w A l) (hn : l.length = n) (hok : ∀ p ∈ l, p.Ok) (hC : C ≤ B) (hc : 256 ≤ c) :
    Calls Try.prog 28 #[.slice A n lc, .int .i64 page, .func (.func 29) #[.slice (some ⟨B, 0, none⟩) 256 c] #[]] w fun e w' => e = .returned (.tuple #[]) ∧ Laid C B (folds page b l) w w' := by
  have HP := Lib.hid hl
  have HN := Lib.hid hn
  have HC := Lib.hid hC
  have HCC := Lib.hid (show C ≤ w.heap.size from Nat.le_trans hC (Nat.le_of_lt h.1))
  have HI := Lib.hid h
  have HOK := Lib.hid hok
  have HB := Lib.hid hb
  have H256 := Lib.hid hc
  have hm := hl.2.2
  unfold maxLen at hm
  have hN : (n : Int) ≤ 9223372036854775807 := by omega
  clear h hl hn hok hC hc hb hm
  go_enter Try.func28, Try.ntmps28
  go_wp2_with fail
  go_loopw [10] (fun x wr => ∃ k : Nat, k ≤ n ∧ x = .int .i64 k ∧ Hid (Laid C B (folds page b (l.take k)) w wr ∧ C ≤ wr.heap.size)) (fun x _ => n - (intOf x).toNat)
  case atStart => exact ⟨0, Nat.zero_le _, rfl, ⟨HI.out, Below.refl _ _⟩, HCC.out⟩
  case round =>
    obtain ⟨k, hk, rfl, hq⟩ := hrel
    have HQ := Lib.hid hq.out
    clear hq
    by_cases hlt : k < n
    · have hkl : k < l.length := by rw [HN.out]; exact hlt
      obtain ⟨bl, off, rfl, hbl, hp⟩ := HP.out.1 k hkl
      obtain ⟨c0, c1, c2⟩ := hp.kept (w' := wr) hbl HQ.out.1.2
      have HT := Lib.hid (show folds page b (l.take (k + 1)) = stepP page (folds page b (l.take k)) (l.getD k nilP) by rw [take_snoc l k hkl, folds_snoc])
      have HPO := Lib.hid (HOK.out (l.getD k nilP) (by rw [List.getD_eq_getElem?_getD, List.getElem?_eq_getElem hkl]; exact List.getElem_mem hkl))
      have HLE := Lib.hid (show (folds page b (l.take k)).length = 256 from folds_length (fun p hp => HOK.out p (List.mem_of_mem_take hp)) HB.out)
      generalize (l.getD k nilP) = p at *
      generalize folds page b (l.take k) = cur at *
      have HX := Lib.hid (Box.new wr (.int .i64 p.pg) (.int .i64 p.ofs) (.string p.bs))
      have hA := (Below.refl wr.heap.size wr).alloc (Nat.le_refl _) (.cells #[.int .i64 p.pg, .int .i64 p.ofs, .string p.bs] 26)
      have HA := Lib.hid hA
      clear hbl hp hA
      have b1 : (0 : Int) ≤ (k : Int) := by omega
      have b2 : (k : Int) < (n : Int) := by omega
      have HNE : wr.heap.size ≠ B ∧ B < wr.heap.size := ⟨Nat.ne_of_gt HQ.out.1.1.1, HQ.out.1.1.1⟩
      by_cases hpg : p.pg = page
      · have e1 : (p.pg == page) = true := by simpa using hpg
        have HT2 := Lib.hid (show folds page b (l.take (k + 1)) = over cur p by rw [HT.out]; unfold stepP; rw [if_pos hpg])
        have HR := Lib.hid (fun (r : World) (hi : Img r B cur) => replace_walk (c := c) r hi HLE.out HPO.out HC.out H256.out)
        unfold pvP pv at HR
        clear hpg HT
        go_wp2_with fail
        refine (HR.out _ (HQ.out.1.1.held HA.out)).mono ?_; rintro e w1 ⟨rfl, hb⟩
        have H1 := Lib.hid (show Laid C B (over cur p) w w1 from ⟨hb.1, (HQ.out.1.2.alloc HQ.out.2 _).trans hb.2⟩)
        have H2 := Lib.hid (show C ≤ w1.heap.size from Nat.le_trans (Nat.le_trans HQ.out.2 HA.out.size) hb.2.size)
        clear hb c0 c1 c2
        go_wp2_with fail
        go_roundw
        case rel => exact ⟨k + 1, by omega, by go_num, by rw [HT2.out]; exact ⟨H1.out, H2.out⟩⟩
        case measure => simp [intOf]; omega
      · have e1 : (p.pg == page) = false := by simpa using hpg
        have HT2 := Lib.hid (show folds page b (l.take (k + 1)) = cur by rw [HT.out]; unfold stepP; rw [if_neg hpg])
        clear hpg HT
        go_wp2_with fail
        go_roundw
        case rel => exact ⟨k + 1, by omega, by go_num, by rw [HT2.out]; exact ⟨⟨HQ.out.1.1.held HA.out, HQ.out.1.2.alloc HQ.out.2 _⟩, Nat.le_trans HQ.out.2 HA.out.size⟩⟩
        case measure => simp [intOf]; omega
    · obtain rfl : n = k := by omega
      go_wp2_with fail
      go_end0
      exact ⟨rfl, by have := HQ.out.1; rwa [List.take_of_length_le (by rw [HN.out]; omega)] at this⟩
end Go.Proofs.Ytkopgohmocjbbaa
