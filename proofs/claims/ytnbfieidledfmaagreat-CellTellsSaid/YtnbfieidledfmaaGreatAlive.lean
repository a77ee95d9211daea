/- The laws' first call 'alive'. -/
import Derived.Test.YtnbfieidledfmaaGreatGet
import Derived.Test.YtnbfieidledfmaaGreatSame
namespace Go.Proofs.YtnbfieidledfmaaGreat
open Go.ChangeShapes Go.WideShapes Go.ChangeAt Go.RowKit
set_option linter.unusedVariables false
set_option linter.unusedSimpArgs false
set_option maxRecDepth 100000
def aC : Ce := ⟨⟨#[97]⟩, ⟨#[98, 99]⟩, 0, 0⟩
def bC : Ce := ⟨⟨#[98]⟩, ⟨#[]⟩, 7, 100⟩
def aL : List Ce := [aC, bC]
theorem putOk_a : putOk aL = true := by decide +kernel
theorem take_a : (bodyOf aL).take 16 = [2, 1, 97, 0, 0, 2, 98, 99, 1, 98, 1, 0, 100, 0, 7, 0] := by decide +kernel
theorem ces_lit (w : World) : Ces (w.heap.size + 1) (w.alloc (.cells #[.string ⟨#[97]⟩, .string ⟨#[98, 99]⟩, .int .i64 0, .int .i64 0, .string ⟨#[98]⟩, .string ⟨#[]⟩, .int .i64 7, .int .i64 100] 25)) (some ⟨w.heap.size, 0, none⟩) aL := by
  have h := fun j => cell_of_row _ _ j _ _ _ (heap_alloc_new w (.cells #[.string ⟨#[97]⟩, .string ⟨#[98, 99]⟩, .int .i64 0, .int .i64 0, .string ⟨#[98]⟩, .string ⟨#[]⟩, .int .i64 7, .int .i64 100] 25))
  refine ⟨fun k hk => ⟨w.heap.size, 0, rfl, by omega, ?_⟩, fun p hp => ?_, by unfold maxLen; decide⟩
  · have hk : k < 2 := hk
    rcases k with _ | _ | k
    · exact ⟨h 0, h 1, h 2, h 3⟩
    · exact ⟨h 4, h 5, h 6, h 7⟩
    · omega
  · unfold maxLen
    simp only [aL, List.mem_cons, List.not_mem_nil, or_false] at hp
    rcases hp with rfl | rfl <;> decide
theorem max_small {n : Nat} (h : n ≤ 1000000) : n ≤ maxLen := by unfold maxLen; omega
theorem getS_sizes (b : BA) : ∀ p ∈ getS b, p.key.size ≤ maxLen ∧ p.val.size ≤ maxLen := by
  intro p hp
  cases g : getOk b with
  | true =>
    obtain ⟨_, g2, _⟩ := getS_ok g
    have ho := (putOk_iff.1 g2).1 p hp
    refine ⟨max_small (by have := ho.1; omega), ?_⟩
    obtain ⟨_, h | h⟩ := ho
    · exact max_small (by omega)
    · exact max_small (by omega)
  | false => rw [getS_no g] at hp; simp at hp
theorem getS_len (b : BA) : (getS b).length ≤ 47 := by
  cases g : getOk b with
  | true => exact fits_len (putOk_fits (getS_ok g).2.1)
  | false => rw [getS_no g]; simp
theorem got_ces {B : Nat} {w : World} {A : Option Addr} {c : Nat} {b : BA} (h : Own B w (.slice A (getS b).length c) (getS b)) : Ces w.heap.size w A (getS b) := own_ces h (getS_sizes b) (max_small (by have := getS_len b; omega))
set_option maxHeartbeats 4000000 in
theorem alive_yes (w : World) : Calls Tryz.prog 4 #[] w fun e w' => e = .returned (.bool true) ∧ Below w.heap.size w w' := by
  have hl := bodyOf_length putOk_a
  have hp : putS aL = bodyOf aL := by unfold putS; rw [putOk_a]; rfl
  have PU := Lib.hid (fun w => put_any (c := 2) (n := 2) _ (ces_lit w) rfl (by omega) (by simp))
  rw [hp, putOk_a] at PU
  have HBA := Lib.hid ((Below.refl w.heap.size w).alloc (Nat.le_refl _) (.cells #[.string ⟨#[97]⟩, .string ⟨#[98, 99]⟩, .int .i64 0, .int .i64 0, .string ⟨#[98]⟩, .string ⟨#[]⟩, .int .i64 7, .int .i64 100] 25))
  obtain ⟨ga, gl⟩ := getOk_body putOk_a
  have GE := Lib.hid (fun w => (get_any (bodyOf aL) (by omega) w).mono fun e w' h => by
    obtain ⟨A, c, h1, h2, h3⟩ := h
    have hc := got_ces h2
    rw [ga, gl] at h1
    rw [gl] at hc
    exact show ∃ A c, e = .returned (.tuple #[.slice A 2 c, .bool true]) ∧ Ces w'.heap.size w' A aL ∧ Below w.heap.size w w' from ⟨A, c, h1, hc, h3⟩)
  have SI := Lib.hid (fun w => size_any ⟨#[97]⟩ ⟨#[98, 99]⟩ 0 0 (by unfold maxLen; decide) (by unfold maxLen; decide) w)
  rw [show sizeC ⟨⟨#[97]⟩, ⟨#[98, 99]⟩, 0, 0⟩ = 7 by decide] at SI
  unfold cv at SI
  have hs : (str (bodyOf aL)).size = 240 := by rw [str_size, hl]
  have hs' : ((str (bodyOf aL)).size : Int) = 240 := by omega
  have hx : (str (bodyOf aL)).extract 0 16 = ⟨#[2, 1, 97, 0, 0, 2, 98, 99, 1, 98, 1, 0, 100, 0, 7, 0]⟩ := by
    rw [extract_take, take_a]; rfl
  have SL : ∀ w : World, (Instr.slice 9 (.string (str (bodyOf aL))) none (some (.int .i64 16)) none).run Tryz.prog w = .ok (.string ⟨#[2, 1, 97, 0, 0, 2, 98, 99, 1, 98, 1, 0, 100, 0, 7, 0]⟩) w := fun w => by
    have := run_slice_string_h (P := Tryz.prog) w 9 (str (bodyOf aL)) Tryz.underlying9 .i64 16 (by omega) (by omega)
    rw [this, ← hx]
    rfl
  clear hl hp ga gl hx
  generalize str (bodyOf aL) = X at *
  go_enter Tryz.func4, Tryz.ntmps4
  go_wp2_with fail
  refine (PU.out _).mono ?_; rintro e w1 ⟨rfl, hb⟩
  have HB1 := Lib.hid (HBA.out.trans (hb.mono HBA.out.size))
  clear hb
  go_wp2_with fail
  refine (GE.out _).mono ?_; rintro e w2 ⟨A, c, rfl, hc, hb⟩
  have HB2 := Lib.hid (HB1.out.trans (hb.mono HB1.out.size))
  clear hb
  obtain ⟨b, off, rfl, _, p0, p1, p2, p3⟩ := hc.1 0 (by decide)
  obtain ⟨b2, off2, e2, _, q0, q1, q2, q3⟩ := hc.1 1 (by decide)
  simp only [Option.some.injEq, Addr.mk.injEq, and_true] at e2
  obtain ⟨rfl, rfl⟩ := e2
  clear hc
  dsimp only [aL, List.getD_cons_zero, List.getD_cons_succ, aC, bC] at p0 p1 p2 p3 q0 q1 q2 q3
  rw [show off + 0 * 4 = off by omega] at p0 p1 p2 p3
  go_wp2_with fail
  refine (SI.out _).mono ?_; rintro e w3 ⟨rfl, hb⟩
  have HB3 := Lib.hid (HB2.out.trans (hb.mono HB2.out.size))
  clear hb
  go_wp2_with fail
  go_ret
  exact ⟨rfl, HB3.out⟩
end Go.Proofs.YtnbfieidledfmaaGreat
