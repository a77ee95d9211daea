/- What FrameHoles wants at its end: a copy into a block of texts that leaves every other block as it was. -/
import Derived.Test.YtbdpmfgphhgigaaHoles
namespace Go.Proofs.Ytbdpmfgphhgigaa
open Go.ChangeShapes Go.WideShapes Go.ChangeAt Go.RowKit Go.Joins
set_option linter.unusedVariables false
set_option linter.unusedSimpArgs false
set_option maxRecDepth 100000
section
variable {P : Program}
theorem copy_tab2 {w : World} {ops : Array Oper} {rest : List Oper} {o : Oper} {a : Act} {Q : Exit → Act → World → Prop} (hgd : o.guard = none) (d s : Operand)
    (ho : o.op = .call { callee := .builtin .copy, args := #[d, s], argTypes := #[25, 25] }) (dp A : Option Addr) (dLen dCap n c : Nat) (hd : a.eval d = .slice dp dLen dCap) (hs : a.eval s = .slice A n c)
    (g off C : Nat) (cur cs : List BA) (htab : Tab w g cur) (hsrc : Txt C w A n cs) (h0 : 0 < n) (hdp : dp = some ⟨g, off, none⟩) (hn : n ≤ dLen) (hfit : off + n ≤ cur.length) (B : Nat) (w0 : World) (hb : Below B w0 w) (hB : B ≤ g)
    (h : ∀ w', Hid (Tab w' g (splice cur off cs)) → Below B w0 w' → Hid (∀ k, k ≠ g → w'.heap[k]? = w.heap[k]?) → wpList Try.prog ops Q rest (a.put o.dst (goInt n)) w') : wpList Try.prog ops Q (o :: rest) a w := by
  have hl : (tcs cs).length = n := by rw [tcs_length, hsrc.1]
  subst hdp
  obtain ⟨ad, rfl, h2⟩ := hsrc.src.2 h0
  refine wpList_copy_own hgd d s 25 25 ho 9 Try.underlying25 (by kernel_rfl) g off dLen dCap ad n c hd hs (tcs cur).toArray 9 htab (tcs cs) (by rw [hl]; exact (Nat.min_eq_left hn).symm) (fun j v hv => h2 j v hv) (by rw [hl, List.size_toArray, tcs_length]; exact hfit) (tcs_one _) ?_
  rw [hl]
  refine h _ (Lib.hid ?_) (below_setRow hb hB _) (Lib.hid fun k hk => setRow_other w g k _ hk)
  have := setRow_heap w g (tcs cur).toArray (splice (tcs cur) off (tcs cs)).toArray 9 (0, 0) htab
  rw [tcs_splice] at this
  have e : (tcs (splice cur off cs)).toArray = ((tcs cur).toArray.toList.take off ++ (tcs cs ++ (tcs cur).toArray.toList.drop (off + n))).toArray := by
    rw [← tcs_splice, List.toList_toArray]
    unfold splice
    rw [hl]
  rw [e] at this
  unfold Tab
  rw [e]
  exact this
end
theorem OwnT.past {B g : Nat} {w w' : World} {v : Value} {l : List BA} (h : OwnT B w v l) (hg : g < B) (hk : ∀ k, k ≠ g → w'.heap[k]? = w.heap[k]?) : OwnT B w' v l :=
  owns_kept2 h fun k hv => hk k (by have := (h.lt k hv).1; omega)
theorem splice_all {D cc : List BA} {nx : Nat} (h : nx + cc.length ≤ D.length) (hD : ∀ x ∈ D, x.length = 64) (hc : ∀ x ∈ cc, x.length = 64) : (splice D nx cc).length = D.length ∧ ∀ x ∈ splice D nx cc, x.length = 64 := by
  refine ⟨length_splice _ _ _ h, fun x hx => ?_⟩
  unfold splice at hx
  rcases List.mem_append.1 hx with hx | hx
  · exact hD x (List.mem_of_mem_take hx)
  · rcases List.mem_append.1 hx with hx | hx
    · exact hc x hx
    · exact hD x (List.mem_of_mem_drop hx)
theorem cat_small {R l : List BA} {n : Nat} (hR : R.length ≤ 11200 ∧ ∀ x ∈ R, x.length ≤ 11200) (hl : fewB l = true) : (R ++ l).length ≤ maxLen ∧ ∀ x ∈ R ++ l, x.length ≤ maxLen := by
  have h1 := (few_strm hl).1
  refine ⟨by rw [List.length_append]; unfold maxLen; omega, fun x hx => ?_⟩
  rcases List.mem_append.1 hx with hx | hx
  · exact Nat.le_trans (hR.2 x hx) (by unfold maxLen; omega)
  · exact Nat.le_trans (few_size hl x hx) (by unfold maxLen; omega)
end Go.Proofs.Ytbdpmfgphhgigaa
