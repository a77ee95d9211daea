/- The contracts of place, mark, follows, number, Count, Few, SameTexts; strings.Repeat and strings.Clone. -/
import Derived.Test.YtbdpmfgphhgigaaGreatMem
import Derived.Shelf.LaysM
import Derived.Shelf.Strconv.Clone
import Derived.Shelf.Strings.Repeat
namespace Go.Proofs
open Go.Shelf
def Tryz.repL_ren : Go.Shelf.Ren := ⟨fun | 105 => 23 | 212 => 74 | 99 => 75 | 165 => 76 | 166 => 77 | 170 => 78 | 169 => 79 | 263 => 103 | 264 => 104 | 206 => 105 | 240 => 106 | 241 => 107 | 276 => 111 | 277 => 112 | n => n, fun | 9 => 9 | 3 => 3 | 4 => 4 | 20 => 20 | 0 => 0 | 46 => 62 | 109 => 100 | 5 => 5 | 72 => 105 | 76 => 109 | 51 => 60 | 146 => 154 | 53 => 99 | 148 => 156 | 70 => 103 | 37 => 64 | 75 => 108 | 127 => 158 | 164 => 161 | 80 => 112 | n => n, fun | n => n⟩
theorem Tryz.repL : Go.Proofs.Lays.n105 Tryz.prog Tryz.repL_ren := {
  mixed := by kernel_rfl
  f99 := Tryz.func75.trans (congrArg some (by kernel_rfl))
  f105 := Tryz.func23.trans (congrArg some (by kernel_rfl))
  f165 := Tryz.func76.trans (congrArg some (by kernel_rfl))
  f166 := Tryz.func77.trans (congrArg some (by kernel_rfl))
  f169 := Tryz.func79.trans (congrArg some (by kernel_rfl))
  f170 := Tryz.func78.trans (congrArg some (by kernel_rfl))
  f206 := Tryz.func105.trans (congrArg some (by kernel_rfl))
  f212 := Tryz.func74.trans (congrArg some (by kernel_rfl))
  f240 := Tryz.func106.trans (congrArg some (by kernel_rfl))
  f241 := Tryz.func107.trans (congrArg some (by kernel_rfl))
  f263 := Tryz.func103.trans (congrArg some (by kernel_rfl))
  f264 := Tryz.func104.trans (congrArg some (by kernel_rfl))
  f276 := Tryz.func111.trans (congrArg some (by kernel_rfl))
  f277 := Tryz.func112.trans (congrArg some (by kernel_rfl))
  t0 := Tryz.underlying0
  a0 := Tryz.isAgg0
  z0 := Tryz.sizeOf0
  v0 := Tryz.zeroValue0
  t3 := Tryz.underlying3
  a3 := Tryz.isAgg3
  z3 := Tryz.sizeOf3
  v3 := Tryz.zeroValue3
  t4 := Tryz.underlying4
  a4 := Tryz.isAgg4
  z4 := Tryz.sizeOf4
  v4 := Tryz.zeroValue4
  t5 := Tryz.underlying5
  a5 := Tryz.isAgg5
  z5 := Tryz.sizeOf5
  v5 := Tryz.zeroValue5
  t9 := Tryz.underlying9
  a9 := Tryz.isAgg9
  z9 := Tryz.sizeOf9
  v9 := Tryz.zeroValue9
  t20 := Tryz.underlying20
  a20 := Tryz.isAgg20
  z20 := Tryz.sizeOf20
  v20 := Tryz.zeroValue20
  t37 := Tryz.underlying64
  a37 := Tryz.isAgg64
  z37 := Tryz.sizeOf64
  v37 := Tryz.zeroValue64
  t46 := Tryz.underlying62
  a46 := Tryz.isAgg62
  z46 := Tryz.sizeOf62
  v46 := Tryz.zeroValue62
  t51 := Tryz.underlying60
  a51 := Tryz.isAgg60
  z51 := Tryz.sizeOf60
  v51 := Tryz.zeroValue60
  t53 := Tryz.underlying99
  a53 := Tryz.isAgg99
  z53 := Tryz.sizeOf99
  v53 := Tryz.zeroValue99
  t70 := Tryz.underlying103
  a70 := Tryz.isAgg103
  z70 := Tryz.sizeOf103
  v70 := Tryz.zeroValue103
  t72 := Tryz.underlying105
  a72 := Tryz.isAgg105
  z72 := Tryz.sizeOf105
  v72 := Tryz.zeroValue105
  t75 := Tryz.underlying108
  a75 := Tryz.isAgg108
  z75 := Tryz.sizeOf108
  v75 := Tryz.zeroValue108
  t76 := Tryz.underlying109
  a76 := Tryz.isAgg109
  z76 := Tryz.sizeOf109
  v76 := Tryz.zeroValue109
  t109 := Tryz.underlying100
  a109 := Tryz.isAgg100
  z109 := Tryz.sizeOf100
  v109 := Tryz.zeroValue100
  t127 := Tryz.underlying158
  a127 := Tryz.isAgg158
  z127 := Tryz.sizeOf158
  v127 := Tryz.zeroValue158
  t146 := Tryz.underlying154
  a146 := Tryz.isAgg154
  z146 := Tryz.sizeOf154
  v146 := Tryz.zeroValue154
  t148 := Tryz.underlying156
  a148 := Tryz.isAgg156
  z148 := Tryz.sizeOf156
  v148 := Tryz.zeroValue156
  t164 := Tryz.underlying161
  a164 := Tryz.isAgg161
  z164 := Tryz.sizeOf161
  v164 := Tryz.zeroValue161 }
def Tryz.cloL_ren : Go.Shelf.Ren := ⟨fun | 316 => 81 | n => n, fun | 9 => 9 | 3 => 3 | 4 => 4 | 37 => 64 | 0 => 0 | 127 => 158 | 5 => 5 | n => n, fun | n => n⟩
theorem Tryz.cloL : Go.Proofs.LaysM.n316 Tryz.prog Tryz.cloL_ren := {
  mixed := by kernel_rfl
  f316 := Tryz.func81.trans (congrArg some (by kernel_rfl))
  t0 := Tryz.underlying0
  a0 := Tryz.isAgg0
  z0 := Tryz.sizeOf0
  v0 := Tryz.zeroValue0
  t3 := Tryz.underlying3
  a3 := Tryz.isAgg3
  z3 := Tryz.sizeOf3
  v3 := Tryz.zeroValue3
  t4 := Tryz.underlying4
  a4 := Tryz.isAgg4
  z4 := Tryz.sizeOf4
  v4 := Tryz.zeroValue4
  t9 := Tryz.underlying9
  a9 := Tryz.isAgg9
  z9 := Tryz.sizeOf9
  v9 := Tryz.zeroValue9
  t37 := Tryz.underlying64
  a37 := Tryz.isAgg64
  z37 := Tryz.sizeOf64
  v37 := Tryz.zeroValue64
  t127 := Tryz.underlying158
  a127 := Tryz.isAgg158
  z127 := Tryz.sizeOf158
  v127 := Tryz.zeroValue158
  t5 := Tryz.underlying5
  a5 := Tryz.isAgg5
  z5 := Tryz.sizeOf5
  v5 := Tryz.zeroValue5
  i0 := by kernel_rfl
  i3 := by kernel_rfl
  i4 := by kernel_rfl
  i5 := by kernel_rfl
  i9 := by kernel_rfl
  i37 := by kernel_rfl
  i127 := by kernel_rfl }
theorem Tryz.repX : Builder.Extra Tryz.prog Tryz.repL_ren := {
  sizeBuilder := by kernel_rfl
  liesBuilder := by kernel_rfl
  t5 := Tryz.underlying5
  a5 := Tryz.isAgg5
  z5 := Tryz.sizeOf5
  v5 := Tryz.zeroValue5
  infoByte := by kernel_rfl
  cellsByte := by kernel_rfl
  sizeByte := by kernel_rfl
  neB5 := by decide }
end Go.Proofs
namespace Go.Proofs.YtbdpmfgphhgigaaGreat
open Go.ChangeShapes Go.WideShapes Go.ChangeAt Go.RowKit Go.Shelf
set_option linter.unusedVariables false
set_option linter.unusedSimpArgs false
set_option maxRecDepth 100000
def zs (n : Nat) : BA := List.replicate n 0
theorem zs_length (n : Nat) : (zs n).length = n := by simp [zs]
theorem repeat_zs : ∀ n : Nat, Lib.repeatL [0] n = zs n
  | 0 => rfl
  | n + 1 => by rw [Lib.repeatL, repeat_zs n]; simp [zs, List.replicate_succ]
theorem repeat_any (n : Nat) (hn : n ≤ 1000) (w : World) : Calls Tryz.prog 23 #[.string ⟨#[0]⟩, .int .i64 n] w fun e w' => e = .returned (.string (str (zs n))) ∧ Below w.heap.size w w' := by
  have h := Any.strings_Repeat Tryz.repL Tryz.repX ⟨#[0]⟩ n w (by omega) (by show 1 * n ≤ _; omega)
  rw [show (ByteArray.mk #[0]).data.toList = [0] from rfl, repeat_zs] at h
  change Calls Tryz.prog 23 _ _ _ at h
  exact h
theorem clone_any (s : ByteArray) (hs : s.size ≤ 281474976710656) (w : World) : Calls Tryz.prog 30 #[.string s] w fun e w' => e = .returned (.string s) ∧ Below w.heap.size w w' := by
  have R := Lib.hid (fun w => Any.stringslite_Clone Tryz.cloL s w hs)
  go_enter Tryz.func30, Tryz.ntmps30
  go_wp2_with fail
  refine (R.out _).mono ?_; rintro e w1 ⟨rfl, hb⟩
  have HB := Lib.hid hb
  clear hb
  go_wp2_with fail
  go_ret
  exact ⟨rfl, HB.out⟩
/-- May a sector have this epoch, this index? -/
def placeB (e i : Int) : Bool := decide (1 ≤ e ∧ e ≤ 4294967295 ∧ 0 ≤ i ∧ i ≤ 65535)
theorem u64_in {x : Int} (h0 : 0 ≤ x) (h1 : x ≤ 9223372036854775807) : IntKind.u64.wrap x = x := by
  unfold IntKind.wrap
  simp [IntKind.bits, IntKind.signed]
  omega
theorem place_any (e i : Int) (he : rng e) (w : World) : Calls Tryz.prog 21 #[.int .i64 e, .int .i64 i] w fun r w' => r = .returned (.bool (placeB e i)) ∧ w = w' := by
  obtain ⟨hr0, hr1⟩ := he
  unfold placeB
  by_cases h1 : 0 < e
  · have hu := u64_in (by omega) hr1
    by_cases h2 : e ≤ 4294967295
    · by_cases h3 : 0 ≤ i
      · by_cases h4 : i ≤ 65535
        · rw [decide_eq_true (p := _ ∧ _) ⟨by omega, h2, h3, h4⟩]
          go_enter Tryz.func21, Tryz.ntmps21
          go_wp2_with fail
          go_ret
          exact ⟨rfl, rfl⟩
        · rw [decide_eq_false (p := _ ∧ _) (fun h => h4 h.2.2.2)]
          go_enter Tryz.func21, Tryz.ntmps21
          go_wp2_with fail
          go_ret
          exact ⟨rfl, rfl⟩
      · rw [decide_eq_false (p := _ ∧ _) (fun h => h3 h.2.2.1)]
        go_enter Tryz.func21, Tryz.ntmps21
        go_wp2_with fail
        go_ret
        exact ⟨rfl, rfl⟩
    · rw [decide_eq_false (p := _ ∧ _) (fun h => h2 h.2.1)]
      go_enter Tryz.func21, Tryz.ntmps21
      go_wp2_with fail
      go_ret
      exact ⟨rfl, rfl⟩
  · rw [decide_eq_false (p := _ ∧ _) (fun h => h1 (by omega))]
    go_enter Tryz.func21, Tryz.ntmps21
    go_wp2_with fail
    go_ret
    exact ⟨rfl, rfl⟩
theorem flagX_toNat (f : Bool) : ((flagX f).toNat : Int) = if f then 2 else 1 := by cases f <;> rfl
theorem mark_any (f : Bool) (w : World) : Calls Tryz.prog 22 #[.bool f] w fun r w' => r = .returned (.int .u8 ((flagX f).toNat : Int)) ∧ w = w' := by
  cases f with
  | true =>
    go_enter Tryz.func22, Tryz.ntmps22
    go_wp2_with fail
    go_ret
    exact ⟨rfl, rfl⟩
  | false =>
    go_enter Tryz.func22, Tryz.ntmps22
    go_wp2_with fail
    go_ret
    exact ⟨rfl, rfl⟩
/-- A sector as the program holds it. -/
def sv (x : Sx) : Value := .agg #[.int .i64 x.ep, .int .i64 x.ix, .bool x.fr, .string (str x.pl)]
def svs (x : Sx) : Array Value := #[.int .i64 x.ep, .int .i64 x.ix, .bool x.fr, .string (str x.pl)]
def Sb (w : World) (B : Nat) (x : Sx) : Prop := Bx w B (svs x) 23
theorem Sb.new (w : World) (x : Sx) : Sb (w.alloc (.cells #[.int .i64 x.ep, .int .i64 x.ix, .bool x.fr, .string (str x.pl)] 23)) w.heap.size x := Bx.new _ _ _
theorem Sb.cells {w : World} {B : Nat} {x : Sx} (h : Sb w B x) : w.cell? ⟨B, 0, none⟩ = some (.int .i64 x.ep) ∧ w.cell? ⟨B, 1, none⟩ = some (.int .i64 x.ix) ∧ w.cell? ⟨B, 2, none⟩ = some (.bool x.fr) ∧ w.cell? ⟨B, 3, none⟩ = some (.string (str x.pl)) :=
  ⟨Bx.cell h 0, Bx.cell h 1, Bx.cell h 2, Bx.cell h 3⟩
theorem Sb.free {w : World} {B : Nat} {x : Sx} (h : Sb w B x) : w.frozen? ⟨B, 0, none⟩ = false ∧ w.frozen? ⟨B, 1, none⟩ = false ∧ w.frozen? ⟨B, 2, none⟩ = false ∧ w.frozen? ⟨B, 3, none⟩ = false :=
  ⟨Bx.free h 0, Bx.free h 1, Bx.free h 2, Bx.free h 3⟩
theorem Sb.kept {w w' : World} {B C : Nat} {x : Sx} (h : Sb w B x) (hb : Below C w w') (hB : B < C) : Sb w' B x := Bx.kept h hb hB
theorem Sb.held {w w' : World} {B : Nat} {x : Sx} (h : Sb w B x) (hb : Below w.heap.size w w') : Sb w' B x := Bx.held h hb
/-- May x stand behind a sector of epoch p? -/
def folB (x y : Sx) : Bool := decide (y.ep ≤ x.ep) && (x.fr || decide (x.ep = y.ep))
set_option maxHeartbeats 1000000 in
theorem follows_any (x y : Sx) (w : World) : Calls Tryz.prog 84 #[sv x, sv y] w fun r w' => r = .returned (.bool (folB x y)) ∧ Below w.heap.size w w' := by
  obtain ⟨e, i, f, p⟩ := x
  obtain ⟨e2, i2, f2, p2⟩ := y
  unfold sv folB
  dsimp only
  have HB := Lib.hid ((((Below.refl w.heap.size w).alloc (Nat.le_refl _) (.cells #[.int .i64 e, .int .i64 i, .bool f, .string (str p)] 23)).alloc (by simp) (.cells #[.int .i64 e2, .int .i64 i2, .bool f2, .string (str p2)] 23)))
  generalize str p = s at *
  generalize str p2 = s2 at *
  by_cases h1 : e2 ≤ e
  · rw [decide_eq_true h1]
    cases f with
    | true =>
      go_enter Tryz.func84, Tryz.ntmps84
      go_wp2_with fail
      go_ret
      exact ⟨rfl, HB.out⟩
    | false =>
      by_cases h2 : e = e2
      · rw [decide_eq_true h2]
        have h3 : (e == e2) = true := by rw [beq_iff_eq]; exact h2
        clear h2
        go_enter Tryz.func84, Tryz.ntmps84
        go_wp2_with fail
        go_ret
        exact ⟨rfl, HB.out⟩
      · rw [decide_eq_false h2]
        have h3 : (e == e2) = false := by rw [beq_eq_false_iff_ne]; exact h2
        go_enter Tryz.func84, Tryz.ntmps84
        go_wp2_with fail
        go_ret
        exact ⟨rfl, HB.out⟩
  · rw [decide_eq_false h1]
    go_enter Tryz.func84, Tryz.ntmps84
    go_wp2_with fail
    go_ret
    exact ⟨rfl, HB.out⟩
/-! Numbers out of bytes. -/
theorem num_take (m : BA) (k : Nat) (hk : k < m.length) : num (m.take (k + 1)) = num (m.take k) * 256 + m[k].toNat := by
  rw [List.take_succ_eq_append_getElem hk, num_snoc]
theorem or64 (a b : Nat) (ha : a < 16777216) (hb : b < 256) : bits .or .i64 ((a : Int) * 256) (b : Int) = ((a * 256 + b : Nat) : Int) := by
  have e : ∀ a : Nat, a < 4294967296 → (BitVec.ofInt 64 (a : Int)).toNat = a := fun a h => by
    rw [BitVec.toNat_ofInt]; omega
  show IntKind.i64.wrap ((BitVec.ofInt 64 ((a : Int) * 256) ||| BitVec.ofInt 64 (b : Int)).toNat : Int) = _
  rw [show ((a : Int) * 256) = ((a * 256 : Nat) : Int) by omega, BitVec.toNat_or, e _ (by omega), e _ (by omega)]
  have := Nat.two_pow_add_eq_or_of_lt (i := 8) (b := b) hb a
  rw [show a * 256 = 2 ^ 8 * a by omega, ← this]
  exact IntWalk.i64_in _ (by omega)
set_option maxHeartbeats 1000000 in
theorem number_any (m : BA) (hm : m.length ≤ 4) (w : World) : Calls Tryz.prog 29 #[.string (str m)] w fun e w' => e = .returned (.int .i64 (num m : Nat)) ∧ Below w.heap.size w w' := by
  obtain ⟨c, w2, hcv, hcell, hb, hmc, _⟩ := to_bytes w m
  have Hc := Lib.hid hcell
  have Hb := Lib.hid hb
  clear hcell hb
  go_enter Tryz.func29, Tryz.ntmps29
  go_wp2_with fail
  go_loop [3, 5, 9] (fun v _ i => ∃ k : Nat, k ≤ m.length ∧ i = .int .i64 k ∧ v = .int .i64 (num (m.take k) : Nat)) (fun _ _ i => m.length - (intOf i).toNat)
  case atStart => exact ⟨0, Nat.zero_le _, rfl, rfl⟩
  case round =>
    obtain ⟨k, hk, rfl, rfl⟩ := hrel
    have b0 : (0 : Int) ≤ (k : Int) := by omega
    by_cases hlt : k < m.length
    · have hce := Hc.out k hlt
      have hl := num_lt (m.take k) (by simp; omega)
      have hb3 : num (m.take k) < 16777216 := by
        refine Nat.lt_of_lt_of_le hl ?_
        have h3 : (m.take k).length ≤ 3 := by simp; omega
        exact Nat.pow_le_pow_right (by omega) h3
      have hb8 : m[k].toNat < 256 := m[k].toNat_lt
      have Hn := Lib.hid (num_take m k hlt)
      generalize m[k].toNat = b at *
      generalize num (m.take k) = a at *
      have hA : (a : Int) < 16777216 := by omega
      have hB : (b : Int) < 256 := by omega
      have hsh : IntKind.i64.wrap ((a : Int) * 256) = (a : Int) * 256 := IntWalk.i64_in _ (by omega)
      have HO := Lib.hid (or64 a b hb3 hb8)
      clear hl
      go_wp2_with fail
      go_round
      case rel => exact ⟨k + 1, by omega, by go_num, by rw [Hn.out]; exact congrArg (Value.int IntKind.i64) HO.out⟩
      case measure => simp [intOf]; omega
    · have hkm : m.length ≤ k := by omega
      have Hn := Lib.hid (show m.take k = m from List.take_of_length_le hkm)
      go_wp2_with fail
      go_ret
      exact ⟨by show Ending.returned (.int .i64 ((num (m.take k) : Nat) : Int)) = _; rw [Hn.out], Hb.out⟩
end Go.Proofs.YtbdpmfgphhgigaaGreat
