/- Contracts of the checked arithmetic of package value and of the reference. -/
import Derived.Test.YtefelelhgepkeaaGreatDoorVal
import Derived.Test.YtefelelhgepkeaaGreatDoorShelf
import Derived.Laws.Entries
import Derived.Laws.Bits64
import Derived.IntWalk
namespace Go.Proofs.YtefelelhgepkeaaGreatDoor.V
open Go.ChangeShapes Go.WideShapes Go.ChangeAt Go.RowKit
/-! ### The sign of bitwise operations on integers of 64 bits -/
theorem wrap_toInt (b : BitVec 64) : IntKind.i64.wrap (b.toNat : Int) = b.toInt := by
  have := b.isLt
  simp only [IntKind.wrap, IntKind.bits, IntKind.signed]
  rw [BitVec.toInt_eq_toNat_cond]
  simp only [Bool.true_and, decide_eq_true_eq, show ((2 : Int) ^ (64 - 1)) = 9223372036854775808 from rfl, show ((2 : Int) ^ 64) = 18446744073709551616 from rfl, show (2 ^ 64 : Nat) = 18446744073709551616 from rfl] at *
  split <;> split <;> omega
theorem toInt_neg (b : BitVec 64) : b.toInt < 0 ↔ b.msb = true := by
  rw [BitVec.msb_eq_toInt]; simp
theorem msb_ofInt (x : Int) (h1 : -9223372036854775808 ≤ x) (h2 : x ≤ 9223372036854775807) : (BitVec.ofInt 64 x).msb = decide (x < 0) := by
  rw [BitVec.msb_eq_toInt, BitVec.toInt_ofInt]
  congr 1
  simp [Int.bmod]
  omega
theorem neg_xor (x y : Int) (h1 : -9223372036854775808 ≤ x) (h2 : x ≤ 9223372036854775807) (h3 : -9223372036854775808 ≤ y) (h4 : y ≤ 9223372036854775807) :
    (bits .xor .i64 x y < 0) ↔ ((decide (x < 0)) ≠ decide (y < 0)) := by
  show IntKind.i64.wrap ((BitVec.ofInt 64 x ^^^ BitVec.ofInt 64 y).toNat : Int) < 0 ↔ _
  rw [wrap_toInt, toInt_neg, BitVec.msb_xor, msb_ofInt x h1 h2, msb_ofInt y h3 h4]
  simp
theorem neg_and (x y : Int) (h1 : -9223372036854775808 ≤ x) (h2 : x ≤ 9223372036854775807) (h3 : -9223372036854775808 ≤ y) (h4 : y ≤ 9223372036854775807) :
    (bits .and .i64 x y < 0) ↔ (x < 0 ∧ y < 0) := by
  show IntKind.i64.wrap ((BitVec.ofInt 64 x &&& BitVec.ofInt 64 y).toNat : Int) < 0 ↔ _
  rw [wrap_toInt, toInt_neg, BitVec.msb_and, msb_ofInt x h1 h2, msb_ofInt y h3 h4]
  simp
theorem bits_bd (op : BinOp) (x y : Int) : -9223372036854775808 ≤ bits op .i64 x y ∧ bits op .i64 x y ≤ 9223372036854775807 := bounds_i64 (wf_bits op .i64 x y)
theorem and_xor (a b s : Int) (ha : -9223372036854775808 ≤ a ∧ a ≤ 9223372036854775807) (hb : -9223372036854775808 ≤ b ∧ b ≤ 9223372036854775807) (hs : -9223372036854775808 ≤ s ∧ s ≤ 9223372036854775807) :
    (bits .and .i64 (bits .xor .i64 a s) (bits .xor .i64 b s) < 0) ↔ (decide (a < 0) ≠ decide (s < 0) ∧ decide (b < 0) ≠ decide (s < 0)) := by
  have h1 := bits_bd .xor a s
  have h2 := bits_bd .xor b s
  rw [neg_and _ _ h1.1 h1.2 h2.1 h2.2, neg_xor a s ha.1 ha.2 hs.1 hs.2, neg_xor b s hb.1 hb.2 hs.1 hs.2]
theorem and_xor' (a b s : Int) (ha : -9223372036854775808 ≤ a ∧ a ≤ 9223372036854775807) (hb : -9223372036854775808 ≤ b ∧ b ≤ 9223372036854775807) (hs : -9223372036854775808 ≤ s ∧ s ≤ 9223372036854775807) :
    (bits .and .i64 (bits .xor .i64 a b) (bits .xor .i64 a s) < 0) ↔ (decide (a < 0) ≠ decide (b < 0) ∧ decide (a < 0) ≠ decide (s < 0)) := by
  have h1 := bits_bd .xor a b
  have h2 := bits_bd .xor a s
  rw [neg_and _ _ h1.1 h1.2 h2.1 h2.2, neg_xor a b ha.1 ha.2 hb.1 hb.2, neg_xor a s ha.1 ha.2 hs.1 hs.2]
/-! ### Sums -/
/-- An integer of 64 bits. -/
def Fits (n : Int) : Prop := -9223372036854775808 ≤ n ∧ n ≤ 9223372036854775807
instance (n : Int) : Decidable (Fits n) := inferInstanceAs (Decidable (_ ∧ _))
/-- A number and an error. -/
abbrev pair (n e : Int) : Value := .tuple #[.int .i64 n, .int .i64 e]
/-- The exact number, or ErrOverflow. -/
def exact (n : Int) : Value := if Fits n then pair n 0 else pair 0 4
theorem exact_in (n : Int) (h : Fits n) : exact n = pair n 0 := if_pos h
theorem exact_out (n : Int) (h : ¬ Fits n) : exact n = pair 0 4 := if_neg h
theorem fin (n m e : Int) (h : (Fits n ∧ m = n ∧ e = 0) ∨ (¬ Fits n ∧ m = 0 ∧ e = 4)) : Ending.returned (pair m e) = .returned (exact n) := by
  rcases h with ⟨h, rfl, rfl⟩ | ⟨h, rfl, rfl⟩
  · rw [exact_in _ h]
  · rw [exact_out _ h]
theorem pair_fst {m n e : Int} (h : m = n) : Ending.returned (pair m e) = .returned (pair n e) := by rw [h]
theorem wrap_fits (n : Int) : Fits (wrap64 n) := by unfold Fits wrap64; omega
theorem c_Add (a b : Int) (ha : Fits a) (hb : Fits b) (w : World) : Calls Tryz.prog 126 #[.int .i64 a, .int .i64 b] w fun e w' => e = .returned (exact (a + b)) ∧ w = w' := by
  have hs := wrap_fits (a + b)
  have hx := and_xor a b (wrap64 (a + b)) ha hb hs
  by_cases h : Fits (a + b)
  · rw [exact_in _ h]
    have e : wrap64 (a + b) = a + b := IntWalk.wrap64_in _ h
    rw [e] at hx
    have hn : ¬ bits .and .i64 (bits .xor .i64 a (a + b)) (bits .xor .i64 b (a + b)) < 0 := fun hlt => by
      have hx := hx.1 hlt
      simp at hx
      omega
    obtain ⟨h1, h2⟩ := h
    clear hx e hs
    go_enter Tryz.func126, Tryz.ntmps126
    go_wp2
    go_ret2
    exact ⟨rfl, rfl⟩
  · rw [exact_out _ h]
    have hn : bits .and .i64 (bits .xor .i64 a (wrap64 (a + b))) (bits .xor .i64 b (wrap64 (a + b))) < 0 := by
      refine hx.2 ?_
      unfold Fits at *
      unfold wrap64
      simp
      omega
    clear hx hs h
    go_enter Tryz.func126, Tryz.ntmps126
    go_wp2
    go_ret2
    exact ⟨rfl, rfl⟩
theorem c_Sub (a b : Int) (ha : Fits a) (hb : Fits b) (w : World) : Calls Tryz.prog 125 #[.int .i64 a, .int .i64 b] w fun e w' => e = .returned (exact (a - b)) ∧ w = w' := by
  have hs := wrap_fits (a - b)
  have hx := and_xor' a b (wrap64 (a - b)) ha hb hs
  by_cases h : Fits (a - b)
  · rw [exact_in _ h]
    have e : wrap64 (a - b) = a - b := IntWalk.wrap64_in _ h
    rw [e] at hx
    have hn : ¬ bits .and .i64 (bits .xor .i64 a b) (bits .xor .i64 a (a - b)) < 0 := fun hlt => by
      have hx := hx.1 hlt
      simp at hx
      omega
    obtain ⟨h1, h2⟩ := h
    clear hx e hs
    go_enter Tryz.func125, Tryz.ntmps125
    go_wp2
    go_ret2
    exact ⟨rfl, rfl⟩
  · rw [exact_out _ h]
    have hn : bits .and .i64 (bits .xor .i64 a b) (bits .xor .i64 a (wrap64 (a - b))) < 0 := by
      refine hx.2 ?_
      unfold Fits at *
      unfold wrap64
      simp
      omega
    clear hx hs h
    go_enter Tryz.func125, Tryz.ntmps125
    go_wp2
    go_ret2
    exact ⟨rfl, rfl⟩
theorem r_Add (a b : Int) (ha : Fits a) (hb : Fits b) (w : World) : Calls Tryz.prog 101 #[.int .i64 a, .int .i64 b] w fun e w' => e = .returned (exact (a + b)) ∧ w = w' := by
  have ha' := ha; have hb' := hb
  obtain ⟨a1, a2⟩ := ha; obtain ⟨b1, b2⟩ := hb
  clear ha' hb'
  go_enter Tryz.func101, Tryz.ntmps101
  go_wp2
  all_goals (go_ret2; exact ⟨fin _ _ _ (by unfold Fits wrap64 at *; omega), rfl⟩)
theorem r_Sub (a b : Int) (ha : Fits a) (hb : Fits b) (w : World) : Calls Tryz.prog 100 #[.int .i64 a, .int .i64 b] w fun e w' => e = .returned (exact (a - b)) ∧ w = w' := by
  have ha' := ha; have hb' := hb
  obtain ⟨a1, a2⟩ := ha; obtain ⟨b1, b2⟩ := hb
  clear ha' hb'
  go_enter Tryz.func100, Tryz.ntmps100
  go_wp2
  all_goals (go_ret2; exact ⟨fin _ _ _ (by unfold Fits wrap64 at *; omega), rfl⟩)
/-- The quotient, or an error. -/
def divV (a b : Int) : Value := if b = 0 then pair 0 3 else exact (a.tdiv b)
theorem tdiv_fits (a b : Int) (ha : Fits a) (hb0 : b ≠ 0) (h : ¬ (a = -9223372036854775808 ∧ b = -1)) : Fits (a.tdiv b) := by
  unfold Fits at *
  by_cases h1 : b = -1
  · subst h1; rw [Int.tdiv_neg, Int.tdiv_one]; omega
  by_cases h2 : b = 1
  · subst h2; rw [Int.tdiv_one]; omega
  · have : (a.tdiv b).natAbs = a.natAbs / b.natAbs := Int.natAbs_tdiv a b
    have h3 : a.natAbs / b.natAbs ≤ a.natAbs / 2 := Nat.div_le_div_left (by omega) (by omega)
    omega
theorem c_Div (a b : Int) (ha : Fits a) (hb : Fits b) (w : World) : Calls Tryz.prog 128 #[.int .i64 a, .int .i64 b] w fun e w' => e = .returned (divV a b) ∧ w = w' := by
  by_cases h0 : b = 0
  · rw [show divV a b = pair 0 3 from if_pos h0]
    subst h0
    go_enter Tryz.func128, Tryz.ntmps128
    go_wp2
    go_ret2
    exact ⟨rfl, rfl⟩
  rw [show divV a b = exact (a.tdiv b) from if_neg h0]
  by_cases h1 : a = -9223372036854775808 ∧ b = -1
  · obtain ⟨rfl, rfl⟩ := h1
    rw [show exact ((-9223372036854775808 : Int).tdiv (-1)) = pair 0 4 from exact_out _ (by unfold Fits; decide)]
    go_enter Tryz.func128, Tryz.ntmps128
    go_wp2
    go_ret2
    exact ⟨rfl, rfl⟩
  · have hf := tdiv_fits a b ha h0 h1
    rw [exact_in _ hf]
    have hw := Lib.hid (IntWalk.wrap64_in _ hf)
    have h0' : (b == 0) = false := by simpa using h0
    clear hf
    by_cases hm : a = -9223372036854775808
    · subst hm
      have h1' : (b == -1) = false := by simp; intro h; exact h1 ⟨rfl, h⟩
      have hw2 := Lib.hid (show wrap64 (-(9223372036854775808 : Int).tdiv b) = (-9223372036854775808 : Int).tdiv b by rw [← Int.neg_tdiv]; exact hw.out)
      clear h1
      go_enter Tryz.func128, Tryz.ntmps128
      go_wp2
      go_ret2
      exact ⟨pair_fst hw2.out, rfl⟩
    · have hm' : (a == -9223372036854775808) = false := by simpa using hm
      clear h1 hm
      go_enter Tryz.func128, Tryz.ntmps128
      go_wp2
      go_ret2
      exact ⟨pair_fst hw.out, rfl⟩
theorem r_Div (a b : Int) (ha : Fits a) (hb : Fits b) (w : World) : Calls Tryz.prog 103 #[.int .i64 a, .int .i64 b] w fun e w' => e = .returned (divV a b) ∧ w = w' := by
  by_cases h0 : b = 0
  · rw [show divV a b = pair 0 3 from if_pos h0]
    subst h0
    go_enter Tryz.func103, Tryz.ntmps103
    go_wp2
    go_ret2
    exact ⟨rfl, rfl⟩
  rw [show divV a b = exact (a.tdiv b) from if_neg h0]
  by_cases h1 : a = -9223372036854775808 ∧ b = -1
  · obtain ⟨rfl, rfl⟩ := h1
    rw [show exact ((-9223372036854775808 : Int).tdiv (-1)) = pair 0 4 from exact_out _ (by unfold Fits; decide)]
    go_enter Tryz.func103, Tryz.ntmps103
    go_wp2
    go_ret2
    exact ⟨rfl, rfl⟩
  · have hf := tdiv_fits a b ha h0 h1
    rw [exact_in _ hf]
    have hw := Lib.hid (IntWalk.wrap64_in _ hf)
    have h0' : (b == 0) = false := by simpa using h0
    clear hf
    by_cases hm : a = -9223372036854775808
    · subst hm
      have h1' : (b == -1) = false := by simp; intro h; exact h1 ⟨rfl, h⟩
      have hw2 := Lib.hid (show wrap64 (-(9223372036854775808 : Int).tdiv b) = (-9223372036854775808 : Int).tdiv b by rw [← Int.neg_tdiv]; exact hw.out)
      clear h1
      go_enter Tryz.func103, Tryz.ntmps103
      go_wp2
      go_ret2
      exact ⟨pair_fst hw2.out, rfl⟩
    · have hm' : (a == -9223372036854775808) = false := by simpa using hm
      clear h1 hm
      go_enter Tryz.func103, Tryz.ntmps103
      go_wp2
      go_ret2
      exact ⟨pair_fst hw.out, rfl⟩
/-- The remainder, or an error. -/
def modV (a b : Int) : Value := if b = 0 then pair 0 3 else pair (a.tmod b) 0
theorem tmod_fits (a b : Int) (ha : Fits a) : Fits (a.tmod b) := by
  unfold Fits at *
  by_cases h : 0 ≤ a
  · have h1 := Int.tmod_nonneg b h
    have h2 := Int.natAbs_tmod a b
    have h3 : a.natAbs % b.natAbs ≤ a.natAbs := Nat.mod_le _ _
    omega
  · have h1 := Int.tmod_nonneg b (show 0 ≤ -a by omega)
    have h0 := Int.neg_tmod a b
    have h2 := Int.natAbs_tmod (-a) b
    have h3 : (-a).natAbs % b.natAbs ≤ (-a).natAbs := Nat.mod_le _ _
    omega
theorem c_Mod (a b : Int) (_ : Fits a) (w : World) : Calls Tryz.prog 129 #[.int .i64 a, .int .i64 b] w fun e w' => e = .returned (modV a b) ∧ w = w' := by
  by_cases h0 : b = 0
  · rw [show modV a b = pair 0 3 from if_pos h0]
    subst h0
    go_enter Tryz.func129, Tryz.ntmps129
    go_wp2
    go_ret2
    exact ⟨rfl, rfl⟩
  rw [show modV a b = pair (a.tmod b) 0 from if_neg h0]
  have h0' : (b == 0) = false := by simpa using h0
  go_enter Tryz.func129, Tryz.ntmps129
  go_wp2
  go_ret2
  exact ⟨rfl, rfl⟩
theorem r_Mod (a b : Int) (_ : Fits a) (w : World) : Calls Tryz.prog 104 #[.int .i64 a, .int .i64 b] w fun e w' => e = .returned (modV a b) ∧ w = w' := by
  by_cases h0 : b = 0
  · rw [show modV a b = pair 0 3 from if_pos h0]
    subst h0
    go_enter Tryz.func104, Tryz.ntmps104
    go_wp2
    go_ret2
    exact ⟨rfl, rfl⟩
  rw [show modV a b = pair (a.tmod b) 0 from if_neg h0]
  by_cases h1 : b = -1
  · subst h1
    go_enter Tryz.func104, Tryz.ntmps104
    go_wp2
    go_ret2
    exact ⟨pair_fst (by rw [Int.tmod_neg, Int.tmod_one]), rfl⟩
  have h0' : (b == 0) = false := by simpa using h0
  have h1' : (b == -1) = false := by simpa using h1
  clear h1
  go_enter Tryz.func104, Tryz.ntmps104
  go_wp2
  go_ret2
  exact ⟨rfl, rfl⟩
end Go.Proofs.YtefelelhgepkeaaGreatDoor.V
