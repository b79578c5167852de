/- Contracts of the functions that the law ValueCounts calls. -/
import Derived.Test.YtjiilfbomcibjaaShelf
import Derived.Test.YtjiilfbomcibjaaRows
import Derived.WalkKit
import Derived.ProofKit
import Derived.OpenShut
import Derived.WalkLawsBesides
import Derived.WalkSpells
import Derived.Outline
import Derived.Deep.QuietTactic
import Derived.BigQuiet
import Derived.Lib.Hide
import Derived.IntWalk
namespace Go.Proofs.Ytjiilfbomcibjaa.counts
open Go.ChangeShapes Go.WideShapes Go.ChangeAt Go.RowKit

/-- A number from 0 to the cap. -/
def cap (n : Int) : Int := if n < 0 then 0 else if 4611686018427387904 < n then 4611686018427387904 else n
theorem cap_bd (n : Int) : 0 ≤ cap n ∧ cap n ≤ 4611686018427387904 := by unfold cap; split <;> (try split) <;> omega

theorem cap_lo (n : Int) (h : n < 0) : cap n = 0 := by unfold cap; rw [if_pos h]
theorem cap_hi (n : Int) (h : 4611686018427387904 < n) : cap n = 4611686018427387904 := by unfold cap; rw [if_neg (by omega), if_pos h]
theorem cap_in (n : Int) (h0 : 0 ≤ n) (h1 : n ≤ 4611686018427387904) : cap n = n := by unfold cap; rw [if_neg (by omega), if_neg (by omega)]
theorem ret_int {k : IntKind} {a b : Int} (h : a = b) : Ending.returned (.int k a) = .returned (.int k b) := by rw [h]

theorem within_any (n : Int) (w : World) : Calls Try.prog 19 #[.int .i64 n] w fun e w' => e = .returned (.int .i64 (cap n)) ∧ w = w' := by
  go_enter Try.func19, Try.ntmps19
  go_wp2
  all_goals (go_ret; exact ⟨ret_int (by unfold cap; omega), rfl⟩)
theorem number_any (n : Int) (w : World) : Calls Try.prog 20 #[.int .i64 n] w fun e w' => e = .returned (.int .i64 (cap n)) ∧ w = w' := by
  go_enter Try.func20, Try.ntmps20
  go_wp2
  all_goals (go_ret; exact ⟨ret_int (by unfold cap; omega), rfl⟩)

/-- The sum, which stays at the cap. -/
def plus (a b : Int) : Int := if 4611686018427387904 - cap b < cap a then 4611686018427387904 else cap a + cap b
theorem plus14 (a b : Int) (w : World) : Calls Try.prog 14 #[.int .i64 a, .int .i64 b] w fun e w' => e = .returned (.int .i64 (plus a b)) ∧ w = w' := by
  obtain ⟨a1, a2⟩ := cap_bd a
  obtain ⟨b1, b2⟩ := cap_bd b
  go_enter Try.func14, Try.ntmps14
  go_wp2_with (go_at_call 19; refine (within_any _ _).mono ?_; rintro e w' ⟨rfl, rfl⟩)
  all_goals (go_ret; exact ⟨ret_int (by unfold plus; omega), rfl⟩)
theorem plus15 (a b : Int) (w : World) : Calls Try.prog 15 #[.int .i64 a, .int .i64 b] w fun e w' => e = .returned (.int .i64 (plus a b)) ∧ w = w' := by
  obtain ⟨a1, a2⟩ := cap_bd a
  obtain ⟨b1, b2⟩ := cap_bd b
  go_enter Try.func15, Try.ntmps15
  go_wp2_with (go_at_call 20; refine (number_any _ _).mono ?_; rintro e w' ⟨rfl, rfl⟩)
  all_goals (go_ret; exact ⟨ret_int (by unfold plus; omega), rfl⟩)
/-- The product, which stays at the cap. -/
def times (a b : Int) : Int := if 4611686018427387904 < cap a * cap b then 4611686018427387904 else cap a * cap b
theorem mul21 (x y : Int) (hx : 0 ≤ x) (hx' : x < 18446744073709551616) (hy : 0 ≤ y) (hy' : y < 18446744073709551616) (w : World) :
    Calls Try.prog 21 #[.int .u64 x, .int .u64 y] w fun e w' => e = .returned (.tuple #[.int .u64 (x * y / 18446744073709551616), .int .u64 (x * y % 18446744073709551616)]) ∧ w = w' := by
  obtain ⟨x, rfl⟩ := Int.eq_ofNat_of_zero_le hx
  obtain ⟨y, rfl⟩ := Int.eq_ofNat_of_zero_le hy
  refine (Try.bits_Mul64 x y (by omega) (by omega) w).mono ?_
  rintro e w' ⟨rfl, rfl⟩
  exact ⟨by simp, rfl⟩
theorem times16 (a b : Int) (w : World) : Calls Try.prog 16 #[.int .i64 a, .int .i64 b] w fun e w' => e = .returned (.int .i64 (times a b)) ∧ w = w' := by
  obtain ⟨a1, a2⟩ := cap_bd a
  obtain ⟨b1, b2⟩ := cap_bd b
  have p0 := Int.mul_nonneg a1 b1
  unfold times
  generalize hA : cap a = A at *
  generalize hB : cap b = B at *
  have HA := Lib.hid hA
  have HB := Lib.hid hB
  clear hA hB
  go_enter Try.func16, Try.ntmps16
  go_wp2_with (first | (go_at_call 19; refine (within_any _ _).mono ?_; rintro e w' ⟨rfl, rfl⟩; (first | rw [HA.out] | rw [HB.out])) | (go_at_call 21; refine (mul21 A B (by omega) (by omega) (by omega) (by omega) _).mono ?_; rintro e w' ⟨rfl, rfl⟩))
  all_goals (go_ret; exact ⟨ret_int (by omega), rfl⟩)
theorem div_cap (A B : Int) (h0 : 0 < B) : (4611686018427387904 : Int) / B < A ↔ 4611686018427387904 < A * B := Int.ediv_lt_iff_lt_mul h0
theorem wrap_in (n : Int) (h : 0 ≤ n) (h' : n ≤ 4611686018427387904) : wrap64 n = n := IntWalk.wrap64_in n ⟨by omega, by omega⟩
theorem times17 (a b : Int) (w : World) : Calls Try.prog 17 #[.int .i64 a, .int .i64 b] w fun e w' => e = .returned (.int .i64 (times a b)) ∧ w = w' := by
  obtain ⟨a1, a2⟩ := cap_bd a
  obtain ⟨b1, b2⟩ := cap_bd b
  have p0 := Int.mul_nonneg a1 b1
  by_cases ha : cap a = 0
  · have ht : times a b = 0 := by unfold times; rw [ha]; simp
    have HT := Lib.hid ht; clear ht
    go_enter Try.func17, Try.ntmps17
    go_wp2_with (go_at_call 20; refine (number_any _ _).mono ?_; rintro e w' ⟨rfl, rfl⟩)
    go_ret
    exact ⟨ret_int HT.out.symm, rfl⟩
  by_cases hb : cap b = 0
  · have ht : times a b = 0 := by unfold times; rw [hb]; simp
    have HT := Lib.hid ht; clear ht
    have ha' : (cap a == 0) = false := by simpa using ha
    go_enter Try.func17, Try.ntmps17
    go_wp2_with (go_at_call 20; refine (number_any _ _).mono ?_; rintro e w' ⟨rfl, rfl⟩)
    go_ret
    exact ⟨ret_int HT.out.symm, rfl⟩
  have ha' : (cap a == 0) = false := by simpa using ha
  have hb' : (cap b == 0) = false := by simpa using hb
  have hpos : 1 ≤ cap b := by omega
  have ht := div_cap (cap a) (cap b) (by omega)
  by_cases hlt : 4611686018427387904 < cap a * cap b
  · have h1 : (4611686018427387904 : Int) / cap b < cap a := ht.2 hlt
    have HT := Lib.hid (show times a b = 4611686018427387904 by unfold times; rw [if_pos hlt])
    clear ht hlt ha hb
    go_enter Try.func17, Try.ntmps17
    go_wp2_with (go_at_call 20; refine (number_any _ _).mono ?_; rintro e w' ⟨rfl, rfl⟩)
    go_ret
    exact ⟨ret_int HT.out.symm, rfl⟩
  · have h1 : ¬ (4611686018427387904 : Int) / cap b < cap a := fun h => hlt (ht.1 h)
    have HT := Lib.hid (show times a b = cap a * cap b by unfold times; rw [if_neg hlt])
    have hP : cap a * cap b ≤ 4611686018427387904 := by omega
    clear ht hlt ha hb
    go_enter Try.func17, Try.ntmps17
    go_wp2_with (go_at_call 20; refine (number_any _ _).mono ?_; rintro e w' ⟨rfl, rfl⟩)
    go_ret
    exact ⟨ret_int HT.out.symm, rfl⟩

/-! The plain arithmetic. -/
theorem cap_self (n : Int) (h0 : 0 ≤ n) (h1 : n ≤ 4611686018427387904) : cap n = n := cap_in n h0 h1
theorem plus_bd (a b : Int) : 0 ≤ plus a b ∧ plus a b ≤ 4611686018427387904 := by
  have := cap_bd a; have := cap_bd b; unfold plus; split <;> omega
theorem times_bd (a b : Int) : 0 ≤ times a b ∧ times a b ≤ 4611686018427387904 := by
  have h := cap_bd a; have h' := cap_bd b; have := Int.mul_nonneg h.1 h'.1; unfold times; split <;> omega
theorem mul_le_of (x y : Int) (hx : 1 ≤ x) (hy : 0 ≤ y) : y ≤ x * y := by
  have := Int.mul_le_mul_of_nonneg_right hx hy; omega
theorem times_of (a b : Int) : times a b = min (cap a * cap b) 4611686018427387904 := by unfold times; split <;> omega
theorem plus_of (a b : Int) : plus a b = min (cap a + cap b) 4611686018427387904 := by unfold plus; split <;> omega
theorem plus_assoc (a b c : Int) : plus a (plus b c) = plus (plus a b) c := by
  have h1 := cap_bd a; have h2 := cap_bd b; have h3 := cap_bd c
  have e1 := cap_in _ (plus_bd b c).1 (plus_bd b c).2
  have e2 := cap_in _ (plus_bd a b).1 (plus_bd a b).2
  rw [plus_of a (plus b c), plus_of (plus a b) c, e1, e2, plus_of a b, plus_of b c]; omega
/-- A product of which a factor is capped. -/
theorem min_mul (x y : Int) (hx : 0 ≤ x) (hy : 0 ≤ y) : min (x * min y 4611686018427387904) 4611686018427387904 = min (x * y) 4611686018427387904 := by
  by_cases h : y ≤ 4611686018427387904
  · rw [show min y 4611686018427387904 = y from Int.min_eq_left h]
  · rw [show min y 4611686018427387904 = 4611686018427387904 from Int.min_eq_right (by omega)]
    by_cases h0 : x = 0
    · rw [h0, Int.zero_mul, Int.zero_mul]
    · have k1 := mul_le_of x 4611686018427387904 (by omega) (by omega)
      have k2 := mul_le_of x y (by omega) hy
      omega
theorem times_assoc (a b c : Int) : times a (times b c) = times (times a b) c := by
  have h1 := cap_bd a; have h2 := cap_bd b; have h3 := cap_bd c
  have e1 := cap_in _ (times_bd b c).1 (times_bd b c).2
  have e2 := cap_in _ (times_bd a b).1 (times_bd a b).2
  rw [times_of a (times b c), times_of (times a b) c, e1, e2, times_of b c, times_of a b, min_mul _ _ h1.1 (Int.mul_nonneg h2.1 h3.1)]
  rw [Int.mul_comm (min _ _), min_mul _ _ h3.1 (Int.mul_nonneg h1.1 h2.1), Int.mul_comm (cap c), Int.mul_assoc]
theorem times_plus (a b c : Int) : times a (plus b c) = plus (times a b) (times a c) := by
  have h1 := cap_bd a; have h2 := cap_bd b; have h3 := cap_bd c
  have e0 := cap_in _ (plus_bd b c).1 (plus_bd b c).2
  have e1 := cap_in _ (times_bd a b).1 (times_bd a b).2
  have e2 := cap_in _ (times_bd a c).1 (times_bd a c).2
  rw [times_of a (plus b c), plus_of (times a b) (times a c), e0, e1, e2, plus_of b c, times_of a b, times_of a c, min_mul _ _ h1.1 (by omega), Int.mul_add]
  have := Int.mul_nonneg h1.1 h2.1; have := Int.mul_nonneg h1.1 h3.1
  omega
end Go.Proofs.Ytjiilfbomcibjaa.counts
