/- Contracts of the products of package value and of the reference. -/
import Derived.Test.YtefelelhgepkeaaGreatDoorNum
namespace Go.Proofs.YtefelelhgepkeaaGreatDoor.V
open Go.ChangeShapes Go.WideShapes Go.ChangeAt Go.RowKit
/-- The absolute value. -/
def mag (n : Int) : Int := if n < 0 then -n else n
theorem mag_bd (n : Int) (h : Fits n) : 0 ≤ mag n ∧ mag n ≤ 9223372036854775808 := by unfold mag Fits at *; split <;> omega
theorem c_mag (n : Int) (h : Fits n) (w : World) : Calls Tryz.prog 139 #[.int .i64 n] w fun e w' => e = .returned (.int .u64 (mag n)) ∧ w = w' := by
  obtain ⟨h1, h2⟩ := h
  by_cases hn : n < 0
  · have e : mag n = -n := if_pos hn
    have E := Lib.hid e; clear e
    go_enter Tryz.func139, Tryz.ntmps139
    go_wp2
    go_ret
    exact ⟨ret_int (by rw [E.out]; simp only [IntKind.wrap_u64]; omega), rfl⟩
  · have e : mag n = n := if_neg hn
    have E := Lib.hid e; clear e
    go_enter Tryz.func139, Tryz.ntmps139
    go_wp2
    go_ret
    exact ⟨ret_int (by rw [E.out]), rfl⟩
theorem mul64 (x y : Int) (hx : 0 ≤ x) (hx' : x ≤ 9223372036854775808) (hy : 0 ≤ y) (hy' : y ≤ 9223372036854775808) (w : World) :
    Calls Tryz.prog 138 #[.int .u64 x, .int .u64 y] w fun e w' => e = .returned (.tuple #[.int .u64 (x * y / 18446744073709551616), .int .u64 (x * y % 18446744073709551616)]) ∧ w = w' := by
  obtain ⟨x, rfl⟩ := Int.eq_ofNat_of_zero_le hx
  obtain ⟨y, rfl⟩ := Int.eq_ofNat_of_zero_le hy
  refine (Tryz.bits_Mul64 x y (by omega) (by omega) w).mono ?_
  rintro e w' ⟨rfl, rfl⟩
  exact ⟨by simp, rfl⟩
/-- The product by the absolute values. -/
theorem mul_pos (a b : Int) (h : (a < 0) ↔ (b < 0)) : a * b = mag a * mag b := by
  unfold mag
  by_cases ha : a < 0
  · rw [if_pos ha, if_pos (h.1 ha), Int.neg_mul_neg]
  · rw [if_neg ha, if_neg (fun hb => ha (h.2 hb))]
theorem mul_neg (a b : Int) (h : ¬ ((a < 0) ↔ (b < 0))) : a * b = -(mag a * mag b) := by
  unfold mag
  by_cases ha : a < 0
  · rw [if_pos ha, if_neg (fun hb => h ⟨fun _ => hb, fun _ => ha⟩), Int.neg_mul, Int.neg_neg]
  · have hb : b < 0 := by
      by_cases hb : b < 0
      · exact hb
      · exact absurd ⟨fun h => absurd h ha, fun h => absurd h hb⟩ h
    rw [if_neg ha, if_pos hb, Int.mul_neg, Int.neg_neg]
set_option maxHeartbeats 400000 in
theorem mul_1 (a b A B : Int) (ha : Fits a) (hb : Fits b) (hA : mag a = A) (hB : mag b = B) (sa : ¬ a < 0) (sb : ¬ b < 0) (w : World) :
    Calls Tryz.prog 127 #[.int .i64 a, .int .i64 b] w fun e w' => e = .returned (exact (A * B)) ∧ w = w' := by
  have bA := mag_bd a ha
  have bB := mag_bd b hb
  rw [hA] at bA; rw [hB] at bB
  obtain ⟨a1, a2⟩ := bA; obtain ⟨b1, b2⟩ := bB
  have p0 := Int.mul_nonneg a1 b1
  have HA := Lib.hid hA
  have HB := Lib.hid hB
  have Ha := Lib.hid ha
  have Hb := Lib.hid hb
  have ea : decide (a < 0) = false := by simpa using sa
  have eb : decide (b < 0) = false := by simpa using sb
  clear hA hB ha hb
  go_enter Tryz.func127, Tryz.ntmps127
  go_wp2_with (first | (go_at_call 139; first | ((with_reducible refine (c_mag a Ha.out _).mono ?_); rintro e w' ⟨rfl, rfl⟩; rw [HA.out]) | ((with_reducible refine (c_mag b Hb.out _).mono ?_); rintro e w' ⟨rfl, rfl⟩; rw [HB.out])) | (go_at_call 138; refine (mul64 A B a1 a2 b1 b2 _).mono ?_; rintro e w' ⟨rfl, rfl⟩))
  all_goals (go_ret2; exact ⟨fin _ _ _ (by (try simp only [and_true]); unfold Fits; (try unfold wrap64); omega), rfl⟩)
set_option maxHeartbeats 400000 in
theorem mul_2 (a b A B : Int) (ha : Fits a) (hb : Fits b) (hA : mag a = A) (hB : mag b = B) (sa : a < 0) (sb : b < 0) (w : World) :
    Calls Tryz.prog 127 #[.int .i64 a, .int .i64 b] w fun e w' => e = .returned (exact (A * B)) ∧ w = w' := by
  have bA := mag_bd a ha
  have bB := mag_bd b hb
  rw [hA] at bA; rw [hB] at bB
  obtain ⟨a1, a2⟩ := bA; obtain ⟨b1, b2⟩ := bB
  have p0 := Int.mul_nonneg a1 b1
  have HA := Lib.hid hA
  have HB := Lib.hid hB
  have Ha := Lib.hid ha
  have Hb := Lib.hid hb
  have ea : decide (a < 0) = true := by simpa using sa
  have eb : decide (b < 0) = true := by simpa using sb
  clear hA hB ha hb
  go_enter Tryz.func127, Tryz.ntmps127
  go_wp2_with (first | (go_at_call 139; first | ((with_reducible refine (c_mag a Ha.out _).mono ?_); rintro e w' ⟨rfl, rfl⟩; rw [HA.out]) | ((with_reducible refine (c_mag b Hb.out _).mono ?_); rintro e w' ⟨rfl, rfl⟩; rw [HB.out])) | (go_at_call 138; refine (mul64 A B a1 a2 b1 b2 _).mono ?_; rintro e w' ⟨rfl, rfl⟩))
  all_goals (go_ret2; exact ⟨fin _ _ _ (by (try simp only [and_true]); unfold Fits; (try unfold wrap64); omega), rfl⟩)
set_option maxHeartbeats 400000 in
theorem mul_3 (a b A B : Int) (ha : Fits a) (hb : Fits b) (hA : mag a = A) (hB : mag b = B) (sa : a < 0) (sb : ¬ b < 0) (w : World) :
    Calls Tryz.prog 127 #[.int .i64 a, .int .i64 b] w fun e w' => e = .returned (exact (-(A * B))) ∧ w = w' := by
  have bA := mag_bd a ha
  have bB := mag_bd b hb
  rw [hA] at bA; rw [hB] at bB
  obtain ⟨a1, a2⟩ := bA; obtain ⟨b1, b2⟩ := bB
  have p0 := Int.mul_nonneg a1 b1
  have HA := Lib.hid hA
  have HB := Lib.hid hB
  have Ha := Lib.hid ha
  have Hb := Lib.hid hb
  have ea : decide (a < 0) = true := by simpa using sa
  have eb : decide (b < 0) = false := by simpa using sb
  clear hA hB ha hb
  go_enter Tryz.func127, Tryz.ntmps127
  go_wp2_with (first | (go_at_call 139; first | ((with_reducible refine (c_mag a Ha.out _).mono ?_); rintro e w' ⟨rfl, rfl⟩; rw [HA.out]) | ((with_reducible refine (c_mag b Hb.out _).mono ?_); rintro e w' ⟨rfl, rfl⟩; rw [HB.out])) | (go_at_call 138; refine (mul64 A B a1 a2 b1 b2 _).mono ?_; rintro e w' ⟨rfl, rfl⟩))
  all_goals (go_ret2; exact ⟨fin _ _ _ (by (try simp only [IntKind.wrap_u64, and_true]); unfold Fits; (try unfold wrap64); omega), rfl⟩)
set_option maxHeartbeats 400000 in
theorem mul_4 (a b A B : Int) (ha : Fits a) (hb : Fits b) (hA : mag a = A) (hB : mag b = B) (sa : ¬ a < 0) (sb : b < 0) (w : World) :
    Calls Tryz.prog 127 #[.int .i64 a, .int .i64 b] w fun e w' => e = .returned (exact (-(A * B))) ∧ w = w' := by
  have bA := mag_bd a ha
  have bB := mag_bd b hb
  rw [hA] at bA; rw [hB] at bB
  obtain ⟨a1, a2⟩ := bA; obtain ⟨b1, b2⟩ := bB
  have p0 := Int.mul_nonneg a1 b1
  have HA := Lib.hid hA
  have HB := Lib.hid hB
  have Ha := Lib.hid ha
  have Hb := Lib.hid hb
  have ea : decide (a < 0) = false := by simpa using sa
  have eb : decide (b < 0) = true := by simpa using sb
  clear hA hB ha hb
  go_enter Tryz.func127, Tryz.ntmps127
  go_wp2_with (first | (go_at_call 139; first | ((with_reducible refine (c_mag a Ha.out _).mono ?_); rintro e w' ⟨rfl, rfl⟩; rw [HA.out]) | ((with_reducible refine (c_mag b Hb.out _).mono ?_); rintro e w' ⟨rfl, rfl⟩; rw [HB.out])) | (go_at_call 138; refine (mul64 A B a1 a2 b1 b2 _).mono ?_; rintro e w' ⟨rfl, rfl⟩))
  all_goals (go_ret2; exact ⟨fin _ _ _ (by (try simp only [IntKind.wrap_u64, and_true]); unfold Fits; (try unfold wrap64); omega), rfl⟩)
theorem c_Mul (a b : Int) (ha : Fits a) (hb : Fits b) (w : World) : Calls Tryz.prog 127 #[.int .i64 a, .int .i64 b] w fun e w' => e = .returned (exact (a * b)) ∧ w = w' := by
  by_cases sa : a < 0
  · by_cases sb : b < 0
    · rw [mul_pos a b ⟨fun _ => sb, fun _ => sa⟩]; exact mul_2 a b _ _ ha hb rfl rfl sa sb w
    · rw [mul_neg a b (fun h => sb (h.1 sa))]; exact mul_3 a b _ _ ha hb rfl rfl sa sb w
  · by_cases sb : b < 0
    · rw [mul_neg a b (fun h => sa (h.2 sb))]; exact mul_4 a b _ _ ha hb rfl rfl sa sb w
    · rw [mul_pos a b ⟨fun h => absurd h sa, fun h => absurd h sb⟩]; exact mul_1 a b _ _ ha hb rfl rfl sa sb w
theorem back_in (a b : Int) (hb0 : b ≠ 0) (h : Fits (a * b)) : (wrap64 (a * b)).tdiv b = a := by
  rw [IntWalk.wrap64_in _ h, Int.mul_tdiv_cancel _ hb0]
theorem back_out (a b : Int) (hb : Fits b) (hb0 : b ≠ 0) (h : ¬ Fits (a * b)) : (wrap64 (a * b)).tdiv b ≠ a := by
  intro e
  have h1 := Int.tmod_add_mul_tdiv (wrap64 (a * b)) b
  rw [e] at h1
  have h2 : ((wrap64 (a * b)).tmod b).natAbs = (wrap64 (a * b)).natAbs % b.natAbs := Int.natAbs_tmod (wrap64 (a * b)) b
  have h3 : (wrap64 (a * b)).natAbs % b.natAbs < b.natAbs := Nat.mod_lt _ (by omega)
  have h4 : b * a = a * b := Int.mul_comm _ _
  rw [h4] at h1
  generalize (wrap64 (a * b)).tmod b = r at *
  have h5 : ∃ q : Int, wrap64 (a * b) = a * b + 18446744073709551616 * q := ⟨-((a * b + 9223372036854775808) / 18446744073709551616), by unfold wrap64; omega⟩
  obtain ⟨q, h5⟩ := h5
  have hw := wrap_fits (a * b)
  generalize wrap64 (a * b) = c at *
  unfold Fits at *
  have h6 : r = 18446744073709551616 * q := by omega
  have h7 : r.natAbs < b.natAbs := by omega
  have h8 : q = 0 := by omega
  subst h8
  omega
theorem r_Mul (a b : Int) (ha : Fits a) (hb : Fits b) (w : World) : Calls Tryz.prog 102 #[.int .i64 a, .int .i64 b] w fun e w' => e = .returned (exact (a * b)) ∧ w = w' := by
  by_cases a0 : a = 0
  · subst a0
    rw [Int.zero_mul, exact_in 0 (by unfold Fits; omega)]
    go_enter Tryz.func102, Tryz.ntmps102
    go_wp2
    go_ret2
    exact ⟨rfl, rfl⟩
  by_cases b0 : b = 0
  · subst b0
    rw [Int.mul_zero, exact_in 0 (by unfold Fits; omega)]
    have a0' : (a == 0) = false := by simpa using a0
    go_enter Tryz.func102, Tryz.ntmps102
    go_wp2
    go_ret2
    exact ⟨rfl, rfl⟩
  by_cases e1 : a = -9223372036854775808 ∧ b = -1
  · obtain ⟨rfl, rfl⟩ := e1
    rw [exact_out _ (by unfold Fits; decide)]
    go_enter Tryz.func102, Tryz.ntmps102
    go_wp2
    go_ret2
    exact ⟨rfl, rfl⟩
  by_cases e2 : a = -1 ∧ b = -9223372036854775808
  · obtain ⟨rfl, rfl⟩ := e2
    rw [exact_out _ (by unfold Fits; decide)]
    go_enter Tryz.func102, Tryz.ntmps102
    go_wp2
    go_ret2
    exact ⟨rfl, rfl⟩
  have a0' : (a == 0) = false := by simpa using a0
  have b0' : (b == 0) = false := by simpa using b0
  by_cases m1 : a = -1
  · subst m1
    have hb1 : (b == -9223372036854775808) = false := by simpa using e2
    have hb2 : -9223372036854775807 ≤ b ∧ b ≤ 9223372036854775807 := by simp at hb1; unfold Fits at hb; omega
    obtain ⟨hb3, hb4⟩ := hb2
    rw [exact_in _ (by unfold Fits; omega)]
    go_enter Tryz.func102, Tryz.ntmps102
    go_wp2
    go_ret2
    exact ⟨rfl, rfl⟩
  have m1' : (a == -1) = false := by simpa using m1
  have hc : Fits ((wrap64 (a * b)).tdiv b) := tdiv_fits _ _ (wrap_fits _) b0 (by
    rintro ⟨h1, rfl⟩
    unfold wrap64 at h1
    unfold Fits at ha
    omega)
  have hw := IntWalk.wrap64_in _ hc
  by_cases hf : Fits (a * b)
  · have h1 : (wrap64 ((wrap64 (a * b)).tdiv b) != a) = false := by rw [hw, back_in a b b0 hf]; simp
    rw [exact_in _ hf]
    have hw2 := Lib.hid (IntWalk.wrap64_in _ hf)
    clear hw hc hf m1
    by_cases m2 : a = -9223372036854775808
    · subst m2
      have hb1 : (b == -1) = false := by simpa using e1
      go_enter Tryz.func102, Tryz.ntmps102
      go_wp2
      go_ret2
      exact ⟨pair_fst hw2.out, rfl⟩
    · have m2' : (a == -9223372036854775808) = false := by simpa using m2
      clear m2
      go_enter Tryz.func102, Tryz.ntmps102
      go_wp2
      go_ret2
      exact ⟨pair_fst hw2.out, rfl⟩
  · have h1 : (wrap64 ((wrap64 (a * b)).tdiv b) != a) = true := by rw [hw]; simpa using back_out a b hb b0 hf
    rw [exact_out _ hf]
    clear hw hc hf m1
    by_cases m2 : a = -9223372036854775808
    · subst m2
      have hb1 : (b == -1) = false := by simpa using e1
      go_enter Tryz.func102, Tryz.ntmps102
      go_wp2
      go_ret2
      exact ⟨rfl, rfl⟩
    · have m2' : (a == -9223372036854775808) = false := by simpa using m2
      clear m2
      go_enter Tryz.func102, Tryz.ntmps102
      go_wp2
      go_ret2
      exact ⟨rfl, rfl⟩
end Go.Proofs.YtefelelhgepkeaaGreatDoor.V
