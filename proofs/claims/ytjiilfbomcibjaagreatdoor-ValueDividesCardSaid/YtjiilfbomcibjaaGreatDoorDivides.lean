/- The law ValueDivides returns true for any two integers. No condition. -/
import Derived.Test.YtjiilfbomcibjaaGreatDoorAwake
import Derived.Test.YtjiilfbomcibjaaGreatDoorCards
namespace Go.Proofs.YtjiilfbomcibjaaGreatDoor.valueDivides
open Go.ChangeShapes Go.WideShapes Go.ChangeAt Go.RowKit Go.Proofs.YtjiilfbomcibjaaGreatDoor.V Go.Proofs.YtjiilfbomcibjaaGreatDoor.L Go.Joins
open Go.ChangeMaps (open_string)
theorem laidOut : laidOutB Tryz.prog = true := by kernel_rfl
theorem own : ownKnob Tryz.prog.godebug = none := by kernel_rfl
/-- What the division of two integers that have a quotient gives. -/
structure Q (a b q r : Int) : Prop where
  sum : q * b + r = a
  mul : Fits (q * b)
  fit : Fits q
  fir : Fits r
  zero : b ≠ 0
  near : r.natAbs < b.natAbs
  sign : r ≠ 0 → (r < 0 ↔ a < 0)
theorem q_of (a b : Int) (ha : Fits a) (hb : Fits b) (h0 : b ≠ 0) (h : ¬ (a = -9223372036854775808 ∧ b = -1)) : Q a b (a.tdiv b) (a.tmod b) := by
  have hs : a.tdiv b * b + a.tmod b = a := by have := Int.mul_tdiv_add_tmod a b; rw [Int.mul_comm]; exact this
  have hn : (a.tmod b).natAbs < b.natAbs := by rw [Int.natAbs_tmod]; exact Nat.mod_lt _ (by omega)
  have hg : a.tmod b ≠ 0 → (a.tmod b < 0 ↔ a < 0) := by
    intro hr
    by_cases hp : 0 ≤ a
    · have := Int.tmod_nonneg b hp; omega
    · have h1 := Int.tmod_nonneg b (show 0 ≤ -a by omega)
      have h2 := Int.neg_tmod a b
      omega
  have hm : Fits (a.tdiv b * b) := by
    unfold Fits at *
    have h3 : (a.tdiv b * b).natAbs = a.natAbs / b.natAbs * b.natAbs := by rw [Int.natAbs_mul, Int.natAbs_tdiv]; rfl
    have h4 : a.natAbs / b.natAbs * b.natAbs ≤ a.natAbs := Nat.div_mul_le_self _ _
    by_cases hp : 0 ≤ a
    · omega
    · have h5 : a.tmod b ≤ 0 := by
        by_cases hz : a.tmod b = 0
        · omega
        · have := hg hz; omega
      omega
  exact ⟨hs, hm, tdiv_fits a b ha h0 h, tmod_fits a b ha, h0, hn, hg⟩
set_option maxHeartbeats 1000000 in
theorem walk_zero (a : Int) (ha : Fits a) (w : World) (E : Env w) : Calls Tryz.prog 7 #[.int .i64 a, .int .i64 0] w fun e w' => e = .returned (.bool true) ∧ Below w.heap.size w w' := by
  have a4 : ∀ w, Calls Tryz.prog 26 #[.int .i64 a, .int .i64 0] w fun e w' => e = .returned (pair 0 3) ∧ w = w' := fun w => (show divV a 0 = pair 0 3 from if_pos rfl) ▸ c_Div a 0 ha (by unfold Fits; omega) w
  have a5 : ∀ w, Calls Tryz.prog 28 #[.int .i64 a, .int .i64 0] w fun e w' => e = .returned (pair 0 3) ∧ w = w' := fun w => (show modV a 0 = pair 0 3 from if_pos rfl) ▸ c_Mod a 0 ha w
  have A4 := Lib.hid a4; have A5 := Lib.hid a5
  clear a4 a5
  go_enter Tryz.func7, Tryz.ntmps7
  go_wp2_with (first | (go_at_call 26; refine (A4.out _).mono ?_; rintro e w' ⟨rfl, rfl⟩) | (go_at_call 28; refine (A5.out _).mono ?_; rintro e w' ⟨rfl, rfl⟩) | (go_at_call 14; refine (awake _ (by assumption)).mono ?_; rintro e w' ⟨rfl, hb⟩))
  go_ret
  exact ⟨rfl, by assumption⟩
set_option maxRecDepth 20000 in
set_option maxHeartbeats 1000000 in
theorem walk_most (w : World) (E : Env w) : Calls Tryz.prog 7 #[.int .i64 (-9223372036854775808), .int .i64 (-1)] w fun e w' => e = .returned (.bool true) ∧ Below w.heap.size w w' := by
  have a4 : ∀ w, Calls Tryz.prog 26 #[.int .i64 (-9223372036854775808), .int .i64 (-1)] w fun e w' => e = .returned (pair 0 4) ∧ w = w' := fun w => (show divV (-9223372036854775808) (-1) = pair 0 4 by (unfold divV; rw [if_neg (by omega)]; exact if_neg (by decide +kernel))) ▸ c_Div _ _ (by unfold Fits; omega) (by unfold Fits; omega) w
  have a5 : ∀ w, Calls Tryz.prog 28 #[.int .i64 (-9223372036854775808), .int .i64 (-1)] w fun e w' => e = .returned (pair 0 0) ∧ w = w' := fun w => (show modV (-9223372036854775808) (-1) = pair 0 0 by (unfold modV; rw [if_neg (by omega)]; kernel_rfl)) ▸ c_Mod _ _ (by unfold Fits; omega) w
  have A4 := Lib.hid a4; have A5 := Lib.hid a5
  clear a4 a5
  go_enter Tryz.func7, Tryz.ntmps7
  go_wp2_with (first | (go_at_call 26; refine (A4.out _).mono ?_; rintro e w' ⟨rfl, rfl⟩) | (go_at_call 28; refine (A5.out _).mono ?_; rintro e w' ⟨rfl, rfl⟩) | (go_at_call 14; refine (awake _ (by assumption)).mono ?_; rintro e w' ⟨rfl, hb⟩))
  go_ret
  exact ⟨rfl, by assumption⟩
set_option maxHeartbeats 1000000 in
theorem walk_0 (a b q r : Int) (ha : Fits a) (hb : Fits b) (hd : divV a b = pair q 0) (hm : modV a b = pair r 0) (hq : Q a b q r) (w : World) (E : Env w)
    (rb1 : -9223372036854775807 ≤ r) (rb2 : r ≤ 9223372036854775807) (rz : r = 0) : Calls Tryz.prog 7 #[.int .i64 a, .int .i64 b] w fun e w' => e = .returned (.bool true) ∧ Below w.heap.size w w' := by
  have a4 : ∀ w, Calls Tryz.prog 26 #[.int .i64 a, .int .i64 b] w fun e w' => e = .returned (pair q 0) ∧ w = w' := fun w => hd ▸ c_Div a b ha hb w
  have a5 : ∀ w, Calls Tryz.prog 28 #[.int .i64 a, .int .i64 b] w fun e w' => e = .returned (pair r 0) ∧ w = w' := fun w => hm ▸ c_Mod a b ha w
  have a6 : ∀ w, Calls Tryz.prog 24 #[.int .i64 q, .int .i64 b] w fun e w' => e = .returned (pair (q * b) 0) ∧ w = w' := fun w => exact_in _ hq.mul ▸ c_Mul q b hq.fit hb w
  have a7 : ∀ w, Calls Tryz.prog 20 #[.int .i64 (q * b), .int .i64 r] w fun e w' => e = .returned (pair a 0) ∧ w = w' := fun w => by
    have h := c_Add (q * b) r hq.mul hq.fir w
    rwa [hq.sum, exact_in _ ha] at h
  have b0 : (b == 0) = false := by have := hq.zero; simpa using this
  subst rz
  have A4 := Lib.hid a4; have A5 := Lib.hid a5; have A6 := Lib.hid a6; have A7 := Lib.hid a7
  clear a4 a5 a6 a7 hd hm hq
  go_enter Tryz.func7, Tryz.ntmps7
  go_wp2_with (first | (go_at_call 26; refine (A4.out _).mono ?_; rintro e w' ⟨rfl, rfl⟩) | (go_at_call 28; refine (A5.out _).mono ?_; rintro e w' ⟨rfl, rfl⟩) | (go_at_call 24; refine (A6.out _).mono ?_; rintro e w' ⟨rfl, rfl⟩) | (go_at_call 20; refine (A7.out _).mono ?_; rintro e w' ⟨rfl, rfl⟩) | (go_at_call 14; refine (awake _ (by assumption)).mono ?_; rintro e w' ⟨rfl, hb⟩))
  go_ret
  exact ⟨rfl, by assumption⟩
set_option maxHeartbeats 1000000 in
theorem walk_pp (a b q r : Int) (ha : Fits a) (hb : Fits b) (hd : divV a b = pair q 0) (hm : modV a b = pair r 0) (hq : Q a b q r) (w : World) (E : Env w)
    (rb1 : -9223372036854775807 ≤ r) (rb2 : r ≤ 9223372036854775807) (rp : 0 < r) (an : ¬ a < 0) (bp : 0 < b) (rb : r < b) : Calls Tryz.prog 7 #[.int .i64 a, .int .i64 b] w fun e w' => e = .returned (.bool true) ∧ Below w.heap.size w w' := by
  have a4 : ∀ w, Calls Tryz.prog 26 #[.int .i64 a, .int .i64 b] w fun e w' => e = .returned (pair q 0) ∧ w = w' := fun w => hd ▸ c_Div a b ha hb w
  have a5 : ∀ w, Calls Tryz.prog 28 #[.int .i64 a, .int .i64 b] w fun e w' => e = .returned (pair r 0) ∧ w = w' := fun w => hm ▸ c_Mod a b ha w
  have a6 : ∀ w, Calls Tryz.prog 24 #[.int .i64 q, .int .i64 b] w fun e w' => e = .returned (pair (q * b) 0) ∧ w = w' := fun w => exact_in _ hq.mul ▸ c_Mul q b hq.fit hb w
  have a7 : ∀ w, Calls Tryz.prog 20 #[.int .i64 (q * b), .int .i64 r] w fun e w' => e = .returned (pair a 0) ∧ w = w' := fun w => by
    have h := c_Add (q * b) r hq.mul hq.fir w
    rwa [hq.sum, exact_in _ ha] at h
  have b0 : (b == 0) = false := by have := hq.zero; simpa using this
  have e1 : (r == 0) = false := by simp; omega
  have e2 : (r != 0) = true := by simp; omega
  have e3 : decide (r < 0) = false := by simp; omega
  have e4 : decide (a < 0) = false := by simp; omega
  have e5 : decide (0 < r) = true := by simp; omega
  have e6 : decide (0 < b) = true := by simp; omega
  have e7 : decide (r < b) = true := by simp; omega
  have A4 := Lib.hid a4; have A5 := Lib.hid a5; have A6 := Lib.hid a6; have A7 := Lib.hid a7
  clear a4 a5 a6 a7 hd hm hq
  go_enter Tryz.func7, Tryz.ntmps7
  go_wp2_with (first | (go_at_call 26; refine (A4.out _).mono ?_; rintro e w' ⟨rfl, rfl⟩) | (go_at_call 28; refine (A5.out _).mono ?_; rintro e w' ⟨rfl, rfl⟩) | (go_at_call 24; refine (A6.out _).mono ?_; rintro e w' ⟨rfl, rfl⟩) | (go_at_call 20; refine (A7.out _).mono ?_; rintro e w' ⟨rfl, rfl⟩) | (go_at_call 14; refine (awake _ (by assumption)).mono ?_; rintro e w' ⟨rfl, hb⟩))
  go_ret
  exact ⟨rfl, by assumption⟩
set_option maxHeartbeats 1000000 in
theorem walk_pn (a b q r : Int) (ha : Fits a) (hb : Fits b) (hd : divV a b = pair q 0) (hm : modV a b = pair r 0) (hq : Q a b q r) (w : World) (E : Env w)
    (rb1 : -9223372036854775807 ≤ r) (rb2 : r ≤ 9223372036854775807) (rp : 0 < r) (an : ¬ a < 0) (bp : b < 0) (rb : b < -r) : Calls Tryz.prog 7 #[.int .i64 a, .int .i64 b] w fun e w' => e = .returned (.bool true) ∧ Below w.heap.size w w' := by
  have a4 : ∀ w, Calls Tryz.prog 26 #[.int .i64 a, .int .i64 b] w fun e w' => e = .returned (pair q 0) ∧ w = w' := fun w => hd ▸ c_Div a b ha hb w
  have a5 : ∀ w, Calls Tryz.prog 28 #[.int .i64 a, .int .i64 b] w fun e w' => e = .returned (pair r 0) ∧ w = w' := fun w => hm ▸ c_Mod a b ha w
  have a6 : ∀ w, Calls Tryz.prog 24 #[.int .i64 q, .int .i64 b] w fun e w' => e = .returned (pair (q * b) 0) ∧ w = w' := fun w => exact_in _ hq.mul ▸ c_Mul q b hq.fit hb w
  have a7 : ∀ w, Calls Tryz.prog 20 #[.int .i64 (q * b), .int .i64 r] w fun e w' => e = .returned (pair a 0) ∧ w = w' := fun w => by
    have h := c_Add (q * b) r hq.mul hq.fir w
    rwa [hq.sum, exact_in _ ha] at h
  have b0 : (b == 0) = false := by have := hq.zero; simpa using this
  have e1 : (r == 0) = false := by simp; omega
  have e2 : (r != 0) = true := by simp; omega
  have e3 : decide (r < 0) = false := by simp; omega
  have e4 : decide (a < 0) = false := by simp; omega
  have e5 : decide (0 < r) = true := by simp; omega
  have e6 : decide (0 < b) = false := by simp; omega
  have e7 : decide (b < 0) = true := by simp; omega
  have e8 : decide (b < -r) = true := by simp; omega
  have A4 := Lib.hid a4; have A5 := Lib.hid a5; have A6 := Lib.hid a6; have A7 := Lib.hid a7
  clear a4 a5 a6 a7 hd hm hq
  go_enter Tryz.func7, Tryz.ntmps7
  go_wp2_with (first | (go_at_call 26; refine (A4.out _).mono ?_; rintro e w' ⟨rfl, rfl⟩) | (go_at_call 28; refine (A5.out _).mono ?_; rintro e w' ⟨rfl, rfl⟩) | (go_at_call 24; refine (A6.out _).mono ?_; rintro e w' ⟨rfl, rfl⟩) | (go_at_call 20; refine (A7.out _).mono ?_; rintro e w' ⟨rfl, rfl⟩) | (go_at_call 14; refine (awake _ (by assumption)).mono ?_; rintro e w' ⟨rfl, hb⟩))
  go_ret
  exact ⟨rfl, by assumption⟩
set_option maxHeartbeats 1000000 in
theorem walk_np (a b q r : Int) (ha : Fits a) (hb : Fits b) (hd : divV a b = pair q 0) (hm : modV a b = pair r 0) (hq : Q a b q r) (w : World) (E : Env w)
    (rb1 : -9223372036854775807 ≤ r) (rb2 : r ≤ 9223372036854775807) (rp : r < 0) (an : a < 0) (bp : 0 < b) (rb : -r < b) : Calls Tryz.prog 7 #[.int .i64 a, .int .i64 b] w fun e w' => e = .returned (.bool true) ∧ Below w.heap.size w w' := by
  have a4 : ∀ w, Calls Tryz.prog 26 #[.int .i64 a, .int .i64 b] w fun e w' => e = .returned (pair q 0) ∧ w = w' := fun w => hd ▸ c_Div a b ha hb w
  have a5 : ∀ w, Calls Tryz.prog 28 #[.int .i64 a, .int .i64 b] w fun e w' => e = .returned (pair r 0) ∧ w = w' := fun w => hm ▸ c_Mod a b ha w
  have a6 : ∀ w, Calls Tryz.prog 24 #[.int .i64 q, .int .i64 b] w fun e w' => e = .returned (pair (q * b) 0) ∧ w = w' := fun w => exact_in _ hq.mul ▸ c_Mul q b hq.fit hb w
  have a7 : ∀ w, Calls Tryz.prog 20 #[.int .i64 (q * b), .int .i64 r] w fun e w' => e = .returned (pair a 0) ∧ w = w' := fun w => by
    have h := c_Add (q * b) r hq.mul hq.fir w
    rwa [hq.sum, exact_in _ ha] at h
  have b0 : (b == 0) = false := by have := hq.zero; simpa using this
  have e1 : (r == 0) = false := by simp; omega
  have e2 : (r != 0) = true := by simp; omega
  have e3 : decide (r < 0) = true := by simp; omega
  have e4 : decide (a < 0) = true := by simp; omega
  have e5 : decide (0 < r) = false := by simp; omega
  have e6 : decide (0 < b) = true := by simp; omega
  have e7 : decide (-r < b) = true := by simp; omega
  have A4 := Lib.hid a4; have A5 := Lib.hid a5; have A6 := Lib.hid a6; have A7 := Lib.hid a7
  clear a4 a5 a6 a7 hd hm hq
  go_enter Tryz.func7, Tryz.ntmps7
  go_wp2_with (first | (go_at_call 26; refine (A4.out _).mono ?_; rintro e w' ⟨rfl, rfl⟩) | (go_at_call 28; refine (A5.out _).mono ?_; rintro e w' ⟨rfl, rfl⟩) | (go_at_call 24; refine (A6.out _).mono ?_; rintro e w' ⟨rfl, rfl⟩) | (go_at_call 20; refine (A7.out _).mono ?_; rintro e w' ⟨rfl, rfl⟩) | (go_at_call 14; refine (awake _ (by assumption)).mono ?_; rintro e w' ⟨rfl, hb⟩))
  go_ret
  exact ⟨rfl, by assumption⟩
set_option maxHeartbeats 1000000 in
theorem walk_nn (a b q r : Int) (ha : Fits a) (hb : Fits b) (hd : divV a b = pair q 0) (hm : modV a b = pair r 0) (hq : Q a b q r) (w : World) (E : Env w)
    (rb1 : -9223372036854775807 ≤ r) (rb2 : r ≤ 9223372036854775807) (rp : r < 0) (an : a < 0) (bp : b < 0) (rb : b < r) : Calls Tryz.prog 7 #[.int .i64 a, .int .i64 b] w fun e w' => e = .returned (.bool true) ∧ Below w.heap.size w w' := by
  have a4 : ∀ w, Calls Tryz.prog 26 #[.int .i64 a, .int .i64 b] w fun e w' => e = .returned (pair q 0) ∧ w = w' := fun w => hd ▸ c_Div a b ha hb w
  have a5 : ∀ w, Calls Tryz.prog 28 #[.int .i64 a, .int .i64 b] w fun e w' => e = .returned (pair r 0) ∧ w = w' := fun w => hm ▸ c_Mod a b ha w
  have a6 : ∀ w, Calls Tryz.prog 24 #[.int .i64 q, .int .i64 b] w fun e w' => e = .returned (pair (q * b) 0) ∧ w = w' := fun w => exact_in _ hq.mul ▸ c_Mul q b hq.fit hb w
  have a7 : ∀ w, Calls Tryz.prog 20 #[.int .i64 (q * b), .int .i64 r] w fun e w' => e = .returned (pair a 0) ∧ w = w' := fun w => by
    have h := c_Add (q * b) r hq.mul hq.fir w
    rwa [hq.sum, exact_in _ ha] at h
  have b0 : (b == 0) = false := by have := hq.zero; simpa using this
  have e1 : (r == 0) = false := by simp; omega
  have e2 : (r != 0) = true := by simp; omega
  have e3 : decide (r < 0) = true := by simp; omega
  have e4 : decide (a < 0) = true := by simp; omega
  have e5 : decide (0 < r) = false := by simp; omega
  have e6 : decide (0 < b) = false := by simp; omega
  have e7 : decide (b < 0) = true := by simp; omega
  have e8 : decide (b < r) = true := by simp; omega
  have A4 := Lib.hid a4; have A5 := Lib.hid a5; have A6 := Lib.hid a6; have A7 := Lib.hid a7
  clear a4 a5 a6 a7 hd hm hq
  go_enter Tryz.func7, Tryz.ntmps7
  go_wp2_with (first | (go_at_call 26; refine (A4.out _).mono ?_; rintro e w' ⟨rfl, rfl⟩) | (go_at_call 28; refine (A5.out _).mono ?_; rintro e w' ⟨rfl, rfl⟩) | (go_at_call 24; refine (A6.out _).mono ?_; rintro e w' ⟨rfl, rfl⟩) | (go_at_call 20; refine (A7.out _).mono ?_; rintro e w' ⟨rfl, rfl⟩) | (go_at_call 14; refine (awake _ (by assumption)).mono ?_; rintro e w' ⟨rfl, hb⟩))
  go_ret
  exact ⟨rfl, by assumption⟩
theorem walk (a b : Int) (ha : Fits a) (hb : Fits b) (w : World) (E : Env w) : Calls Tryz.prog 7 #[.int .i64 a, .int .i64 b] w fun e w' => e = .returned (.bool true) ∧ Below w.heap.size w w' := by
  by_cases h0 : b = 0
  · subst h0; exact walk_zero a ha w E
  by_cases hx : a = -9223372036854775808 ∧ b = -1
  · obtain ⟨rfl, rfl⟩ := hx; exact walk_most w E
  have hq := q_of a b ha hb h0 hx
  have hd : divV a b = pair (a.tdiv b) 0 := by unfold divV; rw [if_neg h0, exact_in _ hq.fit]
  have hm : modV a b = pair (a.tmod b) 0 := if_neg h0
  generalize a.tdiv b = q at *
  generalize a.tmod b = r at *
  have hn := hq.near
  have hg := hq.sign
  have hf := hb
  unfold Fits at hf
  have r1 : -9223372036854775807 ≤ r := by omega
  have r2 : r ≤ 9223372036854775807 := by omega
  by_cases z : r = 0
  · exact walk_0 a b q r ha hb hd hm hq w E r1 r2 z
  have hg := hg z
  by_cases n : r < 0
  · by_cases p : 0 < b
    · exact walk_np a b q r ha hb hd hm hq w E r1 r2 n (hg.1 n) p (by omega)
    · exact walk_nn a b q r ha hb hd hm hq w E r1 r2 n (hg.1 n) (by omega) (by omega)
  · have an : ¬ a < 0 := fun h => n (hg.2 h)
    by_cases p : 0 < b
    · exact walk_pp a b q r ha hb hd hm hq w E r1 r2 (by omega) an p (by omega)
    · exact walk_pn a b q r ha hb hd hm hq w E r1 r2 (by omega) an (by omega) (by omega)
set_option maxRecDepth 100000 in
theorem lifted (os : Os) (started : os.Started) (H : Type) (enc : TypeId × Value → H) :
    ReturnsInHanded {} Tryz.checked os 7 .any (fun w args => (Rows.valueDividesSpec.pre enc Tryz.prog Tryz.f7 Rows.valueDividesRow.domain false w args ∧ laidMetH Tryz.prog laidList w) ∧ sizedMet enc Tryz.prog Tryz.f7 (OpenSpec.ofChange Rows.valueDividesSpec) false w args)
      (Rows.valueDividesSpec.post enc Tryz.prog Tryz.f7 false true false false) := by
  refine returnsInHanded_of_change_all (C := Tryz.checked) (X := fun w _ => laidMetH Tryz.prog laidList w) (fun _ _ _ hh h => h.of_heap hh) own started (by kernel_rfl) Tryz.func7
    (ChangeSpec.witness_shaped (enc := enc) (C := Tryz.checked) (os := os) (X := fun w _ => laidMetH Tryz.prog laidList w) false (World.laidAll Tryz.prog os laidList) #[.int .i64 0, .int .i64 0] 8 (World.laidAll_os _ _ _)
      (World.shaped_of_ZipB (by kernel_rfl) (by kernel_rfl)) (by kernel_rfl) (by kernel_rfl) (by kernel_rfl)
      (by rw [MakeChecks.laidMetH_plain _ _ _ plainList]; exact laidMet_laidAll _ (by kernel_rfl) (by kernel_rfl))) ?_
  intro W base args ds gs before hval0 hW hcnd _ hL hS _
  have E : Env W := env_of hL hS
  have hval : ∀ (j : Nat) t v, Tryz.f7.params[j]? = some t → args[j]? = some v → Value.okWide Tryz.prog W .any base t v := hval0
  have hW' := hW
  obtain ⟨p, q, hA0, hV, rfl, hfz, hnd⟩ := hW
  have hA : DataW.TrodAll enc Tryz.prog W 0 (fun _ => true) true Tryz.f7.params.toList args.toList ds p := hA0
  rw [Tryz.params7] at hA hval
  obtain ⟨v0, vs0, d0, ds0, p0, q0, hargs, rfl, rfl, h0, r0⟩ := trodAll_cons hA
  obtain ⟨v1, vs1, d1, ds1, p1, q1, rfl, rfl, rfl, h1, r1⟩ := trodAll_cons r0
  obtain ⟨rfl, rfl, rfl⟩ := trodAll_nil r1
  obtain rfl : args = #[v0, v1] := by cases args; simp_all
  obtain ⟨rfl, rfl⟩ := trodVars_none hV
  obtain ⟨n0, rfl, rfl, rfl, wn0⟩ := open_int Tryz.underlying2 (hval 0 2 v0 rfl rfl) h0
  obtain ⟨n1, rfl, rfl, rfl, wn1⟩ := open_int Tryz.underlying2 (hval 1 2 v1 rfl rfl) h1
  refine (walk n0 n1 (bounds_i64 wn0) (bounds_i64 wn1) W E).mono fun e W' ⟨he, hb⟩ => ?_
  subst he
  exact ⟨_, rfl, law_post laidOut (by kernel_rfl) rfl Tryz.underlying4 rfl rfl hW' hb⟩

theorem over : Rows.valueDividesRow.holds Tryz.pinned (OpenSpec.ofChange Rows.valueDividesSpec) :=
  OpenClaim.holds_of_wide 7 Tryz.f7 rfl rfl rfl rfl rfl rfl rfl ⟨rfl, rfl, rfl, rfl, rfl⟩ rfl rfl rfl rfl rfl (by kernel_rfl) Tryz.func7 (by kernel_rfl)
    (of_decide_eq_true (by kernel_rfl)) (by unfold Func.isWrapper; first | (rw [if_pos (by decide +kernel)]; kernel_rfl) | (rw [if_neg (by decide +kernel)]; exact ⟨rfl, rfl⟩))
    (fun os started H enc _ => lifted os started H enc)
set_option maxRecDepth 100000 in
theorem proved : Rows.ValueDividesCardSaid :=
  Claim7.holds_tied_plain_at .later [] [.data, .data, .data, .data, .sentinel, .sentinel, .pinned] true (true, "dc76aaaa3d15237a26b491520c5f0f51c4edc92f79f60971654b9608da9ea080") true over (fun _ h => by cases h) (by kernel_rfl) (fun _ h => by cases h) valueDivides_row_tie rfl ⟨rfl, rfl⟩ (by kernel_rfl) rfl
    (fun f fn hf hfn => by
      obtain rfl : f = 7 := Option.some.inj ((show Tryz.prog.funcNamed "jointer/jointerlaw01.ValueDivides" = some 7 by kernel_rfl).symm.trans hf) |>.symm
      obtain rfl : fn = Tryz.f7 := (Option.some.inj (Tryz.func7.symm.trans hfn)).symm
      exact ⟨by kernel_rfl, fun j t ht => by
        rw [Tryz.params7] at ht
        have hm : t ∈ [2, 2] := by simpa using Array.mem_of_getElem? ht
        have hall : ([2, 2].all fun u => !Tryz.prog.wantsStandIn u) = true := by kernel_rfl
        exact (show Tryz.prog.wantsStandIn t = false by simpa using List.all_eq_true.1 hall t hm)⟩)
    (by kernel_rfl)
end Go.Proofs.YtjiilfbomcibjaaGreatDoor.valueDivides
