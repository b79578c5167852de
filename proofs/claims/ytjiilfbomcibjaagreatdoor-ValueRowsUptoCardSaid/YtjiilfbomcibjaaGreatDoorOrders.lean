/- The law ValueOrders returns true for any three values. No condition. -/
import Derived.Test.YtjiilfbomcibjaaGreatDoorAwake
import Derived.Test.YtjiilfbomcibjaaGreatDoorCards
namespace Go.Proofs.YtjiilfbomcibjaaGreatDoor.valueOrders
open Go.ChangeShapes Go.WideShapes Go.ChangeAt Go.RowKit Go.Proofs.YtjiilfbomcibjaaGreatDoor.V Go.Proofs.YtjiilfbomcibjaaGreatDoor.L Go.Joins
theorem laidOut : laidOutB Tryz.prog = true := by kernel_rfl
theorem own : ownKnob Tryz.prog.godebug = none := by kernel_rfl
/-! ### The order, as plain facts -/
theorem cmpI_flip (a b : Int) : cmpI b a = -cmpI a b := by unfold cmpI; split <;> split <;> omega
theorem cmpI_refl (a : Int) : cmpI a a = 0 := by simp [cmpI]
theorem cmpI_3 (a b : Int) : cmpI a b = -1 ∧ a < b ∨ cmpI a b = 0 ∧ a = b ∨ cmpI a b = 1 ∧ b < a := by unfold cmpI; split <;> (try split) <;> omega
theorem cb_flip : ∀ l m : List UInt8, Lib.compareBytes m l = -Lib.compareBytes l m
  | [], [] => rfl
  | [], _ :: _ => rfl
  | _ :: _, [] => rfl
  | a :: l, b :: m => by
    have h := cb_flip l m
    simp only [Lib.compareBytes]
    by_cases h1 : a < b
    · have h2 : ¬ b < a := by rw [UInt8.lt_iff_toNat_lt] at *; omega
      rw [if_neg h2, if_pos h1, if_pos h1]; rfl
    · by_cases h2 : b < a
      · rw [if_pos h2, if_neg h1, if_pos h2]
      · rw [if_neg h2, if_neg h1, if_neg h1, if_neg h2, h]
theorem cb_zero : ∀ l m : List UInt8, Lib.compareBytes l m = 0 ↔ l = m
  | [], [] => by simp [Lib.compareBytes]
  | [], _ :: _ => by simp [Lib.compareBytes]
  | _ :: _, [] => by simp [Lib.compareBytes]
  | a :: l, b :: m => by
    have h := cb_zero l m
    simp only [Lib.compareBytes]
    by_cases h1 : a < b
    · rw [if_pos h1]
      constructor
      · intro h; cases h
      · intro e
        obtain ⟨rfl, -⟩ := List.cons.inj e
        rw [UInt8.lt_iff_toNat_lt] at h1; omega
    · by_cases h2 : b < a
      · rw [if_neg h1, if_pos h2]
        constructor
        · intro h; cases h
        · intro e
          obtain ⟨rfl, -⟩ := List.cons.inj e
          rw [UInt8.lt_iff_toNat_lt] at h2; omega
      · rw [if_neg h1, if_neg h2, h]
        have : a = b := UInt8.toNat.inj (by rw [UInt8.lt_iff_toNat_lt] at *; omega)
        simp [this]
theorem cb_3 (l m : List UInt8) : Lib.compareBytes l m = -1 ∨ Lib.compareBytes l m = 0 ∨ Lib.compareBytes l m = 1 := by
  induction l generalizing m with
  | nil => cases m <;> simp [Lib.compareBytes]
  | cons a l ih =>
    cases m with
    | nil => simp [Lib.compareBytes]
    | cons b m =>
      simp only [Lib.compareBytes]
      split
      · exact .inl rfl
      · split
        · exact .inr (.inr rfl)
        · exact ih m
theorem cb_trans : ∀ l m n : List UInt8, Lib.compareBytes l m ≤ 0 → Lib.compareBytes m n ≤ 0 → Lib.compareBytes l n ≤ 0 ∧ (Lib.compareBytes l n = 0 → Lib.compareBytes l m = 0 ∧ Lib.compareBytes m n = 0)
  | [], [], [] => by simp [Lib.compareBytes]
  | [], [], _ :: _ => by simp [Lib.compareBytes]
  | [], _ :: _, [] => by simp [Lib.compareBytes]
  | [], _ :: _, _ :: _ => by simp [Lib.compareBytes]
  | _ :: _, [], _ => by simp [Lib.compareBytes]
  | _ :: _, _ :: _, [] => by simp [Lib.compareBytes]
  | a :: l, b :: m, c :: n => by
    have h := cb_trans l m n
    simp only [Lib.compareBytes]
    by_cases h1 : a < b
    · rw [if_pos h1]
      by_cases h2 : b < c
      · rw [if_pos h2, if_pos (by rw [UInt8.lt_iff_toNat_lt] at *; omega)]; omega
      · by_cases h3 : c < b
        · rw [if_neg h2, if_pos h3]; omega
        · rw [if_neg h2, if_neg h3, if_pos (by rw [UInt8.lt_iff_toNat_lt] at *; omega)]; omega
    · by_cases h4 : b < a
      · rw [if_neg h1, if_pos h4]; omega
      · rw [if_neg h1, if_neg h4]
        by_cases h2 : b < c
        · rw [if_pos h2, if_pos (by rw [UInt8.lt_iff_toNat_lt] at *; omega)]; omega
        · by_cases h3 : c < b
          · rw [if_neg h2, if_pos h3]; omega
          · rw [if_neg h2, if_neg h3, if_neg (by rw [UInt8.lt_iff_toNat_lt] at *; omega), if_neg (by rw [UInt8.lt_iff_toNat_lt] at *; omega)]
            exact h
theorem cmpT_flip (a b : ByteArray) : cmpT b a = -cmpT a b := cb_flip _ _
theorem cmpT_3 (a b : ByteArray) : cmpT a b = -1 ∨ cmpT a b = 0 ∨ cmpT a b = 1 := cb_3 _ _
theorem cmpT_zero (a b : ByteArray) : cmpT a b = 0 ↔ a = b := by
  unfold cmpT
  rw [cb_zero]
  refine ⟨fun h => ?_, fun h => h ▸ rfl⟩
  obtain ⟨⟨l⟩⟩ := a
  obtain ⟨⟨m⟩⟩ := b
  simp only at h
  rw [h]
theorem cmpT_trans (a b c : ByteArray) (h1 : cmpT a b ≤ 0) (h2 : cmpT b c ≤ 0) : cmpT a c ≤ 0 ∧ (cmpT a c = 0 → cmpT a b = 0 ∧ cmpT b c = 0) := cb_trans _ _ _ h1 h2
theorem cmpI_trans (a b c : Int) (h1 : cmpI a b ≤ 0) (h2 : cmpI b c ≤ 0) : cmpI a c ≤ 0 ∧ (cmpI a c = 0 → cmpI a b = 0 ∧ cmpI b c = 0) := by
  have h3 := cmpI_3 a b
  have h4 := cmpI_3 b c
  have h5 := cmpI_3 a c
  omega
theorem cmpI_zero (a b : Int) : cmpI a b = 0 ↔ a = b := by
  have h3 := cmpI_3 a b
  omega
/-- Two values of one kind compared. -/
def inn (k n : Int) (s : ByteArray) (n' : Int) (s' : ByteArray) : Int :=
  if k = 0 then 0 else if k = 1 ∨ k = 3 then cmpI n n' else if k = 2 then cmpT s s' else if cmpI n n' ≠ 0 then cmpI n n' else cmpT s s'
theorem cmpV_one (k n : Int) (s : ByteArray) (n' : Int) (s' : ByteArray) : cmpV k n s k n' s' = inn k n s n' s' := by unfold cmpV inn; rw [if_neg (by simp)]
theorem cmpV_two (k n : Int) (s : ByteArray) (k' n' : Int) (s' : ByteArray) (h : k ≠ k') : cmpV k n s k' n' s' = cmpI k k' := if_pos h
theorem inn_flip (k n : Int) (s : ByteArray) (n' : Int) (s' : ByteArray) : inn k n' s' n s = -inn k n s n' s' := by
  have h1 := cmpI_flip n n'
  have h2 := cmpT_flip s s'
  unfold inn
  split
  · rfl
  · split
    · exact h1
    · split
      · exact h2
      · rw [h1, h2]
        split <;> split <;> omega
theorem inn_trans (k n : Int) (s : ByteArray) (n' : Int) (s' : ByteArray) (n'' : Int) (s'' : ByteArray) (a : inn k n s n' s' ≤ 0) (b : inn k n' s' n'' s'' ≤ 0) :
    inn k n s n'' s'' ≤ 0 ∧ (inn k n s n'' s'' = 0 → inn k n s n' s' = 0 ∧ inn k n' s' n'' s'' = 0) := by
  have h1 := cmpI_trans n n' n''
  have h2 := cmpT_trans s s' s''
  have g1 := cmpI_3 n n'
  have g2 := cmpI_3 n' n''
  have g3 := cmpI_3 n n''
  unfold inn at *
  by_cases k0 : k = 0
  · simp [k0]
  · by_cases k1 : k = 1 ∨ k = 3
    · simp only [if_neg k0, if_pos k1] at *
      exact h1 a b
    · by_cases k2 : k = 2
      · simp only [if_neg k0, if_neg k1, if_pos k2] at *
        exact h2 a b
      · simp only [if_neg k0, if_neg k1, if_neg k2] at *
        split at a <;> split at b <;> split <;> omega
theorem cmpV_flip (k n : Int) (s : ByteArray) (k' n' : Int) (s' : ByteArray) : cmpV k' n' s' k n s = -cmpV k n s k' n' s' := by
  by_cases h : k = k'
  · subst h; rw [cmpV_one, cmpV_one, inn_flip]
  · rw [cmpV_two _ _ _ _ _ _ h, cmpV_two _ _ _ _ _ _ (Ne.symm h), cmpI_flip]
theorem cmpV_refl (k n : Int) (s : ByteArray) : cmpV k n s k n s = 0 := by
  have := cmpV_flip k n s k n s
  omega
theorem cmpV_trans (k n : Int) (s : ByteArray) (k' n' : Int) (s' : ByteArray) (k'' n'' : Int) (s'' : ByteArray) (a : cmpV k n s k' n' s' ≤ 0) (b : cmpV k' n' s' k'' n'' s'' ≤ 0) :
    cmpV k n s k'' n'' s'' ≤ 0 ∧ (cmpV k n s k'' n'' s'' = 0 → cmpV k n s k' n' s' = 0 ∧ cmpV k' n' s' k'' n'' s'' = 0) := by
  have g1 := cmpI_3 k k'
  have g2 := cmpI_3 k' k''
  have g3 := cmpI_3 k k''
  by_cases h1 : k = k'
  · subst h1
    by_cases h2 : k = k''
    · subst h2
      rw [cmpV_one] at a b
      rw [cmpV_one, cmpV_one, cmpV_one]
      exact inn_trans _ _ _ _ _ _ _ a b
    · rw [cmpV_two _ _ _ _ _ _ h2] at b
      rw [cmpV_two _ _ _ _ _ _ h2]
      omega
  · rw [cmpV_two _ _ _ _ _ _ h1] at a
    by_cases h2 : k' = k''
    · subst h2
      rw [cmpV_two _ _ _ _ _ _ h1]
      omega
    · rw [cmpV_two _ _ _ _ _ _ h2] at b
      rw [cmpV_two _ _ _ _ _ _ (by omega : k ≠ k'')]
      omega
theorem cmpV_bd (k n : Int) (s : ByteArray) (k' n' : Int) (s' : ByteArray) : -1 ≤ cmpV k n s k' n' s' ∧ cmpV k n s k' n' s' ≤ 1 := by
  have h1 := cmpI_3 k k'
  have h2 := cmpI_3 n n'
  have h3 := cmpT_3 s s'
  unfold cmpV
  split
  · omega
  · split
    · omega
    · split
      · omega
      · split
        · omega
        · split <;> omega
theorem empty_of (s : ByteArray) (h : s.toList.isEmpty = true) : s = ⟨#[]⟩ := by
  rw [List.isEmpty_iff] at h
  rw [ByteArray.toList_eq] at h
  exact bytes_inj h
theorem toList_inj (s t : ByteArray) : s.toList = t.toList ↔ s = t := by
  refine ⟨fun h => ?_, fun h => h ▸ rfl⟩
  rw [ByteArray.toList_eq, ByteArray.toList_eq] at h
  exact bytes_inj h
theorem same_of (k n : Int) (s : ByteArray) (k' n' : Int) (s' : ByteArray) (a : valid k n s = true) (b : valid k' n' s' = true) : (cmpV k n s k' n' s' == 0) = same k n s k' n' s' := by
  rw [Bool.eq_iff_iff, beq_iff_eq]
  have hs : same k n s k' n' s' = true ↔ (k = k' ∧ n = n') ∧ s = s' := by simp [same, toList_inj]
  rw [hs]
  constructor
  · intro h
    by_cases hk : k = k'
    · subst hk
      rw [cmpV_one] at h
      unfold inn at h
      unfold valid at a b
      by_cases k0 : k = 0
      · simp only [if_pos k0, Bool.and_eq_true, beq_iff_eq] at a b
        exact ⟨⟨rfl, by omega⟩, by rw [empty_of _ a.2, empty_of _ b.2]⟩
      by_cases k1 : k = 1
      · simp only [if_neg k0, if_pos k1] at a b
        rw [if_neg k0, if_pos (.inl k1), cmpI_zero] at h
        exact ⟨⟨rfl, h⟩, by rw [empty_of _ a, empty_of _ b]⟩
      by_cases k2 : k = 2
      · simp only [if_neg k0, if_neg k1, if_pos k2, Bool.and_eq_true, beq_iff_eq] at a b
        rw [if_neg k0, if_neg (by omega), if_pos k2, cmpT_zero] at h
        exact ⟨⟨rfl, by omega⟩, h⟩
      by_cases k3 : k = 3
      · simp only [if_neg k0, if_neg k1, if_neg k2, if_pos k3, Bool.and_eq_true] at a b
        rw [if_neg k0, if_pos (.inr k3), cmpI_zero] at h
        exact ⟨⟨rfl, h⟩, by rw [empty_of _ a.2, empty_of _ b.2]⟩
      simp only [if_neg k0, if_neg k1, if_neg k2, if_neg k3] at a
      cases a
    · rw [cmpV_two _ _ _ _ _ _ hk, cmpI_zero] at h
      exact absurd h hk
  · rintro ⟨⟨rfl, rfl⟩, rfl⟩
    exact cmpV_refl _ _ _
/-- What Valid and Same say of the first two. -/
def Third (k n : Int) (s : ByteArray) (k' n' : Int) (s' : ByteArray) (x : Int) : Prop :=
  (∀ w, Calls Tryz.prog 15 #[val k n s] w fun e w' => e = .returned (.bool false) ∧ Below w.heap.size w w') ∨
  (((∀ w, Calls Tryz.prog 15 #[val k n s] w fun e w' => e = .returned (.bool true) ∧ Below w.heap.size w w') ∧ ∀ w, Calls Tryz.prog 15 #[val k' n' s'] w fun e w' => e = .returned (.bool false) ∧ Below w.heap.size w w') ∨
   ((∀ w, Calls Tryz.prog 15 #[val k n s] w fun e w' => e = .returned (.bool true) ∧ Below w.heap.size w w') ∧ (∀ w, Calls Tryz.prog 15 #[val k' n' s'] w fun e w' => e = .returned (.bool true) ∧ Below w.heap.size w w') ∧ ∀ w, Calls Tryz.prog 16 #[val k n s, val k' n' s'] w fun e w' => e = .returned (.bool (x == 0)) ∧ Below w.heap.size w w'))
set_option maxHeartbeats 4000000 in
theorem walk_a (k n : Int) (s : ByteArray) (k' n' : Int) (s' : ByteArray) (k'' n'' : Int) (s'' : ByteArray) (x y z : Int)
    (h1 : ∀ w, Calls Tryz.prog 13 #[val k n s, val k' n' s'] w fun e w' => e = .returned (.int .i64 x) ∧ Below w.heap.size w w')
    (h2 : ∀ w, Calls Tryz.prog 13 #[val k' n' s', val k'' n'' s''] w fun e w' => e = .returned (.int .i64 y) ∧ Below w.heap.size w w')
    (h3 : ∀ w, Calls Tryz.prog 13 #[val k n s, val k'' n'' s''] w fun e w' => e = .returned (.int .i64 z) ∧ Below w.heap.size w w')
    (h4 : ∀ w, Calls Tryz.prog 13 #[val k' n' s', val k n s] w fun e w' => e = .returned (.int .i64 (-x)) ∧ Below w.heap.size w w')
    (h5 : ∀ w, Calls Tryz.prog 13 #[val k n s, val k n s] w fun e w' => e = .returned (.int .i64 0) ∧ Below w.heap.size w w') (bx : -1 ≤ x ∧ x ≤ 1)
    (hc : decide (x ≤ 0) = false ∨ (decide (x ≤ 0) = true ∧ decide (y ≤ 0) = false) ∨ (decide (x ≤ 0) = true ∧ decide (y ≤ 0) = true ∧ decide (0 < z) = false ∧ (z == 0) = false) ∨ (x = 0 ∧ y = 0 ∧ z = 0))
    (hv : Third k n s k' n' s' x) (w : World) (E : Env w) :
    Calls Tryz.prog 4 #[val k n s, val k' n' s', val k'' n'' s''] w fun e w' => e = .returned (.bool true) ∧ Below w.heap.size w w' := by
  have H1 := Lib.hid h1; have H2 := Lib.hid h2; have H3 := Lib.hid h3; have H4 := Lib.hid h4; have H5 := Lib.hid h5
  have HC := Lib.hid hc; have HV := Lib.hid hv
  clear h1 h2 h3 h4 h5 hc hv
  go_enter Tryz.func4, Tryz.ntmps4
  go_wp2_with fail
  refine region_far (by kernel_rfl) (by kernel_rfl) ?_
  repeat (go_big_quiet_step ((first | (go_at_call 13; first | (with_reducible exact call_far (H1.out _)) | (with_reducible exact call_far (H2.out _)) | (with_reducible exact call_far (H3.out _)) | (with_reducible exact call_far (H4.out _)) | (with_reducible exact call_far (H5.out _))))))
  refine wpQuiet_nil ?_
  intro w1 hb1
  have E1 := (((E.alloc _).alloc _).alloc _).below hb1
  obtain ⟨hc1, hf1⟩ := bcell hb1
  have z1 : w.heap.size + 1 + 1 < w1.heap.size := Nat.lt_of_lt_of_le (by simp) hb1.size
  have z1' : w.heap.size < w1.heap.size ∧ w.heap.size + 1 < w1.heap.size := by omega
  go_wp2_with fail
  refine (H4.out _).mono ?_
  rintro e w2 ⟨rfl, hb2⟩
  have E2 := E1.below hb2
  obtain ⟨hc2, hf2⟩ := bcell hb2
  have z2 : w.heap.size + 1 + 1 < w2.heap.size := Nat.lt_of_lt_of_le (by omega) hb2.size
  have z2' : w.heap.size < w2.heap.size ∧ w.heap.size + 1 < w2.heap.size := by omega
  go_wp2_with fail
  refine (H5.out _).mono ?_
  rintro e w3 ⟨rfl, hb3⟩
  have E3 := E2.below hb3
  obtain ⟨hc3, hf3⟩ := bcell hb3
  have z3 : w.heap.size + 1 + 1 < w3.heap.size := Nat.lt_of_lt_of_le (by omega) hb3.size
  have z3' : w.heap.size < w3.heap.size ∧ w.heap.size + 1 < w3.heap.size := by omega
  rcases HC.out with q1 | ⟨q1, q2⟩ | ⟨q1, q2, q3, q4⟩ | ⟨rfl, rfl, rfl⟩
  · rcases HV.out with hv | hv | hv
    · have va := hv
      go_wp2_with fail
      refine (va _).mono ?_
      rintro e w4 ⟨rfl, hb4⟩
      have E4 := E3.below hb4
      obtain ⟨hc4, hf4⟩ := bcell hb4
      have z4 : w.heap.size + 1 + 1 < w4.heap.size := Nat.lt_of_lt_of_le (by omega) hb4.size
      have z4' : w.heap.size < w4.heap.size ∧ w.heap.size + 1 < w4.heap.size := by omega
      go_wp2_with fail
      refine (awake _ (by assumption)).mono ?_
      rintro e wz ⟨rfl, hbz⟩
      go_wp2
      go_ret
      exact ⟨rfl, by repeat (first | exact Below.refl _ _ | (refine bel_trans ?_ (by assumption)) | apply bel_alloc | apply Below.drew)⟩
    · obtain ⟨va, vb⟩ := hv
      go_wp2_with fail
      refine (va _).mono ?_
      rintro e w4 ⟨rfl, hb4⟩
      have E4 := E3.below hb4
      obtain ⟨hc4, hf4⟩ := bcell hb4
      have z4 : w.heap.size + 1 + 1 < w4.heap.size := Nat.lt_of_lt_of_le (by omega) hb4.size
      have z4' : w.heap.size < w4.heap.size ∧ w.heap.size + 1 < w4.heap.size := by omega
      go_wp2_with fail
      refine (vb _).mono ?_
      rintro e w5 ⟨rfl, hb5⟩
      have E5 := E4.below hb5
      obtain ⟨hc5, hf5⟩ := bcell hb5
      have z5 : w.heap.size + 1 + 1 < w5.heap.size := Nat.lt_of_lt_of_le (by omega) hb5.size
      have z5' : w.heap.size < w5.heap.size ∧ w.heap.size + 1 < w5.heap.size := by omega
      go_wp2_with fail
      refine (awake _ (by assumption)).mono ?_
      rintro e wz ⟨rfl, hbz⟩
      go_wp2
      go_ret
      exact ⟨rfl, by repeat (first | exact Below.refl _ _ | (refine bel_trans ?_ (by assumption)) | apply bel_alloc | apply Below.drew)⟩
    · obtain ⟨va, vb, vs⟩ := hv
      go_wp2_with fail
      refine (va _).mono ?_
      rintro e w4 ⟨rfl, hb4⟩
      have E4 := E3.below hb4
      obtain ⟨hc4, hf4⟩ := bcell hb4
      have z4 : w.heap.size + 1 + 1 < w4.heap.size := Nat.lt_of_lt_of_le (by omega) hb4.size
      have z4' : w.heap.size < w4.heap.size ∧ w.heap.size + 1 < w4.heap.size := by omega
      go_wp2_with fail
      refine (vb _).mono ?_
      rintro e w5 ⟨rfl, hb5⟩
      have E5 := E4.below hb5
      obtain ⟨hc5, hf5⟩ := bcell hb5
      have z5 : w.heap.size + 1 + 1 < w5.heap.size := Nat.lt_of_lt_of_le (by omega) hb5.size
      have z5' : w.heap.size < w5.heap.size ∧ w.heap.size + 1 < w5.heap.size := by omega
      go_wp2_with fail
      refine (vs _).mono ?_
      rintro e w6 ⟨rfl, hb6⟩
      have E6 := E5.below hb6
      obtain ⟨hc6, hf6⟩ := bcell hb6
      have z6 : w.heap.size + 1 + 1 < w6.heap.size := Nat.lt_of_lt_of_le (by omega) hb6.size
      have z6' : w.heap.size < w6.heap.size ∧ w.heap.size + 1 < w6.heap.size := by omega
      go_wp2_with fail
      refine (awake _ (by assumption)).mono ?_
      rintro e wz ⟨rfl, hbz⟩
      go_wp2
      go_ret
      exact ⟨rfl, by repeat (first | exact Below.refl _ _ | (refine bel_trans ?_ (by assumption)) | apply bel_alloc | apply Below.drew)⟩
  · rcases HV.out with hv | hv | hv
    · have va := hv
      go_wp2_with fail
      refine (va _).mono ?_
      rintro e w4 ⟨rfl, hb4⟩
      have E4 := E3.below hb4
      obtain ⟨hc4, hf4⟩ := bcell hb4
      have z4 : w.heap.size + 1 + 1 < w4.heap.size := Nat.lt_of_lt_of_le (by omega) hb4.size
      have z4' : w.heap.size < w4.heap.size ∧ w.heap.size + 1 < w4.heap.size := by omega
      go_wp2_with fail
      refine (awake _ (by assumption)).mono ?_
      rintro e wz ⟨rfl, hbz⟩
      go_wp2
      go_ret
      exact ⟨rfl, by repeat (first | exact Below.refl _ _ | (refine bel_trans ?_ (by assumption)) | apply bel_alloc | apply Below.drew)⟩
    · obtain ⟨va, vb⟩ := hv
      go_wp2_with fail
      refine (va _).mono ?_
      rintro e w4 ⟨rfl, hb4⟩
      have E4 := E3.below hb4
      obtain ⟨hc4, hf4⟩ := bcell hb4
      have z4 : w.heap.size + 1 + 1 < w4.heap.size := Nat.lt_of_lt_of_le (by omega) hb4.size
      have z4' : w.heap.size < w4.heap.size ∧ w.heap.size + 1 < w4.heap.size := by omega
      go_wp2_with fail
      refine (vb _).mono ?_
      rintro e w5 ⟨rfl, hb5⟩
      have E5 := E4.below hb5
      obtain ⟨hc5, hf5⟩ := bcell hb5
      have z5 : w.heap.size + 1 + 1 < w5.heap.size := Nat.lt_of_lt_of_le (by omega) hb5.size
      have z5' : w.heap.size < w5.heap.size ∧ w.heap.size + 1 < w5.heap.size := by omega
      go_wp2_with fail
      refine (awake _ (by assumption)).mono ?_
      rintro e wz ⟨rfl, hbz⟩
      go_wp2
      go_ret
      exact ⟨rfl, by repeat (first | exact Below.refl _ _ | (refine bel_trans ?_ (by assumption)) | apply bel_alloc | apply Below.drew)⟩
    · obtain ⟨va, vb, vs⟩ := hv
      go_wp2_with fail
      refine (va _).mono ?_
      rintro e w4 ⟨rfl, hb4⟩
      have E4 := E3.below hb4
      obtain ⟨hc4, hf4⟩ := bcell hb4
      have z4 : w.heap.size + 1 + 1 < w4.heap.size := Nat.lt_of_lt_of_le (by omega) hb4.size
      have z4' : w.heap.size < w4.heap.size ∧ w.heap.size + 1 < w4.heap.size := by omega
      go_wp2_with fail
      refine (vb _).mono ?_
      rintro e w5 ⟨rfl, hb5⟩
      have E5 := E4.below hb5
      obtain ⟨hc5, hf5⟩ := bcell hb5
      have z5 : w.heap.size + 1 + 1 < w5.heap.size := Nat.lt_of_lt_of_le (by omega) hb5.size
      have z5' : w.heap.size < w5.heap.size ∧ w.heap.size + 1 < w5.heap.size := by omega
      go_wp2_with fail
      refine (vs _).mono ?_
      rintro e w6 ⟨rfl, hb6⟩
      have E6 := E5.below hb6
      obtain ⟨hc6, hf6⟩ := bcell hb6
      have z6 : w.heap.size + 1 + 1 < w6.heap.size := Nat.lt_of_lt_of_le (by omega) hb6.size
      have z6' : w.heap.size < w6.heap.size ∧ w.heap.size + 1 < w6.heap.size := by omega
      go_wp2_with fail
      refine (awake _ (by assumption)).mono ?_
      rintro e wz ⟨rfl, hbz⟩
      go_wp2
      go_ret
      exact ⟨rfl, by repeat (first | exact Below.refl _ _ | (refine bel_trans ?_ (by assumption)) | apply bel_alloc | apply Below.drew)⟩
  · rcases HV.out with hv | hv | hv
    · have va := hv
      go_wp2_with fail
      refine (va _).mono ?_
      rintro e w4 ⟨rfl, hb4⟩
      have E4 := E3.below hb4
      obtain ⟨hc4, hf4⟩ := bcell hb4
      have z4 : w.heap.size + 1 + 1 < w4.heap.size := Nat.lt_of_lt_of_le (by omega) hb4.size
      have z4' : w.heap.size < w4.heap.size ∧ w.heap.size + 1 < w4.heap.size := by omega
      go_wp2_with fail
      refine (awake _ (by assumption)).mono ?_
      rintro e wz ⟨rfl, hbz⟩
      go_wp2
      go_ret
      exact ⟨rfl, by repeat (first | exact Below.refl _ _ | (refine bel_trans ?_ (by assumption)) | apply bel_alloc | apply Below.drew)⟩
    · obtain ⟨va, vb⟩ := hv
      go_wp2_with fail
      refine (va _).mono ?_
      rintro e w4 ⟨rfl, hb4⟩
      have E4 := E3.below hb4
      obtain ⟨hc4, hf4⟩ := bcell hb4
      have z4 : w.heap.size + 1 + 1 < w4.heap.size := Nat.lt_of_lt_of_le (by omega) hb4.size
      have z4' : w.heap.size < w4.heap.size ∧ w.heap.size + 1 < w4.heap.size := by omega
      go_wp2_with fail
      refine (vb _).mono ?_
      rintro e w5 ⟨rfl, hb5⟩
      have E5 := E4.below hb5
      obtain ⟨hc5, hf5⟩ := bcell hb5
      have z5 : w.heap.size + 1 + 1 < w5.heap.size := Nat.lt_of_lt_of_le (by omega) hb5.size
      have z5' : w.heap.size < w5.heap.size ∧ w.heap.size + 1 < w5.heap.size := by omega
      go_wp2_with fail
      refine (awake _ (by assumption)).mono ?_
      rintro e wz ⟨rfl, hbz⟩
      go_wp2
      go_ret
      exact ⟨rfl, by repeat (first | exact Below.refl _ _ | (refine bel_trans ?_ (by assumption)) | apply bel_alloc | apply Below.drew)⟩
    · obtain ⟨va, vb, vs⟩ := hv
      go_wp2_with fail
      refine (va _).mono ?_
      rintro e w4 ⟨rfl, hb4⟩
      have E4 := E3.below hb4
      obtain ⟨hc4, hf4⟩ := bcell hb4
      have z4 : w.heap.size + 1 + 1 < w4.heap.size := Nat.lt_of_lt_of_le (by omega) hb4.size
      have z4' : w.heap.size < w4.heap.size ∧ w.heap.size + 1 < w4.heap.size := by omega
      go_wp2_with fail
      refine (vb _).mono ?_
      rintro e w5 ⟨rfl, hb5⟩
      have E5 := E4.below hb5
      obtain ⟨hc5, hf5⟩ := bcell hb5
      have z5 : w.heap.size + 1 + 1 < w5.heap.size := Nat.lt_of_lt_of_le (by omega) hb5.size
      have z5' : w.heap.size < w5.heap.size ∧ w.heap.size + 1 < w5.heap.size := by omega
      go_wp2_with fail
      refine (vs _).mono ?_
      rintro e w6 ⟨rfl, hb6⟩
      have E6 := E5.below hb6
      obtain ⟨hc6, hf6⟩ := bcell hb6
      have z6 : w.heap.size + 1 + 1 < w6.heap.size := Nat.lt_of_lt_of_le (by omega) hb6.size
      have z6' : w.heap.size < w6.heap.size ∧ w.heap.size + 1 < w6.heap.size := by omega
      go_wp2_with fail
      refine (awake _ (by assumption)).mono ?_
      rintro e wz ⟨rfl, hbz⟩
      go_wp2
      go_ret
      exact ⟨rfl, by repeat (first | exact Below.refl _ _ | (refine bel_trans ?_ (by assumption)) | apply bel_alloc | apply Below.drew)⟩
  · rcases HV.out with hv | hv | hv
    · have va := hv
      go_wp2_with fail
      refine (va _).mono ?_
      rintro e w4 ⟨rfl, hb4⟩
      have E4 := E3.below hb4
      obtain ⟨hc4, hf4⟩ := bcell hb4
      have z4 : w.heap.size + 1 + 1 < w4.heap.size := Nat.lt_of_lt_of_le (by omega) hb4.size
      have z4' : w.heap.size < w4.heap.size ∧ w.heap.size + 1 < w4.heap.size := by omega
      go_wp2_with fail
      refine (awake _ (by assumption)).mono ?_
      rintro e wz ⟨rfl, hbz⟩
      go_wp2
      go_ret
      exact ⟨rfl, by repeat (first | exact Below.refl _ _ | (refine bel_trans ?_ (by assumption)) | apply bel_alloc | apply Below.drew)⟩
    · obtain ⟨va, vb⟩ := hv
      go_wp2_with fail
      refine (va _).mono ?_
      rintro e w4 ⟨rfl, hb4⟩
      have E4 := E3.below hb4
      obtain ⟨hc4, hf4⟩ := bcell hb4
      have z4 : w.heap.size + 1 + 1 < w4.heap.size := Nat.lt_of_lt_of_le (by omega) hb4.size
      have z4' : w.heap.size < w4.heap.size ∧ w.heap.size + 1 < w4.heap.size := by omega
      go_wp2_with fail
      refine (vb _).mono ?_
      rintro e w5 ⟨rfl, hb5⟩
      have E5 := E4.below hb5
      obtain ⟨hc5, hf5⟩ := bcell hb5
      have z5 : w.heap.size + 1 + 1 < w5.heap.size := Nat.lt_of_lt_of_le (by omega) hb5.size
      have z5' : w.heap.size < w5.heap.size ∧ w.heap.size + 1 < w5.heap.size := by omega
      go_wp2_with fail
      refine (awake _ (by assumption)).mono ?_
      rintro e wz ⟨rfl, hbz⟩
      go_wp2
      go_ret
      exact ⟨rfl, by repeat (first | exact Below.refl _ _ | (refine bel_trans ?_ (by assumption)) | apply bel_alloc | apply Below.drew)⟩
    · obtain ⟨va, vb, vs⟩ := hv
      go_wp2_with fail
      refine (va _).mono ?_
      rintro e w4 ⟨rfl, hb4⟩
      have E4 := E3.below hb4
      obtain ⟨hc4, hf4⟩ := bcell hb4
      have z4 : w.heap.size + 1 + 1 < w4.heap.size := Nat.lt_of_lt_of_le (by omega) hb4.size
      have z4' : w.heap.size < w4.heap.size ∧ w.heap.size + 1 < w4.heap.size := by omega
      go_wp2_with fail
      refine (vb _).mono ?_
      rintro e w5 ⟨rfl, hb5⟩
      have E5 := E4.below hb5
      obtain ⟨hc5, hf5⟩ := bcell hb5
      have z5 : w.heap.size + 1 + 1 < w5.heap.size := Nat.lt_of_lt_of_le (by omega) hb5.size
      have z5' : w.heap.size < w5.heap.size ∧ w.heap.size + 1 < w5.heap.size := by omega
      go_wp2_with fail
      refine (vs _).mono ?_
      rintro e w6 ⟨rfl, hb6⟩
      have E6 := E5.below hb6
      obtain ⟨hc6, hf6⟩ := bcell hb6
      have z6 : w.heap.size + 1 + 1 < w6.heap.size := Nat.lt_of_lt_of_le (by omega) hb6.size
      have z6' : w.heap.size < w6.heap.size ∧ w.heap.size + 1 < w6.heap.size := by omega
      go_wp2_with fail
      refine (awake _ (by assumption)).mono ?_
      rintro e wz ⟨rfl, hbz⟩
      go_wp2
      go_ret
      exact ⟨rfl, by repeat (first | exact Below.refl _ _ | (refine bel_trans ?_ (by assumption)) | apply bel_alloc | apply Below.drew)⟩
theorem walk (k n : Int) (s : ByteArray) (k' n' : Int) (s' : ByteArray) (k'' n'' : Int) (s'' : ByteArray) (hk : 0 ≤ k ∧ k ≤ 255) (hk' : 0 ≤ k' ∧ k' ≤ 255) (hk'' : 0 ≤ k'' ∧ k'' ≤ 255)
    (hs : s.size ≤ maxLen) (hs' : s'.size ≤ maxLen) (hs'' : s''.size ≤ maxLen) (w : World) (E : Env w) :
    Calls Tryz.prog 4 #[val k n s, val k' n' s', val k'' n'' s''] w fun e w' => e = .returned (.bool true) ∧ Below w.heap.size w w' := by
  have t := cmpV_trans k n s k' n' s' k'' n'' s''
  have hv : Third k n s k' n' s' (cmpV k n s k' n' s') := by
    cases va : valid k n s with
    | false => exact .inl fun w => va ▸ c_Valid k n s w
    | true =>
      cases vb : valid k' n' s' with
      | false => exact .inr (.inl ⟨fun w => va ▸ c_Valid k n s w, fun w => vb ▸ c_Valid k' n' s' w⟩)
      | true => exact .inr (.inr ⟨fun w => va ▸ c_Valid k n s w, fun w => vb ▸ c_Valid k' n' s' w, fun w => (same_of k n s k' n' s' va vb) ▸ r_Same k n s k' n' s' w⟩)
  refine walk_a k n s k' n' s' k'' n'' s'' (cmpV k n s k' n' s') (cmpV k' n' s' k'' n'' s'') (cmpV k n s k'' n'' s'') (c_Compare _ _ _ _ _ _ hk hk' hs hs') (c_Compare _ _ _ _ _ _ hk' hk'' hs' hs'') (c_Compare _ _ _ _ _ _ hk hk'' hs hs'')
    (fun w => cmpV_flip k n s k' n' s' ▸ c_Compare _ _ _ _ _ _ hk' hk hs' hs w) (fun w => ?_) (cmpV_bd _ _ _ _ _ _) ?_ hv w E
  · have h := c_Compare k n s k n s hk hk hs hs w
    rwa [cmpV_refl] at h
  · generalize cmpV k n s k' n' s' = x at *
    generalize cmpV k' n' s' k'' n'' s'' = y at *
    generalize cmpV k n s k'' n'' s'' = z at *
    by_cases x0 : x ≤ 0
    · by_cases y0 : y ≤ 0
      · have t := t x0 y0
        by_cases z0 : z = 0
        · exact .inr (.inr (.inr ⟨(t.2 z0).1, (t.2 z0).2, z0⟩))
        · exact .inr (.inr (.inl ⟨by simpa using x0, by simpa using y0, by simp; omega, by simpa using z0⟩))
      · exact .inr (.inl ⟨by simpa using x0, by simpa using y0⟩)
    · exact .inl (by simpa using x0)
set_option maxRecDepth 100000 in
theorem lifted (os : Os) (started : os.Started) (H : Type) (enc : TypeId × Value → H) :
    ReturnsInHanded {} Tryz.checked os 4 .any (fun w args => (Rows.valueOrdersSpec.pre enc Tryz.prog Tryz.f4 Rows.valueOrdersRow.domain false w args ∧ laidMetH Tryz.prog laidList w) ∧ sizedMet enc Tryz.prog Tryz.f4 (OpenSpec.ofChange Rows.valueOrdersSpec) false w args)
      (Rows.valueOrdersSpec.post enc Tryz.prog Tryz.f4 false true false false) := by
  refine returnsInHanded_of_change_all (C := Tryz.checked) (X := fun w _ => laidMetH Tryz.prog laidList w) (fun _ _ _ hh h => h.of_heap hh) own started (by kernel_rfl) Tryz.func4
    (ChangeSpec.witness_shaped (enc := enc) (C := Tryz.checked) (os := os) (X := fun w _ => laidMetH Tryz.prog laidList w) false (World.laidAll Tryz.prog os laidList) #[val 0 0 ⟨#[]⟩, val 0 0 ⟨#[]⟩, val 0 0 ⟨#[]⟩] 8 (World.laidAll_os _ _ _)
      (World.shaped_of_ZipB (by kernel_rfl) (by kernel_rfl)) (by kernel_rfl) (by kernel_rfl) (by kernel_rfl)
      (by rw [MakeChecks.laidMetH_plain _ _ _ plainList]; exact laidMet_laidAll _ (by kernel_rfl) (by kernel_rfl))) ?_
  intro W base args ds gs before hval0 hW hcnd _ hL hS _
  have E : Env W := env_of hL hS
  have hval : ∀ (j : Nat) t v, Tryz.f4.params[j]? = some t → args[j]? = some v → Value.okWide Tryz.prog W .any base t v := hval0
  have hW' := hW
  obtain ⟨p, q, hA0, hV, rfl, hfz, hnd⟩ := hW
  have hA : DataW.TrodAll enc Tryz.prog W 0 (fun _ => true) true Tryz.f4.params.toList args.toList ds p := hA0
  rw [Tryz.params4] at hA hval
  obtain ⟨v0, vs0, d0, ds0, p0, q0, hargs, rfl, rfl, h0, r0⟩ := trodAll_cons hA
  obtain ⟨v1, vs1, d1, ds1, p1, q1, rfl, rfl, rfl, h1, r1⟩ := trodAll_cons r0
  obtain ⟨v2, vs2, d2, ds2, p2, q2, rfl, rfl, rfl, h2, r2⟩ := trodAll_cons r1
  obtain ⟨rfl, rfl, rfl⟩ := trodAll_nil r2
  obtain rfl : args = #[v0, v1, v2] := by cases args; simp_all
  obtain ⟨rfl, rfl⟩ := trodVars_none hV
  obtain ⟨k0, n0, s0, rfl, rfl, wk0, wn0, hs0⟩ := open_val (hval 0 24 v0 rfl rfl) h0
  obtain ⟨k1, n1, s1, rfl, rfl, wk1, wn1, hs1⟩ := open_val (hval 1 24 v1 rfl rfl) h1
  obtain ⟨k2, n2, s2, rfl, rfl, wk2, wn2, hs2⟩ := open_val (hval 2 24 v2 rfl rfl) h2
  refine (walk k0 n0 s0 k1 n1 s1 k2 n2 s2 (bounds_u8 wk0) (bounds_u8 wk1) (bounds_u8 wk2) hs0 hs1 hs2 W E).mono fun e W' ⟨he, hb⟩ => ?_
  subst he
  exact ⟨_, rfl, law_post laidOut (by kernel_rfl) rfl Tryz.underlying4 rfl rfl hW' hb⟩

theorem over : Rows.valueOrdersRow.holds Tryz.pinned (OpenSpec.ofChange Rows.valueOrdersSpec) :=
  OpenClaim.holds_of_wide 4 Tryz.f4 rfl rfl rfl rfl rfl rfl rfl ⟨rfl, rfl, rfl, rfl, rfl⟩ rfl rfl rfl rfl rfl (by kernel_rfl) Tryz.func4 (by kernel_rfl)
    (of_decide_eq_true (by kernel_rfl)) (by unfold Func.isWrapper; first | (rw [if_pos (by decide +kernel)]; kernel_rfl) | (rw [if_neg (by decide +kernel)]; exact ⟨rfl, rfl⟩))
    (fun os started H enc _ => lifted os started H enc)
set_option maxRecDepth 100000 in
theorem proved : Rows.ValueOrdersCardSaid :=
  Claim7.holds_tied_plain_at .later [] [.data, .data, .data, .data, .sentinel, .sentinel, .pinned] true (true, "dc76aaaa3d15237a26b491520c5f0f51c4edc92f79f60971654b9608da9ea080") true over (fun _ h => by cases h) (by kernel_rfl) (fun _ h => by cases h) valueOrders_row_tie rfl ⟨rfl, rfl⟩ (by kernel_rfl) rfl
    (fun f fn hf hfn => by
      obtain rfl : f = 4 := Option.some.inj ((show Tryz.prog.funcNamed "jointer/jointerlaw01.ValueOrders" = some 4 by kernel_rfl).symm.trans hf) |>.symm
      obtain rfl : fn = Tryz.f4 := (Option.some.inj (Tryz.func4.symm.trans hfn)).symm
      exact ⟨by kernel_rfl, fun j t ht => by
        rw [Tryz.params4] at ht
        have hm : t ∈ [24, 24, 24] := by simpa using Array.mem_of_getElem? ht
        have hall : ([24, 24, 24].all fun u => !Tryz.prog.wantsStandIn u) = true := by kernel_rfl
        exact (show Tryz.prog.wantsStandIn t = false by simpa using List.all_eq_true.1 hall t hm)⟩)
    (by kernel_rfl)
end Go.Proofs.YtjiilfbomcibjaaGreatDoor.valueOrders
