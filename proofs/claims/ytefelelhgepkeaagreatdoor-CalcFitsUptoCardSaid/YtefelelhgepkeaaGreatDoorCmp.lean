/- Contracts of the comparisons of package value and of the reference. -/
import Derived.Test.YtefelelhgepkeaaGreatDoorNum
import Derived.LoopTactic
import Derived.Deep.LoopGhost
namespace Go.Proofs.YtefelelhgepkeaaGreatDoor.V
open Go.ChangeShapes Go.WideShapes Go.ChangeAt Go.RowKit
/-- Two integers compared. -/
def cmpI (a b : Int) : Int := if a < b then -1 else if b < a then 1 else 0
theorem r_ints (a b : Int) (w : World) : Calls Tryz.prog 118 #[.int .i64 a, .int .i64 b] w fun e w' => e = .returned (.int .i64 (cmpI a b)) ∧ w = w' := by
  go_enter Tryz.func118, Tryz.ntmps118
  go_wp2
  all_goals (go_ret; exact ⟨ret_int (by unfold cmpI; omega), rfl⟩)
theorem l_cmp64 (a b : Int) (w : World) : Calls Tryz.prog 121 #[.int .i64 a, .int .i64 b] w fun e w' => e = .returned (.int .i64 (cmpI a b)) ∧ w = w' := by
  go_enter Tryz.func121, Tryz.ntmps121
  go_wp2
  all_goals (go_ret; exact ⟨ret_int (by unfold cmpI; omega), rfl⟩)
theorem l_cmpK (a b : Int) (w : World) : Calls Tryz.prog 120 #[.int .u8 a, .int .u8 b] w fun e w' => e = .returned (.int .i64 (cmpI a b)) ∧ w = w' := by
  go_enter Tryz.func120, Tryz.ntmps120
  go_wp2
  all_goals (go_ret; exact ⟨ret_int (by unfold cmpI; omega), rfl⟩)
/-- Two texts compared. -/
def cmpT (a b : ByteArray) : Int := Lib.compareBytes a.data.toList b.data.toList
theorem l_strings (a b : ByteArray) (w : World) : Calls Tryz.prog 122 #[.string a, .string b] w fun e w' => e = .returned (.int .i64 (cmpT a b)) ∧ w = w' :=
  (Tryz.strings_Compare a b w).mono fun _ _ ⟨he, hw⟩ => ⟨he, hw.symm⟩
theorem drop_cons (s : ByteArray) (k : Nat) (h : k < s.size) : s.data.toList.drop k = s[k] :: s.data.toList.drop (k + 1) := by
  rw [List.drop_eq_getElem_cons (by simpa using h)]; rfl
theorem drop_end (s : ByteArray) (k : Nat) (h : s.size ≤ k) : s.data.toList.drop k = [] := List.drop_eq_nil_of_le (by simpa using h)
theorem cmp_lt (a b : ByteArray) (k : Nat) (ha : k < a.size) (hb : k < b.size) (h : (a[k].toNat : Int) < b[k].toNat) : Lib.compareBytes (a.data.toList.drop k) (b.data.toList.drop k) = -1 := by
  rw [drop_cons a k ha, drop_cons b k hb, Lib.compareBytes, if_pos (by rw [UInt8.lt_iff_toNat_lt]; omega)]
theorem cmp_gt (a b : ByteArray) (k : Nat) (ha : k < a.size) (hb : k < b.size) (h : (b[k].toNat : Int) < a[k].toNat) : Lib.compareBytes (a.data.toList.drop k) (b.data.toList.drop k) = 1 := by
  rw [drop_cons a k ha, drop_cons b k hb, Lib.compareBytes, if_neg (by rw [UInt8.lt_iff_toNat_lt]; omega), if_pos (by rw [UInt8.lt_iff_toNat_lt]; omega)]
theorem cmp_eq (a b : ByteArray) (k : Nat) (ha : k < a.size) (hb : k < b.size) (h1 : ¬ (a[k].toNat : Int) < b[k].toNat) (h2 : ¬ (b[k].toNat : Int) < a[k].toNat) :
    Lib.compareBytes (a.data.toList.drop k) (b.data.toList.drop k) = Lib.compareBytes (a.data.toList.drop (k + 1)) (b.data.toList.drop (k + 1)) := by
  rw [drop_cons a k ha, drop_cons b k hb, Lib.compareBytes, if_neg (by rw [UInt8.lt_iff_toNat_lt]; omega), if_neg (by rw [UInt8.lt_iff_toNat_lt]; omega)]
theorem cmp_short (a b : ByteArray) (k : Nat) (ha : a.size ≤ k) (hb : k < b.size) : Lib.compareBytes (a.data.toList.drop k) (b.data.toList.drop k) = -1 := by
  rw [drop_end a k ha, drop_cons b k hb]; rfl
theorem cmp_long (a b : ByteArray) (k : Nat) (ha : k < a.size) (hb : b.size ≤ k) : Lib.compareBytes (a.data.toList.drop k) (b.data.toList.drop k) = 1 := by
  rw [drop_end b k hb, drop_cons a k ha]; rfl
theorem cmp_same (a b : ByteArray) (k : Nat) (ha : a.size ≤ k) (hb : b.size ≤ k) : Lib.compareBytes (a.data.toList.drop k) (b.data.toList.drop k) = 0 := by
  rw [drop_end a k ha, drop_end b k hb]; rfl
/-- What is left to compare at place k decides. -/
def Left (a b : ByteArray) (k : Nat) : Prop := Lib.compareBytes (a.data.toList.drop k) (b.data.toList.drop k) = cmpT a b
theorem left_zero (a b : ByteArray) : Left a b 0 := by simp [Left, cmpT]
theorem left_succ {a b : ByteArray} {k : Nat} (h : Left a b k) (ha : k < a.size) (hb : k < b.size) (h1 : ¬ (a[k].toNat : Int) < b[k].toNat) (h2 : ¬ (b[k].toNat : Int) < a[k].toNat) : Left a b (k + 1) := by
  unfold Left at *; rw [← cmp_eq a b k ha hb h1 h2]; exact h
theorem left_is {a b : ByteArray} {k : Nat} {n : Int} (h : Left a b k) (e : Lib.compareBytes (a.data.toList.drop k) (b.data.toList.drop k) = n) : n = cmpT a b := e.symm.trans h
set_option maxHeartbeats 800000 in
theorem r_texts (a b : ByteArray) (ha : a.size ≤ maxLen) (hb : b.size ≤ maxLen) (w : World) : Calls Tryz.prog 119 #[.string a, .string b] w fun e w' => e = .returned (.int .i64 (cmpT a b)) ∧ ∃ n, w' = w.drewN n := by
  unfold maxLen at ha hb
  go_enter Tryz.func119, Tryz.ntmps119
  go_wp2
  go_loopw [5] (fun i wr => ∃ k n : Nat, k ≤ a.size ∧ k ≤ b.size ∧ i = .int .i64 k ∧ wr = w.drewN n ∧ Left a b k) (fun i _ => a.size - (intOf i).toNat)
  case atStart => exact ⟨0, 0, by omega, by omega, rfl, rfl, left_zero a b⟩
  case round =>
    obtain ⟨k, n, hka, hkb, rfl, rfl, hL⟩ := hrel
    by_cases ka : k < a.size
    · by_cases kb : k < b.size
      · by_cases h1 : (a[k].toNat : Int) < b[k].toNat
        · have hr := Lib.hid (left_is hL (cmp_lt a b k ka kb h1))
          clear hL
          go_wp2
          go_quiet (fail)
          go_wp2
          go_ret
          exact ⟨ret_int hr.out, _, World.drewN_drewN _ _ _⟩
        · by_cases h2 : (b[k].toNat : Int) < a[k].toNat
          · have hr := Lib.hid (left_is hL (cmp_gt a b k ka kb h2))
            clear hL
            go_wp2
            go_quiet (fail)
            go_wp2
            go_quiet (fail)
            go_wp2
            go_ret
            exact ⟨ret_int hr.out, _, by rw [World.drewN_drewN, World.drewN_drewN]⟩
          · have hr := Lib.hid (left_succ hL ka kb h1 h2)
            clear hL
            go_wp2
            go_quiet (fail)
            go_wp2
            go_quiet (fail)
            go_wp2
            go_roundw
            case rel => exact ⟨k + 1, _, by omega, by omega, by go_num, rfl, hr.out⟩
            case measure => simp [intOf]; omega
      · have hr := Lib.hid (left_is hL (cmp_long a b k ka (by omega)))
        clear hL
        go_wp2
        go_ret
        exact ⟨ret_int hr.out, _, rfl⟩
    · by_cases kb : k < b.size
      · have hr := Lib.hid (left_is hL (cmp_short a b k (by omega) kb))
        clear hL
        go_wp2
        go_ret
        exact ⟨ret_int hr.out, _, rfl⟩
      · have hr := Lib.hid (left_is hL (cmp_same a b k (by omega) (by omega)))
        clear hL
        go_wp2
        go_ret
        exact ⟨ret_int hr.out, _, rfl⟩
theorem below_drewN (w : World) (n : Nat) : Below w.heap.size w (w.drewN n) := ⟨rfl, rfl, rfl, Nat.le_refl _, fun _ _ => rfl⟩
theorem to_below {P : Program} {f : FuncId} {args : Array Value} {w : World} {v : Value} (h : Calls P f args w fun e w' => e = .returned v ∧ w = w') : Calls P f args w fun e w' => e = .returned v ∧ Below w.heap.size w w' :=
  h.mono fun _ _ ⟨he, hw⟩ => ⟨he, hw ▸ Below.refl _ _⟩
theorem to_below_drew {P : Program} {f : FuncId} {args : Array Value} {w : World} {v : Value} (h : Calls P f args w fun e w' => e = .returned v ∧ ∃ n, w' = w.drewN n) : Calls P f args w fun e w' => e = .returned v ∧ Below w.heap.size w w' :=
  h.mono fun _ _ ⟨he, _, hw⟩ => ⟨he, hw ▸ below_drewN _ _⟩
/-- Two values compared. -/
def cmpV (k n : Int) (s : ByteArray) (k' n' : Int) (s' : ByteArray) : Int :=
  if k ≠ k' then cmpI k k' else if k = 0 then 0 else if k = 1 ∨ k = 3 then cmpI n n' else if k = 2 then cmpT s s'
  else if cmpI n n' ≠ 0 then cmpI n n' else cmpT s s'
theorem r_Compare_0 (n : Int) (s : ByteArray) (n' : Int) (s' : ByteArray) (hs : s.size ≤ maxLen) (hs' : s'.size ≤ maxLen) (w : World) :
    Calls Tryz.prog 105 #[val 0 n s, val 0 n' s'] w fun e w' => e = .returned (.int .i64 (0)) ∧ Below w.heap.size w w' := by
  have Hs := Lib.hid hs
  have Hs' := Lib.hid hs'
  clear hs hs'
  go_enter Tryz.func105, Tryz.ntmps105
  go_wp2_with (first | (go_at_call 118; refine (to_below (r_ints _ _ _)).mono ?_; rintro e w' ⟨rfl, hb⟩; obtain ⟨hc, hf⟩ := bcell hb) | (go_at_call 119; refine (to_below_drew (r_texts _ _ Hs.out Hs'.out _)).mono ?_; rintro e w' ⟨rfl, hb⟩; obtain ⟨hc, hf⟩ := bcell hb))
  go_ret
  exact ⟨rfl, (by repeat (first | exact Below.refl _ _ | (refine bel_trans ?_ (by assumption)) | apply bel_alloc | apply Below.drew))⟩
theorem r_Compare_1 (n : Int) (s : ByteArray) (n' : Int) (s' : ByteArray) (hs : s.size ≤ maxLen) (hs' : s'.size ≤ maxLen) (w : World) :
    Calls Tryz.prog 105 #[val 1 n s, val 1 n' s'] w fun e w' => e = .returned (.int .i64 (cmpI n n')) ∧ Below w.heap.size w w' := by
  have Hs := Lib.hid hs
  have Hs' := Lib.hid hs'
  clear hs hs'
  go_enter Tryz.func105, Tryz.ntmps105
  go_wp2_with (first | (go_at_call 118; refine (to_below (r_ints _ _ _)).mono ?_; rintro e w' ⟨rfl, hb⟩; obtain ⟨hc, hf⟩ := bcell hb) | (go_at_call 119; refine (to_below_drew (r_texts _ _ Hs.out Hs'.out _)).mono ?_; rintro e w' ⟨rfl, hb⟩; obtain ⟨hc, hf⟩ := bcell hb))
  go_ret
  exact ⟨rfl, (by repeat (first | exact Below.refl _ _ | (refine bel_trans ?_ (by assumption)) | apply bel_alloc | apply Below.drew))⟩
theorem r_Compare_3 (n : Int) (s : ByteArray) (n' : Int) (s' : ByteArray) (hs : s.size ≤ maxLen) (hs' : s'.size ≤ maxLen) (w : World) :
    Calls Tryz.prog 105 #[val 3 n s, val 3 n' s'] w fun e w' => e = .returned (.int .i64 (cmpI n n')) ∧ Below w.heap.size w w' := by
  have Hs := Lib.hid hs
  have Hs' := Lib.hid hs'
  clear hs hs'
  go_enter Tryz.func105, Tryz.ntmps105
  go_wp2_with (first | (go_at_call 118; refine (to_below (r_ints _ _ _)).mono ?_; rintro e w' ⟨rfl, hb⟩; obtain ⟨hc, hf⟩ := bcell hb) | (go_at_call 119; refine (to_below_drew (r_texts _ _ Hs.out Hs'.out _)).mono ?_; rintro e w' ⟨rfl, hb⟩; obtain ⟨hc, hf⟩ := bcell hb))
  go_ret
  exact ⟨rfl, (by repeat (first | exact Below.refl _ _ | (refine bel_trans ?_ (by assumption)) | apply bel_alloc | apply Below.drew))⟩
theorem r_Compare_2 (n : Int) (s : ByteArray) (n' : Int) (s' : ByteArray) (hs : s.size ≤ maxLen) (hs' : s'.size ≤ maxLen) (w : World) :
    Calls Tryz.prog 105 #[val 2 n s, val 2 n' s'] w fun e w' => e = .returned (.int .i64 (cmpT s s')) ∧ Below w.heap.size w w' := by
  have Hs := Lib.hid hs
  have Hs' := Lib.hid hs'
  clear hs hs'
  go_enter Tryz.func105, Tryz.ntmps105
  go_wp2_with (first | (go_at_call 118; refine (to_below (r_ints _ _ _)).mono ?_; rintro e w' ⟨rfl, hb⟩; obtain ⟨hc, hf⟩ := bcell hb) | (go_at_call 119; refine (to_below_drew (r_texts _ _ Hs.out Hs'.out _)).mono ?_; rintro e w' ⟨rfl, hb⟩; obtain ⟨hc, hf⟩ := bcell hb))
  go_ret
  exact ⟨rfl, (by repeat (first | exact Below.refl _ _ | (refine bel_trans ?_ (by assumption)) | apply bel_alloc | apply Below.drew))⟩
theorem r_Compare_x (k n : Int) (s : ByteArray) (n' : Int) (s' : ByteArray) (hs : s.size ≤ maxLen) (hs' : s'.size ≤ maxLen) (k0 : ¬ k = 0) (k1 : ¬ k = 1) (k2 : ¬ k = 2) (k3 : ¬ k = 3) (hc : ¬ cmpI n n' = 0) (w : World) :
    Calls Tryz.prog 105 #[val k n s, val k n' s'] w fun e w' => e = .returned (.int .i64 (cmpI n n')) ∧ Below w.heap.size w w' := by
  have Hs := Lib.hid hs
  have Hs' := Lib.hid hs'
  clear hs hs'
  have e0 : (k == 0) = false := by simpa using k0
  have e1 : (k == 1) = false := by simpa using k1
  have e2 : (k == 2) = false := by simpa using k2
  have e3 : (k == 3) = false := by simpa using k3
  clear k0 k1 k2 k3
  have hc' : (cmpI n n' != 0) = true := by simpa using hc
  go_enter Tryz.func105, Tryz.ntmps105
  go_wp2_with (first | (go_at_call 118; refine (to_below (r_ints _ _ _)).mono ?_; rintro e w' ⟨rfl, hb⟩; obtain ⟨hc, hf⟩ := bcell hb) | (go_at_call 119; refine (to_below_drew (r_texts _ _ Hs.out Hs'.out _)).mono ?_; rintro e w' ⟨rfl, hb⟩; obtain ⟨hc, hf⟩ := bcell hb))
  go_ret
  exact ⟨rfl, (by repeat (first | exact Below.refl _ _ | (refine bel_trans ?_ (by assumption)) | apply bel_alloc | apply Below.drew))⟩
theorem r_Compare_y (k n : Int) (s : ByteArray) (n' : Int) (s' : ByteArray) (hs : s.size ≤ maxLen) (hs' : s'.size ≤ maxLen) (k0 : ¬ k = 0) (k1 : ¬ k = 1) (k2 : ¬ k = 2) (k3 : ¬ k = 3) (hc : cmpI n n' = 0) (w : World) :
    Calls Tryz.prog 105 #[val k n s, val k n' s'] w fun e w' => e = .returned (.int .i64 (cmpT s s')) ∧ Below w.heap.size w w' := by
  have Hs := Lib.hid hs
  have Hs' := Lib.hid hs'
  clear hs hs'
  have e0 : (k == 0) = false := by simpa using k0
  have e1 : (k == 1) = false := by simpa using k1
  have e2 : (k == 2) = false := by simpa using k2
  have e3 : (k == 3) = false := by simpa using k3
  clear k0 k1 k2 k3
  have hc' : (cmpI n n' != 0) = false := by simpa using hc
  clear hc
  go_enter Tryz.func105, Tryz.ntmps105
  go_wp2_with (first | (go_at_call 118; refine (to_below (r_ints _ _ _)).mono ?_; rintro e w' ⟨rfl, hb⟩; obtain ⟨hc, hf⟩ := bcell hb) | (go_at_call 119; refine (to_below_drew (r_texts _ _ Hs.out Hs'.out _)).mono ?_; rintro e w' ⟨rfl, hb⟩; obtain ⟨hc, hf⟩ := bcell hb))
  go_ret
  exact ⟨rfl, (by repeat (first | exact Below.refl _ _ | (refine bel_trans ?_ (by assumption)) | apply bel_alloc | apply Below.drew))⟩
theorem r_Compare_k (k k' n : Int) (s : ByteArray) (n' : Int) (s' : ByteArray) (hs : s.size ≤ maxLen) (hs' : s'.size ≤ maxLen) (_ : 0 ≤ k) (_ : k ≤ 255) (_ : 0 ≤ k') (_ : k' ≤ 255) (hk : ¬ k = k') (w : World) :
    Calls Tryz.prog 105 #[val k n s, val k' n' s'] w fun e w' => e = .returned (.int .i64 (cmpI k k')) ∧ Below w.heap.size w w' := by
  have Hs := Lib.hid hs
  have Hs' := Lib.hid hs'
  clear hs hs'
  have hb : (k != k') = true := by simpa using hk
  have hb' : (k == k') = false := by simpa using hk
  clear hk
  go_enter Tryz.func105, Tryz.ntmps105
  go_wp2_with (first | (go_at_call 118; refine (to_below (r_ints _ _ _)).mono ?_; rintro e w' ⟨rfl, hb⟩; obtain ⟨hc, hf⟩ := bcell hb) | (go_at_call 119; refine (to_below_drew (r_texts _ _ Hs.out Hs'.out _)).mono ?_; rintro e w' ⟨rfl, hb⟩; obtain ⟨hc, hf⟩ := bcell hb))
  go_ret
  exact ⟨rfl, (by repeat (first | exact Below.refl _ _ | (refine bel_trans ?_ (by assumption)) | apply bel_alloc | apply Below.drew))⟩
theorem r_Compare (k n : Int) (s : ByteArray) (k' n' : Int) (s' : ByteArray) (hk : 0 ≤ k ∧ k ≤ 255) (hk' : 0 ≤ k' ∧ k' ≤ 255) (hs : s.size ≤ maxLen) (hs' : s'.size ≤ maxLen) (w : World) :
    Calls Tryz.prog 105 #[val k n s, val k' n' s'] w fun e w' => e = .returned (.int .i64 (cmpV k n s k' n' s')) ∧ Below w.heap.size w w' := by
  have kb := hk
  have kb' := hk'
  clear hk hk'
  by_cases hk : k = k'
  · subst hk
    by_cases k0 : k = 0
    · subst k0; exact r_Compare_0 n s n' s' hs hs' w
    by_cases k1 : k = 1
    · subst k1; exact r_Compare_1 n s n' s' hs hs' w
    by_cases k2 : k = 2
    · subst k2; exact r_Compare_2 n s n' s' hs hs' w
    by_cases k3 : k = 3
    · subst k3; exact r_Compare_3 n s n' s' hs hs' w
    by_cases hc : cmpI n n' = 0
    · rw [show cmpV k n s k n' s' = cmpT s s' by simp [cmpV, k0, k1, k2, k3, hc]]; exact r_Compare_y k n s n' s' hs hs' k0 k1 k2 k3 hc w
    · rw [show cmpV k n s k n' s' = cmpI n n' by simp [cmpV, k0, k1, k2, k3, hc]]; exact r_Compare_x k n s n' s' hs hs' k0 k1 k2 k3 hc w
  · rw [show cmpV k n s k' n' s' = cmpI k k' by simp [cmpV, hk]]; exact r_Compare_k k k' n s n' s' hs hs' kb.1 kb.2 kb'.1 kb'.2 hk w
/-- The first number that is not zero. -/
def orI (x y : Int) : Int := if x = 0 then y else x
theorem l_or (x y : Int) (b : Nat) (w : World) (h0 : w.cell? ⟨b, 0, none⟩ = some (.int .i64 x)) (h1 : w.cell? ⟨b, 1, none⟩ = some (.int .i64 y)) : Calls Tryz.prog 81 #[.slice (some ⟨b, 0, none⟩) 2 2] w fun e w' => e = .returned (.int .i64 (orI x y)) ∧ Below w.heap.size w w' := by
  go_enter Tryz.func81, Tryz.ntmps81
  go_wp2
  go_loop [8] (fun i => ∃ k : Nat, i = .int .i64 k ∧ k ≤ 2 ∧ Hid ((0 < k → x = 0) ∧ (1 < k → y = 0))) (fun i => 2 - (intOf i).toNat)
  case atStart => exact ⟨0, rfl, by omega, by omega, by omega⟩
  case round =>
    obtain ⟨k, rfl, hk, hx⟩ := hrel
    have hk3 : k = 0 ∨ k = 1 ∨ k = 2 := by omega
    rcases hk3 with rfl | rfl | rfl
    · by_cases h : x = 0
      · have h' : (x != 0) = false := by simpa using h
        have H := Lib.hid h
        clear h
        go_wp2
        go_round
        case rel => exact ⟨1, rfl, by omega, fun _ => H.out, by omega⟩
        case measure => simp [intOf]
      · have h' : (x != 0) = true := by simpa using h
        go_wp2
        go_ret
        exact ⟨ret_int (by rw [orI, if_neg h]), Below.refl _ _⟩
    · have hx0 := Lib.hid (hx.out.1 (by omega))
      by_cases h : y = 0
      · have h' : (y != 0) = false := by simpa using h
        have H := Lib.hid h
        clear h
        go_wp2
        go_round
        case rel => exact ⟨2, rfl, by omega, fun _ => hx0.out, fun _ => H.out⟩
        case measure => simp [intOf]
      · have h' : (y != 0) = true := by simpa using h
        go_wp2
        go_ret
        exact ⟨ret_int (by rw [orI, if_pos hx0.out]), Below.refl _ _⟩
    · have hx0 := hx.out
      go_wp2
      go_ret
      exact ⟨ret_int (by simp [orI]), Below.refl _ _⟩
theorem c_Compare_0 (n : Int) (s : ByteArray) (n' : Int) (s' : ByteArray) (hs : s.size ≤ maxLen) (hs' : s'.size ≤ maxLen) (w : World) :
    Calls Tryz.prog 110 #[val 0 n s, val 0 n' s'] w fun e w' => e = .returned (.int .i64 (0)) ∧ Below w.heap.size w w' := by
  have Hs := Lib.hid hs
  have Hs' := Lib.hid hs'
  clear hs hs'
  go_enter Tryz.func110, Tryz.ntmps110
  go_wp2_with (first | (go_at_call 121; refine (to_below (l_cmp64 _ _ _)).mono ?_; rintro e w' ⟨rfl, hb⟩; obtain ⟨hc, hf⟩ := bcell hb) | (go_at_call 120; refine (to_below (l_cmpK _ _ _)).mono ?_; rintro e w' ⟨rfl, hb⟩; obtain ⟨hc, hf⟩ := bcell hb) | (go_at_call 122; refine (to_below (l_strings _ _ _)).mono ?_; rintro e w' ⟨rfl, hb⟩; obtain ⟨hc, hf⟩ := bcell hb))
  go_ret
  exact ⟨rfl, (by repeat (first | exact Below.refl _ _ | (refine bel_trans ?_ (by assumption)) | apply bel_alloc | apply Below.drew))⟩
theorem c_Compare_1 (n : Int) (s : ByteArray) (n' : Int) (s' : ByteArray) (hs : s.size ≤ maxLen) (hs' : s'.size ≤ maxLen) (w : World) :
    Calls Tryz.prog 110 #[val 1 n s, val 1 n' s'] w fun e w' => e = .returned (.int .i64 (cmpI n n')) ∧ Below w.heap.size w w' := by
  have Hs := Lib.hid hs
  have Hs' := Lib.hid hs'
  clear hs hs'
  go_enter Tryz.func110, Tryz.ntmps110
  go_wp2_with (first | (go_at_call 121; refine (to_below (l_cmp64 _ _ _)).mono ?_; rintro e w' ⟨rfl, hb⟩; obtain ⟨hc, hf⟩ := bcell hb) | (go_at_call 120; refine (to_below (l_cmpK _ _ _)).mono ?_; rintro e w' ⟨rfl, hb⟩; obtain ⟨hc, hf⟩ := bcell hb) | (go_at_call 122; refine (to_below (l_strings _ _ _)).mono ?_; rintro e w' ⟨rfl, hb⟩; obtain ⟨hc, hf⟩ := bcell hb))
  go_ret
  exact ⟨rfl, (by repeat (first | exact Below.refl _ _ | (refine bel_trans ?_ (by assumption)) | apply bel_alloc | apply Below.drew))⟩
theorem c_Compare_3 (n : Int) (s : ByteArray) (n' : Int) (s' : ByteArray) (hs : s.size ≤ maxLen) (hs' : s'.size ≤ maxLen) (w : World) :
    Calls Tryz.prog 110 #[val 3 n s, val 3 n' s'] w fun e w' => e = .returned (.int .i64 (cmpI n n')) ∧ Below w.heap.size w w' := by
  have Hs := Lib.hid hs
  have Hs' := Lib.hid hs'
  clear hs hs'
  go_enter Tryz.func110, Tryz.ntmps110
  go_wp2_with (first | (go_at_call 121; refine (to_below (l_cmp64 _ _ _)).mono ?_; rintro e w' ⟨rfl, hb⟩; obtain ⟨hc, hf⟩ := bcell hb) | (go_at_call 120; refine (to_below (l_cmpK _ _ _)).mono ?_; rintro e w' ⟨rfl, hb⟩; obtain ⟨hc, hf⟩ := bcell hb) | (go_at_call 122; refine (to_below (l_strings _ _ _)).mono ?_; rintro e w' ⟨rfl, hb⟩; obtain ⟨hc, hf⟩ := bcell hb))
  go_ret
  exact ⟨rfl, (by repeat (first | exact Below.refl _ _ | (refine bel_trans ?_ (by assumption)) | apply bel_alloc | apply Below.drew))⟩
theorem c_Compare_2 (n : Int) (s : ByteArray) (n' : Int) (s' : ByteArray) (hs : s.size ≤ maxLen) (hs' : s'.size ≤ maxLen) (w : World) :
    Calls Tryz.prog 110 #[val 2 n s, val 2 n' s'] w fun e w' => e = .returned (.int .i64 (cmpT s s')) ∧ Below w.heap.size w w' := by
  have Hs := Lib.hid hs
  have Hs' := Lib.hid hs'
  clear hs hs'
  go_enter Tryz.func110, Tryz.ntmps110
  go_wp2_with (first | (go_at_call 121; refine (to_below (l_cmp64 _ _ _)).mono ?_; rintro e w' ⟨rfl, hb⟩; obtain ⟨hc, hf⟩ := bcell hb) | (go_at_call 120; refine (to_below (l_cmpK _ _ _)).mono ?_; rintro e w' ⟨rfl, hb⟩; obtain ⟨hc, hf⟩ := bcell hb) | (go_at_call 122; refine (to_below (l_strings _ _ _)).mono ?_; rintro e w' ⟨rfl, hb⟩; obtain ⟨hc, hf⟩ := bcell hb))
  go_ret
  exact ⟨rfl, (by repeat (first | exact Below.refl _ _ | (refine bel_trans ?_ (by assumption)) | apply bel_alloc | apply Below.drew))⟩
theorem c_Compare_x (k n : Int) (s : ByteArray) (n' : Int) (s' : ByteArray) (hs : s.size ≤ maxLen) (hs' : s'.size ≤ maxLen) (k0 : ¬ k = 0) (k1 : ¬ k = 1) (k2 : ¬ k = 2) (k3 : ¬ k = 3) (hc : ¬ cmpI n n' = 0) (w : World) :
    Calls Tryz.prog 110 #[val k n s, val k n' s'] w fun e w' => e = .returned (.int .i64 (cmpI n n')) ∧ Below w.heap.size w w' := by
  have Hs := Lib.hid hs
  have Hs' := Lib.hid hs'
  clear hs hs'
  have e0 : (k == 0) = false := by simpa using k0
  have e1 : (k == 1) = false := by simpa using k1
  have e2 : (k == 2) = false := by simpa using k2
  have e3 : (k == 3) = false := by simpa using k3
  clear k0 k1 k2 k3
  have hc0 := Lib.hid hc
  have hc' : (cmpI n n' != 0) = true := by simpa using hc
  go_enter Tryz.func110, Tryz.ntmps110
  go_wp2
  go_region_held3 (fun w' => w'.cell? ⟨w.heap.size, 1, none⟩ = some (.int .i64 n) ∧ w'.cell? ⟨w.heap.size, 2, none⟩ = some (.string s) ∧ w'.cell? ⟨w.heap.size + 1, 1, none⟩ = some (.int .i64 n') ∧ w'.cell? ⟨w.heap.size + 1, 2, none⟩ = some (.string s')) (simp [*, go_sem, World.cell?_alloc_past])
    (first | (go_at_call 121; refine (l_cmp64 _ _ _).mono ?_; rintro e w' ⟨rfl, rfl⟩) | (go_at_call 122; refine (l_strings _ _ _).mono ?_; rintro e w' ⟨rfl, rfl⟩) | (go_at_call 81; refine (l_or (cmpI n n') (cmpT s s') _ _ ?_ ?_).mono ?_; (simp [go_sem]); (simp [go_sem]); rintro e w' ⟨rfl, hb⟩; obtain ⟨hc, hf⟩ := bcell hb; have hz : w.heap.size + 1 < w'.heap.size := Nat.lt_of_lt_of_le (by simp) hb.size; have hz0 : w.heap.size < w'.heap.size := by omega))
  go_wp2
  go_ret
  exact ⟨ret_int (by unfold orI; exact if_neg hc0.out), (by repeat (first | exact Below.refl _ _ | (refine bel_trans ?_ (by assumption)) | apply bel_alloc | apply Below.drew))⟩
theorem c_Compare_y (k n : Int) (s : ByteArray) (n' : Int) (s' : ByteArray) (hs : s.size ≤ maxLen) (hs' : s'.size ≤ maxLen) (k0 : ¬ k = 0) (k1 : ¬ k = 1) (k2 : ¬ k = 2) (k3 : ¬ k = 3) (hc : cmpI n n' = 0) (w : World) :
    Calls Tryz.prog 110 #[val k n s, val k n' s'] w fun e w' => e = .returned (.int .i64 (cmpT s s')) ∧ Below w.heap.size w w' := by
  have Hs := Lib.hid hs
  have Hs' := Lib.hid hs'
  clear hs hs'
  have e0 : (k == 0) = false := by simpa using k0
  have e1 : (k == 1) = false := by simpa using k1
  have e2 : (k == 2) = false := by simpa using k2
  have e3 : (k == 3) = false := by simpa using k3
  clear k0 k1 k2 k3
  have hc0 := Lib.hid hc
  have hc' : (cmpI n n' != 0) = false := by simpa using hc
  clear hc
  go_enter Tryz.func110, Tryz.ntmps110
  go_wp2
  go_region_held3 (fun w' => w'.cell? ⟨w.heap.size, 1, none⟩ = some (.int .i64 n) ∧ w'.cell? ⟨w.heap.size, 2, none⟩ = some (.string s) ∧ w'.cell? ⟨w.heap.size + 1, 1, none⟩ = some (.int .i64 n') ∧ w'.cell? ⟨w.heap.size + 1, 2, none⟩ = some (.string s')) (simp [*, go_sem, World.cell?_alloc_past])
    (first | (go_at_call 121; refine (l_cmp64 _ _ _).mono ?_; rintro e w' ⟨rfl, rfl⟩) | (go_at_call 122; refine (l_strings _ _ _).mono ?_; rintro e w' ⟨rfl, rfl⟩) | (go_at_call 81; refine (l_or (cmpI n n') (cmpT s s') _ _ ?_ ?_).mono ?_; (simp [go_sem]); (simp [go_sem]); rintro e w' ⟨rfl, hb⟩; obtain ⟨hc, hf⟩ := bcell hb; have hz : w.heap.size + 1 < w'.heap.size := Nat.lt_of_lt_of_le (by simp) hb.size; have hz0 : w.heap.size < w'.heap.size := by omega))
  go_wp2
  go_ret
  exact ⟨ret_int (by unfold orI; exact if_pos hc0.out), (by repeat (first | exact Below.refl _ _ | (refine bel_trans ?_ (by assumption)) | apply bel_alloc | apply Below.drew))⟩
theorem c_Compare_k (k k' n : Int) (s : ByteArray) (n' : Int) (s' : ByteArray) (hs : s.size ≤ maxLen) (hs' : s'.size ≤ maxLen) (_ : 0 ≤ k) (_ : k ≤ 255) (_ : 0 ≤ k') (_ : k' ≤ 255) (hk : ¬ k = k') (w : World) :
    Calls Tryz.prog 110 #[val k n s, val k' n' s'] w fun e w' => e = .returned (.int .i64 (cmpI k k')) ∧ Below w.heap.size w w' := by
  have Hs := Lib.hid hs
  have Hs' := Lib.hid hs'
  clear hs hs'
  have hb : (k != k') = true := by simpa using hk
  have hb' : (k == k') = false := by simpa using hk
  clear hk
  go_enter Tryz.func110, Tryz.ntmps110
  go_wp2_with (first | (go_at_call 121; refine (to_below (l_cmp64 _ _ _)).mono ?_; rintro e w' ⟨rfl, hb⟩; obtain ⟨hc, hf⟩ := bcell hb) | (go_at_call 120; refine (to_below (l_cmpK _ _ _)).mono ?_; rintro e w' ⟨rfl, hb⟩; obtain ⟨hc, hf⟩ := bcell hb) | (go_at_call 122; refine (to_below (l_strings _ _ _)).mono ?_; rintro e w' ⟨rfl, hb⟩; obtain ⟨hc, hf⟩ := bcell hb))
  go_ret
  exact ⟨rfl, (by repeat (first | exact Below.refl _ _ | (refine bel_trans ?_ (by assumption)) | apply bel_alloc | apply Below.drew))⟩
theorem c_Compare (k n : Int) (s : ByteArray) (k' n' : Int) (s' : ByteArray) (hk : 0 ≤ k ∧ k ≤ 255) (hk' : 0 ≤ k' ∧ k' ≤ 255) (hs : s.size ≤ maxLen) (hs' : s'.size ≤ maxLen) (w : World) :
    Calls Tryz.prog 110 #[val k n s, val k' n' s'] w fun e w' => e = .returned (.int .i64 (cmpV k n s k' n' s')) ∧ Below w.heap.size w w' := by
  have kb := hk
  have kb' := hk'
  clear hk hk'
  by_cases hk : k = k'
  · subst hk
    by_cases k0 : k = 0
    · subst k0; exact c_Compare_0 n s n' s' hs hs' w
    by_cases k1 : k = 1
    · subst k1; exact c_Compare_1 n s n' s' hs hs' w
    by_cases k2 : k = 2
    · subst k2; exact c_Compare_2 n s n' s' hs hs' w
    by_cases k3 : k = 3
    · subst k3; exact c_Compare_3 n s n' s' hs hs' w
    by_cases hc : cmpI n n' = 0
    · rw [show cmpV k n s k n' s' = cmpT s s' by simp [cmpV, k0, k1, k2, k3, hc]]; exact c_Compare_y k n s n' s' hs hs' k0 k1 k2 k3 hc w
    · rw [show cmpV k n s k n' s' = cmpI n n' by simp [cmpV, k0, k1, k2, k3, hc]]; exact c_Compare_x k n s n' s' hs hs' k0 k1 k2 k3 hc w
  · rw [show cmpV k n s k' n' s' = cmpI k k' by simp [cmpV, hk]]; exact c_Compare_k k k' n s n' s' hs hs' kb.1 kb.2 kb'.1 kb'.2 hk w
end Go.Proofs.YtefelelhgepkeaaGreatDoor.V
