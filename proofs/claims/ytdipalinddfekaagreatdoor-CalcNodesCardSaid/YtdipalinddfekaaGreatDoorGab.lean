/- Contracts of the comparisons of package value and of the reference. -/
import Derived.Test.YtdipalinddfekaaGreatDoorGaa
import Derived.LoopTactic
import Derived.Deep.LoopGhost
import Derived.Lib.Hide
namespace Go.Proofs.YtdipalinddfekaaGreatDoor.V
open Go.ChangeShapes Go.WideShapes Go.ChangeAt Go.RowKit
/-- Two integers compared. -/
def cmpI (a b : Int) : Int := if a < b then -1 else if b < a then 1 else 0
theorem r_ints (a b : Int) (w : World) : Calls Tryz.prog 95 #[.int .i64 a, .int .i64 b] w fun e w' => e = .returned (.int .i64 (cmpI a b)) ∧ w = w' := by
  go_enter Tryz.func95, Tryz.ntmps95
  go_wp2
  all_goals (go_ret; exact ⟨ret_int (by unfold cmpI; omega), rfl⟩)
theorem l_cmp64 (a b : Int) (w : World) : Calls Tryz.prog 101 #[.int .i64 a, .int .i64 b] w fun e w' => e = .returned (.int .i64 (cmpI a b)) ∧ w = w' := by
  go_enter Tryz.func101, Tryz.ntmps101
  go_wp2
  all_goals (go_ret; exact ⟨ret_int (by unfold cmpI; omega), rfl⟩)
theorem l_cmpK (a b : Int) (w : World) : Calls Tryz.prog 100 #[.int .u8 a, .int .u8 b] w fun e w' => e = .returned (.int .i64 (cmpI a b)) ∧ w = w' := by
  go_enter Tryz.func100, Tryz.ntmps100
  go_wp2
  all_goals (go_ret; exact ⟨ret_int (by unfold cmpI; omega), rfl⟩)
/-- Two texts compared. -/
def cmpT (a b : ByteArray) : Int := Lib.compareBytes a.data.toList b.data.toList
theorem l_strings (a b : ByteArray) (w : World) : Calls Tryz.prog 102 #[.string a, .string b] w fun e w' => e = .returned (.int .i64 (cmpT a b)) ∧ w = w' :=
  (Tryz.strings_Compare a b w).mono fun _ _ ⟨he, hw⟩ => ⟨he, hw.symm⟩
theorem drop_cons (s : ByteArray) (k : Nat) (h : k < s.size) : s.data.toList.drop k = s[k] :: s.data.toList.drop (k + 1) := by
  rw [List.drop_eq_getElem_cons (by simpa using h)]; rfl
theorem drop_end (s : ByteArray) (k : Nat) (h : s.size ≤ k) : s.data.toList.drop k = [] := List.drop_eq_nil_of_le (by simpa using h)
theorem cmp_lt (a b : ByteArray) (k : Nat) (ha : k < a.size) (hb : k < b.size) (h : (a[k].toNat : Int) < b[k].toNat) : Lib.compareBytes (a.data.toList.drop k) (b.data.toList.drop k) = -1 := by
  rw [drop_cons a k ha, drop_cons b k hb, Lib.compareBytes, if_pos (by rw [UInt8.lt_iff_toNat_lt]; omega)]
theorem cmp_gt (a b : ByteArray) (k : Nat) (ha : k < a.size) (hb : k < b.size) (h : (b[k].toNat : Int) < a[k].toNat) : Lib.compareBytes (a.data.toList.drop k) (b.data.toList.drop k) = 1 := by
  rw [drop_cons a k ha, drop_cons b k hb, Lib.compareBytes, if_neg (by rw [UInt8.lt_iff_toNat_lt]; omega), if_pos (by rw [UInt8.lt_iff_toNat_lt]; omega)]
theorem cmp_eq (a b : ByteArray) (k : Nat) (ha : k < a.size) (hb : k < b.size) (h1 : ¬ (a[k].toNat : Int) < b[k].toNat) (h2 : ¬ (b[k].toNat : Int) < a[k].toNat) :
    Lib.compareBytes (a.data.toList.drop k) (b.data.toList.drop k) = Lib.compareBytes (a.data.toList.drop (k + 1)) (b.data.toList.drop (k + 1)) := by
  rw [drop_cons a k ha, drop_cons b k hb, Lib.compareBytes, if_neg (by rw [UInt8.lt_iff_toNat_lt]; omega), if_neg (by rw [UInt8.lt_iff_toNat_lt]; omega)]
theorem cmp_short (a b : ByteArray) (k : Nat) (ha : a.size ≤ k) (hb : k < b.size) : Lib.compareBytes (a.data.toList.drop k) (b.data.toList.drop k) = -1 := by
  rw [drop_end a k ha, drop_cons b k hb]; rfl
theorem cmp_long (a b : ByteArray) (k : Nat) (ha : k < a.size) (hb : b.size ≤ k) : Lib.compareBytes (a.data.toList.drop k) (b.data.toList.drop k) = 1 := by
  rw [drop_end b k hb, drop_cons a k ha]; rfl
theorem cmp_same (a b : ByteArray) (k : Nat) (ha : a.size ≤ k) (hb : b.size ≤ k) : Lib.compareBytes (a.data.toList.drop k) (b.data.toList.drop k) = 0 := by
  rw [drop_end a k ha, drop_end b k hb]; rfl
/-- What is left to compare at place k decides. -/
def Left (a b : ByteArray) (k : Nat) : Prop := Lib.compareBytes (a.data.toList.drop k) (b.data.toList.drop k) = cmpT a b
theorem left_zero (a b : ByteArray) : Left a b 0 := by simp [Left, cmpT]
theorem left_succ {a b : ByteArray} {k : Nat} (h : Left a b k) (ha : k < a.size) (hb : k < b.size) (h1 : ¬ (a[k].toNat : Int) < b[k].toNat) (h2 : ¬ (b[k].toNat : Int) < a[k].toNat) : Left a b (k + 1) := by
  unfold Left at *; rw [← cmp_eq a b k ha hb h1 h2]; exact h
theorem left_is {a b : ByteArray} {k : Nat} {n : Int} (h : Left a b k) (e : Lib.compareBytes (a.data.toList.drop k) (b.data.toList.drop k) = n) : n = cmpT a b := e.symm.trans h
set_option maxHeartbeats 800000 in
theorem r_texts (a b : ByteArray) (ha : a.size ≤ maxLen) (hb : b.size ≤ maxLen) (w : World) : Calls Tryz.prog 96 #[.string a, .string b] w fun e w' => e = .returned (.int .i64 (cmpT a b)) ∧ ∃ n, w' = w.drewN n := by
  unfold maxLen at ha hb
  go_enter Tryz.func96, Tryz.ntmps96
  go_wp2
  go_loopw [5] (fun i wr => ∃ k n : Nat, k ≤ a.size ∧ k ≤ b.size ∧ i = .int .i64 k ∧ wr = w.drewN n ∧ Left a b k) (fun i _ => a.size - (intOf i).toNat)
  case atStart => exact ⟨0, 0, by omega, by omega, rfl, rfl, left_zero a b⟩
  case round =>
    obtain ⟨k, n, hka, hkb, rfl, rfl, hL⟩ := hrel
    by_cases ka : k < a.size
    · by_cases kb : k < b.size
      · by_cases h1 : (a[k].toNat : Int) < b[k].toNat
        · have hr := Lib.hid (left_is hL (cmp_lt a b k ka kb h1))
          clear hL
          go_wp2
          go_quiet (fail)
          go_wp2
          go_ret
          exact ⟨ret_int hr.out, _, World.drewN_drewN _ _ _⟩
        · by_cases h2 : (b[k].toNat : Int) < a[k].toNat
          · have hr := Lib.hid (left_is hL (cmp_gt a b k ka kb h2))
            clear hL
            go_wp2
            go_quiet (fail)
            go_wp2
            go_quiet (fail)
            go_wp2
            go_ret
            exact ⟨ret_int hr.out, _, by rw [World.drewN_drewN, World.drewN_drewN]⟩
          · have hr := Lib.hid (left_succ hL ka kb h1 h2)
            clear hL
            go_wp2
            go_quiet (fail)
            go_wp2
            go_quiet (fail)
            go_wp2
            go_roundw
            case rel => exact ⟨k + 1, _, by omega, by omega, by go_num, rfl, hr.out⟩
            case measure => simp [intOf]; omega
      · have hr := Lib.hid (left_is hL (cmp_long a b k ka (by omega)))
        clear hL
        go_wp2
        go_ret
        exact ⟨ret_int hr.out, _, rfl⟩
    · by_cases kb : k < b.size
      · have hr := Lib.hid (left_is hL (cmp_short a b k (by omega) kb))
        clear hL
        go_wp2
        go_ret
        exact ⟨ret_int hr.out, _, rfl⟩
      · have hr := Lib.hid (left_is hL (cmp_same a b k (by omega) (by omega)))
        clear hL
        go_wp2
        go_ret
        exact ⟨ret_int hr.out, _, rfl⟩
theorem below_drewN (w : World) (n : Nat) : Below w.heap.size w (w.drewN n) := ⟨rfl, rfl, rfl, Nat.le_refl _, fun _ _ => rfl⟩
theorem to_below {P : Program} {f : FuncId} {args : Array Value} {w : World} {v : Value} (h : Calls P f args w fun e w' => e = .returned v ∧ w = w') : Calls P f args w fun e w' => e = .returned v ∧ Below w.heap.size w w' :=
  h.mono fun _ _ ⟨he, hw⟩ => ⟨he, hw ▸ Below.refl _ _⟩
theorem to_below_drew {P : Program} {f : FuncId} {args : Array Value} {w : World} {v : Value} (h : Calls P f args w fun e w' => e = .returned v ∧ ∃ n, w' = w.drewN n) : Calls P f args w fun e w' => e = .returned v ∧ Below w.heap.size w w' :=
  h.mono fun _ _ ⟨he, _, hw⟩ => ⟨he, hw ▸ below_drewN _ _⟩
/-- Two values compared. -/
def cmpV (k n : Int) (s : ByteArray) (k' n' : Int) (s' : ByteArray) : Int :=
  if k ≠ k' then cmpI k k' else if k = 0 then 0 else if k = 1 ∨ k = 3 then cmpI n n' else if k = 2 then cmpT s s'
  else if cmpI n n' ≠ 0 then cmpI n n' else cmpT s s'
theorem r_Compare_0 (n : Int) (s : ByteArray) (n' : Int) (s' : ByteArray) (hs : s.size ≤ maxLen) (hs' : s'.size ≤ maxLen) (w : World) :
    Calls Tryz.prog 74 #[val 0 n s, val 0 n' s'] w fun e w' => e = .returned (.int .i64 (0)) ∧ Below w.heap.size w w' := by
  have Hs := Lib.hid hs
  have Hs' := Lib.hid hs'
  clear hs hs'
  go_enter Tryz.func74, Tryz.ntmps74
  go_wp2_with (first | (go_at_call 95; refine (to_below (r_ints _ _ _)).mono ?_; rintro e w' ⟨rfl, hb⟩; obtain ⟨hc, hf⟩ := bcell hb) | (go_at_call 96; refine (to_below_drew (r_texts _ _ Hs.out Hs'.out _)).mono ?_; rintro e w' ⟨rfl, hb⟩; obtain ⟨hc, hf⟩ := bcell hb))
  go_ret
  exact ⟨rfl, (by repeat (first | exact Below.refl _ _ | (refine bel_trans ?_ (by assumption)) | apply bel_alloc | apply Below.drew))⟩
theorem r_Compare_1 (n : Int) (s : ByteArray) (n' : Int) (s' : ByteArray) (hs : s.size ≤ maxLen) (hs' : s'.size ≤ maxLen) (w : World) :
    Calls Tryz.prog 74 #[val 1 n s, val 1 n' s'] w fun e w' => e = .returned (.int .i64 (cmpI n n')) ∧ Below w.heap.size w w' := by
  have Hs := Lib.hid hs
  have Hs' := Lib.hid hs'
  clear hs hs'
  go_enter Tryz.func74, Tryz.ntmps74
  go_wp2_with (first | (go_at_call 95; refine (to_below (r_ints _ _ _)).mono ?_; rintro e w' ⟨rfl, hb⟩; obtain ⟨hc, hf⟩ := bcell hb) | (go_at_call 96; refine (to_below_drew (r_texts _ _ Hs.out Hs'.out _)).mono ?_; rintro e w' ⟨rfl, hb⟩; obtain ⟨hc, hf⟩ := bcell hb))
  go_ret
  exact ⟨rfl, (by repeat (first | exact Below.refl _ _ | (refine bel_trans ?_ (by assumption)) | apply bel_alloc | apply Below.drew))⟩
theorem r_Compare_3 (n : Int) (s : ByteArray) (n' : Int) (s' : ByteArray) (hs : s.size ≤ maxLen) (hs' : s'.size ≤ maxLen) (w : World) :
    Calls Tryz.prog 74 #[val 3 n s, val 3 n' s'] w fun e w' => e = .returned (.int .i64 (cmpI n n')) ∧ Below w.heap.size w w' := by
  have Hs := Lib.hid hs
  have Hs' := Lib.hid hs'
  clear hs hs'
  go_enter Tryz.func74, Tryz.ntmps74
  go_wp2_with (first | (go_at_call 95; refine (to_below (r_ints _ _ _)).mono ?_; rintro e w' ⟨rfl, hb⟩; obtain ⟨hc, hf⟩ := bcell hb) | (go_at_call 96; refine (to_below_drew (r_texts _ _ Hs.out Hs'.out _)).mono ?_; rintro e w' ⟨rfl, hb⟩; obtain ⟨hc, hf⟩ := bcell hb))
  go_ret
  exact ⟨rfl, (by repeat (first | exact Below.refl _ _ | (refine bel_trans ?_ (by assumption)) | apply bel_alloc | apply Below.drew))⟩
theorem r_Compare_2 (n : Int) (s : ByteArray) (n' : Int) (s' : ByteArray) (hs : s.size ≤ maxLen) (hs' : s'.size ≤ maxLen) (w : World) :
    Calls Tryz.prog 74 #[val 2 n s, val 2 n' s'] w fun e w' => e = .returned (.int .i64 (cmpT s s')) ∧ Below w.heap.size w w' := by
  have Hs := Lib.hid hs
  have Hs' := Lib.hid hs'
  clear hs hs'
  go_enter Tryz.func74, Tryz.ntmps74
  go_wp2_with (first | (go_at_call 95; refine (to_below (r_ints _ _ _)).mono ?_; rintro e w' ⟨rfl, hb⟩; obtain ⟨hc, hf⟩ := bcell hb) | (go_at_call 96; refine (to_below_drew (r_texts _ _ Hs.out Hs'.out _)).mono ?_; rintro e w' ⟨rfl, hb⟩; obtain ⟨hc, hf⟩ := bcell hb))
  go_ret
  exact ⟨rfl, (by repeat (first | exact Below.refl _ _ | (refine bel_trans ?_ (by assumption)) | apply bel_alloc | apply Below.drew))⟩
theorem r_Compare_x (k n : Int) (s : ByteArray) (n' : Int) (s' : ByteArray) (hs : s.size ≤ maxLen) (hs' : s'.size ≤ maxLen) (k0 : ¬ k = 0) (k1 : ¬ k = 1) (k2 : ¬ k = 2) (k3 : ¬ k = 3) (hc : ¬ cmpI n n' = 0) (w : World) :
    Calls Tryz.prog 74 #[val k n s, val k n' s'] w fun e w' => e = .returned (.int .i64 (cmpI n n')) ∧ Below w.heap.size w w' := by
  have Hs := Lib.hid hs
  have Hs' := Lib.hid hs'
  clear hs hs'
  have e0 : (k == 0) = false := by simpa using k0
  have e1 : (k == 1) = false := by simpa using k1
  have e2 : (k == 2) = false := by simpa using k2
  have e3 : (k == 3) = false := by simpa using k3
  clear k0 k1 k2 k3
  have hc' : (cmpI n n' != 0) = true := by simpa using hc
  go_enter Tryz.func74, Tryz.ntmps74
  go_wp2_with (first | (go_at_call 95; refine (to_below (r_ints _ _ _)).mono ?_; rintro e w' ⟨rfl, hb⟩; obtain ⟨hc, hf⟩ := bcell hb) | (go_at_call 96; refine (to_below_drew (r_texts _ _ Hs.out Hs'.out _)).mono ?_; rintro e w' ⟨rfl, hb⟩; obtain ⟨hc, hf⟩ := bcell hb))
  go_ret
  exact ⟨rfl, (by repeat (first | exact Below.refl _ _ | (refine bel_trans ?_ (by assumption)) | apply bel_alloc | apply Below.drew))⟩
theorem r_Compare_y (k n : Int) (s : ByteArray) (n' : Int) (s' : ByteArray) (hs : s.size ≤ maxLen) (hs' : s'.size ≤ maxLen) (k0 : ¬ k = 0) (k1 : ¬ k = 1) (k2 : ¬ k = 2) (k3 : ¬ k = 3) (hc : cmpI n n' = 0) (w : World) :
    Calls Tryz.prog 74 #[val k n s, val k n' s'] w fun e w' => e = .returned (.int .i64 (cmpT s s')) ∧ Below w.heap.size w w' := by
  have Hs := Lib.hid hs
  have Hs' := Lib.hid hs'
  clear hs hs'
  have e0 : (k == 0) = false := by simpa using k0
  have e1 : (k == 1) = false := by simpa using k1
  have e2 : (k == 2) = false := by simpa using k2
  have e3 : (k == 3) = false := by simpa using k3
  clear k0 k1 k2 k3
  have hc' : (cmpI n n' != 0) = false := by simpa using hc
  clear hc
  go_enter Tryz.func74, Tryz.ntmps74
  go_wp2_with (first | (go_at_call 95; refine (to_below (r_ints _ _ _)).mono ?_; rintro e w' ⟨rfl, hb⟩; obtain ⟨hc, hf⟩ := bcell hb) | (go_at_call 96; refine (to_below_drew (r_texts _ _ Hs.out Hs'.out _)).mono ?_; rintro e w' ⟨rfl, hb⟩; obtain ⟨hc, hf⟩ := bcell hb))
  go_ret
  exact ⟨rfl, (by repeat (first | exact Below.refl _ _ | (refine bel_trans ?_ (by assumption)) | apply bel_alloc | apply Below.drew))⟩
theorem r_Compare_k (k k' n : Int) (s : ByteArray) (n' : Int) (s' : ByteArray) (hs : s.size ≤ maxLen) (hs' : s'.size ≤ maxLen) (_ : 0 ≤ k) (_ : k ≤ 255) (_ : 0 ≤ k') (_ : k' ≤ 255) (hk : ¬ k = k') (w : World) :
    Calls Tryz.prog 74 #[val k n s, val k' n' s'] w fun e w' => e = .returned (.int .i64 (cmpI k k')) ∧ Below w.heap.size w w' := by
  have Hs := Lib.hid hs
  have Hs' := Lib.hid hs'
  clear hs hs'
  have hb : (k != k') = true := by simpa using hk
  have hb' : (k == k') = false := by simpa using hk
  clear hk
  go_enter Tryz.func74, Tryz.ntmps74
  go_wp2_with (first | (go_at_call 95; refine (to_below (r_ints _ _ _)).mono ?_; rintro e w' ⟨rfl, hb⟩; obtain ⟨hc, hf⟩ := bcell hb) | (go_at_call 96; refine (to_below_drew (r_texts _ _ Hs.out Hs'.out _)).mono ?_; rintro e w' ⟨rfl, hb⟩; obtain ⟨hc, hf⟩ := bcell hb))
  go_ret
  exact ⟨rfl, (by repeat (first | exact Below.refl _ _ | (refine bel_trans ?_ (by assumption)) | apply bel_alloc | apply Below.drew))⟩
theorem r_Compare (k n : Int) (s : ByteArray) (k' n' : Int) (s' : ByteArray) (hk : 0 ≤ k ∧ k ≤ 255) (hk' : 0 ≤ k' ∧ k' ≤ 255) (hs : s.size ≤ maxLen) (hs' : s'.size ≤ maxLen) (w : World) :
    Calls Tryz.prog 74 #[val k n s, val k' n' s'] w fun e w' => e = .returned (.int .i64 (cmpV k n s k' n' s')) ∧ Below w.heap.size w w' := by
  have kb := hk
  have kb' := hk'
  clear hk hk'
  by_cases hk : k = k'
  · subst hk
    by_cases k0 : k = 0
    · subst k0; exact r_Compare_0 n s n' s' hs hs' w
    by_cases k1 : k = 1
    · subst k1; exact r_Compare_1 n s n' s' hs hs' w
    by_cases k2 : k = 2
    · subst k2; exact r_Compare_2 n s n' s' hs hs' w
    by_cases k3 : k = 3
    · subst k3; exact r_Compare_3 n s n' s' hs hs' w
    by_cases hc : cmpI n n' = 0
    · rw [show cmpV k n s k n' s' = cmpT s s' by simp [cmpV, k0, k1, k2, k3, hc]]; exact r_Compare_y k n s n' s' hs hs' k0 k1 k2 k3 hc w
    · rw [show cmpV k n s k n' s' = cmpI n n' by simp [cmpV, k0, k1, k2, k3, hc]]; exact r_Compare_x k n s n' s' hs hs' k0 k1 k2 k3 hc w
  · rw [show cmpV k n s k' n' s' = cmpI k k' by simp [cmpV, hk]]; exact r_Compare_k k k' n s n' s' hs hs' kb.1 kb.2 kb'.1 kb'.2 hk w
/-- The first number that is not zero. -/
def orI (x y : Int) : Int := if x = 0 then y else x
theorem l_or (x y : Int) (b : Nat) (w : World) (h0 : w.cell? ⟨b, 0, none⟩ = some (.int .i64 x)) (h1 : w.cell? ⟨b, 1, none⟩ = some (.int .i64 y)) : Calls Tryz.prog 48 #[.slice (some ⟨b, 0, none⟩) 2 2] w fun e w' => e = .returned (.int .i64 (orI x y)) ∧ Below w.heap.size w w' := by
  go_enter Tryz.func48, Tryz.ntmps48
  go_wp2
  go_loop [8] (fun i => ∃ k : Nat, i = .int .i64 k ∧ k ≤ 2 ∧ Hid ((0 < k → x = 0) ∧ (1 < k → y = 0))) (fun i => 2 - (intOf i).toNat)
  case atStart => exact ⟨0, rfl, by omega, by omega, by omega⟩
  case round =>
    obtain ⟨k, rfl, hk, hx⟩ := hrel
    have hk3 : k = 0 ∨ k = 1 ∨ k = 2 := by omega
    rcases hk3 with rfl | rfl | rfl
    · by_cases h : x = 0
      · have h' : (x != 0) = false := by simpa using h
        have H := Lib.hid h
        clear h
        go_wp2
        go_round
        case rel => exact ⟨1, rfl, by omega, fun _ => H.out, by omega⟩
        case measure => simp [intOf]
      · have h' : (x != 0) = true := by simpa using h
        go_wp2
        go_ret
        exact ⟨ret_int (by rw [orI, if_neg h]), Below.refl _ _⟩
    · have hx0 := Lib.hid (hx.out.1 (by omega))
      by_cases h : y = 0
      · have h' : (y != 0) = false := by simpa using h
        have H := Lib.hid h
        clear h
        go_wp2
        go_round
        case rel => exact ⟨2, rfl, by omega, fun _ => hx0.out, fun _ => H.out⟩
        case measure => simp [intOf]
      · have h' : (y != 0) = true := by simpa using h
        go_wp2
        go_ret
        exact ⟨ret_int (by rw [orI, if_pos hx0.out]), Below.refl _ _⟩
    · have hx0 := hx.out
      go_wp2
      go_ret
      exact ⟨ret_int (by simp [orI]), Below.refl _ _⟩
theorem c_Compare_0 (n : Int) (s : ByteArray) (n' : Int) (s' : ByteArray) (hs : s.size ≤ maxLen) (hs' : s'.size ≤ maxLen) (w : World) :
    Calls Tryz.prog 83 #[val 0 n s, val 0 n' s'] w fun e w' => e = .returned (.int .i64 (0)) ∧ Below w.heap.size w w' := by
  have Hs := Lib.hid hs
  have Hs' := Lib.hid hs'
  clear hs hs'
  go_enter Tryz.func83, Tryz.ntmps83
  go_wp2_with (first | (go_at_call 101; refine (to_below (l_cmp64 _ _ _)).mono ?_; rintro e w' ⟨rfl, hb⟩; obtain ⟨hc, hf⟩ := bcell hb) | (go_at_call 100; refine (to_below (l_cmpK _ _ _)).mono ?_; rintro e w' ⟨rfl, hb⟩; obtain ⟨hc, hf⟩ := bcell hb) | (go_at_call 102; refine (to_below (l_strings _ _ _)).mono ?_; rintro e w' ⟨rfl, hb⟩; obtain ⟨hc, hf⟩ := bcell hb))
  go_ret
  exact ⟨rfl, (by repeat (first | exact Below.refl _ _ | (refine bel_trans ?_ (by assumption)) | apply bel_alloc | apply Below.drew))⟩
theorem c_Compare_1 (n : Int) (s : ByteArray) (n' : Int) (s' : ByteArray) (hs : s.size ≤ maxLen) (hs' : s'.size ≤ maxLen) (w : World) :
    Calls Tryz.prog 83 #[val 1 n s, val 1 n' s'] w fun e w' => e = .returned (.int .i64 (cmpI n n')) ∧ Below w.heap.size w w' := by
  have Hs := Lib.hid hs
  have Hs' := Lib.hid hs'
  clear hs hs'
  go_enter Tryz.func83, Tryz.ntmps83
  go_wp2_with (first | (go_at_call 101; refine (to_below (l_cmp64 _ _ _)).mono ?_; rintro e w' ⟨rfl, hb⟩; obtain ⟨hc, hf⟩ := bcell hb) | (go_at_call 100; refine (to_below (l_cmpK _ _ _)).mono ?_; rintro e w' ⟨rfl, hb⟩; obtain ⟨hc, hf⟩ := bcell hb) | (go_at_call 102; refine (to_below (l_strings _ _ _)).mono ?_; rintro e w' ⟨rfl, hb⟩; obtain ⟨hc, hf⟩ := bcell hb))
  go_ret
  exact ⟨rfl, (by repeat (first | exact Below.refl _ _ | (refine bel_trans ?_ (by assumption)) | apply bel_alloc | apply Below.drew))⟩
theorem c_Compare_3 (n : Int) (s : ByteArray) (n' : Int) (s' : ByteArray) (hs : s.size ≤ maxLen) (hs' : s'.size ≤ maxLen) (w : World) :
    Calls Tryz.prog 83 #[val 3 n s, val 3 n' s'] w fun e w' => e = .returned (.int .i64 (cmpI n n')) ∧ Below w.heap.size w w' := by
  have Hs := Lib.hid hs
  have Hs' := Lib.hid hs'
  clear hs hs'
  go_enter Tryz.func83, Tryz.ntmps83
  go_wp2_with (first | (go_at_call 101; refine (to_below (l_cmp64 _ _ _)).mono ?_; rintro e w' ⟨rfl, hb⟩; obtain ⟨hc, hf⟩ := bcell hb) | (go_at_call 100; refine (to_below (l_cmpK _ _ _)).mono ?_; rintro e w' ⟨rfl, hb⟩; obtain ⟨hc, hf⟩ := bcell hb) | (go_at_call 102; refine (to_below (l_strings _ _ _)).mono ?_; rintro e w' ⟨rfl, hb⟩; obtain ⟨hc, hf⟩ := bcell hb))
  go_ret
  exact ⟨rfl, (by repeat (first | exact Below.refl _ _ | (refine bel_trans ?_ (by assumption)) | apply bel_alloc | apply Below.drew))⟩
theorem c_Compare_2 (n : Int) (s : ByteArray) (n' : Int) (s' : ByteArray) (hs : s.size ≤ maxLen) (hs' : s'.size ≤ maxLen) (w : World) :
    Calls Tryz.prog 83 #[val 2 n s, val 2 n' s'] w fun e w' => e = .returned (.int .i64 (cmpT s s')) ∧ Below w.heap.size w w' := by
  have Hs := Lib.hid hs
  have Hs' := Lib.hid hs'
  clear hs hs'
  go_enter Tryz.func83, Tryz.ntmps83
  go_wp2_with (first | (go_at_call 101; refine (to_below (l_cmp64 _ _ _)).mono ?_; rintro e w' ⟨rfl, hb⟩; obtain ⟨hc, hf⟩ := bcell hb) | (go_at_call 100; refine (to_below (l_cmpK _ _ _)).mono ?_; rintro e w' ⟨rfl, hb⟩; obtain ⟨hc, hf⟩ := bcell hb) | (go_at_call 102; refine (to_below (l_strings _ _ _)).mono ?_; rintro e w' ⟨rfl, hb⟩; obtain ⟨hc, hf⟩ := bcell hb))
  go_ret
  exact ⟨rfl, (by repeat (first | exact Below.refl _ _ | (refine bel_trans ?_ (by assumption)) | apply bel_alloc | apply Below.drew))⟩
theorem c_Compare_x (k n : Int) (s : ByteArray) (n' : Int) (s' : ByteArray) (hs : s.size ≤ maxLen) (hs' : s'.size ≤ maxLen) (k0 : ¬ k = 0) (k1 : ¬ k = 1) (k2 : ¬ k = 2) (k3 : ¬ k = 3) (hc : ¬ cmpI n n' = 0) (w : World) :
    Calls Tryz.prog 83 #[val k n s, val k n' s'] w fun e w' => e = .returned (.int .i64 (cmpI n n')) ∧ Below w.heap.size w w' := by
  have Hs := Lib.hid hs
  have Hs' := Lib.hid hs'
  clear hs hs'
  have e0 : (k == 0) = false := by simpa using k0
  have e1 : (k == 1) = false := by simpa using k1
  have e2 : (k == 2) = false := by simpa using k2
  have e3 : (k == 3) = false := by simpa using k3
  clear k0 k1 k2 k3
  have hc0 := Lib.hid hc
  have hc' : (cmpI n n' != 0) = true := by simpa using hc
  go_enter Tryz.func83, Tryz.ntmps83
  go_wp2
  go_region_held3 (fun w' => w'.cell? ⟨w.heap.size, 1, none⟩ = some (.int .i64 n) ∧ w'.cell? ⟨w.heap.size, 2, none⟩ = some (.string s) ∧ w'.cell? ⟨w.heap.size + 1, 1, none⟩ = some (.int .i64 n') ∧ w'.cell? ⟨w.heap.size + 1, 2, none⟩ = some (.string s')) (simp [*, go_sem, World.cell?_alloc_past])
    (first | (go_at_call 101; refine (l_cmp64 _ _ _).mono ?_; rintro e w' ⟨rfl, rfl⟩) | (go_at_call 102; refine (l_strings _ _ _).mono ?_; rintro e w' ⟨rfl, rfl⟩) | (go_at_call 48; refine (l_or (cmpI n n') (cmpT s s') _ _ ?_ ?_).mono ?_; (simp [go_sem]); (simp [go_sem]); rintro e w' ⟨rfl, hb⟩; obtain ⟨hc, hf⟩ := bcell hb; have hz : w.heap.size + 1 < w'.heap.size := Nat.lt_of_lt_of_le (by simp) hb.size; have hz0 : w.heap.size < w'.heap.size := by omega))
  go_wp2
  go_ret
  exact ⟨ret_int (by unfold orI; exact if_neg hc0.out), (by repeat (first | exact Below.refl _ _ | (refine bel_trans ?_ (by assumption)) | apply bel_alloc | apply Below.drew))⟩
theorem c_Compare_y (k n : Int) (s : ByteArray) (n' : Int) (s' : ByteArray) (hs : s.size ≤ maxLen) (hs' : s'.size ≤ maxLen) (k0 : ¬ k = 0) (k1 : ¬ k = 1) (k2 : ¬ k = 2) (k3 : ¬ k = 3) (hc : cmpI n n' = 0) (w : World) :
    Calls Tryz.prog 83 #[val k n s, val k n' s'] w fun e w' => e = .returned (.int .i64 (cmpT s s')) ∧ Below w.heap.size w w' := by
  have Hs := Lib.hid hs
  have Hs' := Lib.hid hs'
  clear hs hs'
  have e0 : (k == 0) = false := by simpa using k0
  have e1 : (k == 1) = false := by simpa using k1
  have e2 : (k == 2) = false := by simpa using k2
  have e3 : (k == 3) = false := by simpa using k3
  clear k0 k1 k2 k3
  have hc0 := Lib.hid hc
  have hc' : (cmpI n n' != 0) = false := by simpa using hc
  clear hc
  go_enter Tryz.func83, Tryz.ntmps83
  go_wp2
  go_region_held3 (fun w' => w'.cell? ⟨w.heap.size, 1, none⟩ = some (.int .i64 n) ∧ w'.cell? ⟨w.heap.size, 2, none⟩ = some (.string s) ∧ w'.cell? ⟨w.heap.size + 1, 1, none⟩ = some (.int .i64 n') ∧ w'.cell? ⟨w.heap.size + 1, 2, none⟩ = some (.string s')) (simp [*, go_sem, World.cell?_alloc_past])
    (first | (go_at_call 101; refine (l_cmp64 _ _ _).mono ?_; rintro e w' ⟨rfl, rfl⟩) | (go_at_call 102; refine (l_strings _ _ _).mono ?_; rintro e w' ⟨rfl, rfl⟩) | (go_at_call 48; refine (l_or (cmpI n n') (cmpT s s') _ _ ?_ ?_).mono ?_; (simp [go_sem]); (simp [go_sem]); rintro e w' ⟨rfl, hb⟩; obtain ⟨hc, hf⟩ := bcell hb; have hz : w.heap.size + 1 < w'.heap.size := Nat.lt_of_lt_of_le (by simp) hb.size; have hz0 : w.heap.size < w'.heap.size := by omega))
  go_wp2
  go_ret
  exact ⟨ret_int (by unfold orI; exact if_pos hc0.out), (by repeat (first | exact Below.refl _ _ | (refine bel_trans ?_ (by assumption)) | apply bel_alloc | apply Below.drew))⟩
theorem c_Compare_k (k k' n : Int) (s : ByteArray) (n' : Int) (s' : ByteArray) (hs : s.size ≤ maxLen) (hs' : s'.size ≤ maxLen) (_ : 0 ≤ k) (_ : k ≤ 255) (_ : 0 ≤ k') (_ : k' ≤ 255) (hk : ¬ k = k') (w : World) :
    Calls Tryz.prog 83 #[val k n s, val k' n' s'] w fun e w' => e = .returned (.int .i64 (cmpI k k')) ∧ Below w.heap.size w w' := by
  have Hs := Lib.hid hs
  have Hs' := Lib.hid hs'
  clear hs hs'
  have hb : (k != k') = true := by simpa using hk
  have hb' : (k == k') = false := by simpa using hk
  clear hk
  go_enter Tryz.func83, Tryz.ntmps83
  go_wp2_with (first | (go_at_call 101; refine (to_below (l_cmp64 _ _ _)).mono ?_; rintro e w' ⟨rfl, hb⟩; obtain ⟨hc, hf⟩ := bcell hb) | (go_at_call 100; refine (to_below (l_cmpK _ _ _)).mono ?_; rintro e w' ⟨rfl, hb⟩; obtain ⟨hc, hf⟩ := bcell hb) | (go_at_call 102; refine (to_below (l_strings _ _ _)).mono ?_; rintro e w' ⟨rfl, hb⟩; obtain ⟨hc, hf⟩ := bcell hb))
  go_ret
  exact ⟨rfl, (by repeat (first | exact Below.refl _ _ | (refine bel_trans ?_ (by assumption)) | apply bel_alloc | apply Below.drew))⟩
theorem c_Compare (k n : Int) (s : ByteArray) (k' n' : Int) (s' : ByteArray) (hk : 0 ≤ k ∧ k ≤ 255) (hk' : 0 ≤ k' ∧ k' ≤ 255) (hs : s.size ≤ maxLen) (hs' : s'.size ≤ maxLen) (w : World) :
    Calls Tryz.prog 83 #[val k n s, val k' n' s'] w fun e w' => e = .returned (.int .i64 (cmpV k n s k' n' s')) ∧ Below w.heap.size w w' := by
  have kb := hk
  have kb' := hk'
  clear hk hk'
  by_cases hk : k = k'
  · subst hk
    by_cases k0 : k = 0
    · subst k0; exact c_Compare_0 n s n' s' hs hs' w
    by_cases k1 : k = 1
    · subst k1; exact c_Compare_1 n s n' s' hs hs' w
    by_cases k2 : k = 2
    · subst k2; exact c_Compare_2 n s n' s' hs hs' w
    by_cases k3 : k = 3
    · subst k3; exact c_Compare_3 n s n' s' hs hs' w
    by_cases hc : cmpI n n' = 0
    · rw [show cmpV k n s k n' s' = cmpT s s' by simp [cmpV, k0, k1, k2, k3, hc]]; exact c_Compare_y k n s n' s' hs hs' k0 k1 k2 k3 hc w
    · rw [show cmpV k n s k n' s' = cmpI n n' by simp [cmpV, k0, k1, k2, k3, hc]]; exact c_Compare_x k n s n' s' hs hs' k0 k1 k2 k3 hc w
  · rw [show cmpV k n s k' n' s' = cmpI k k' by simp [cmpV, hk]]; exact c_Compare_k k k' n s n' s' hs hs' kb.1 kb.2 kb'.1 kb'.2 hk w
end Go.Proofs.YtdipalinddfekaaGreatDoor.V
namespace Go.Proofs.YtdipalinddfekaaGreatDoor.M
/-- The pieces: a percent sign takes any piece, a low line any byte, any other byte itself. -/
def mt : List UInt8 → List UInt8 → Bool
  | t, [] => t.isEmpty
  | [], d :: p => if d = 37 then mt [] p else false
  | c :: t, d :: p => if d = 37 then mt (c :: t) p || mt t (d :: p) else if d = 95 ∨ d = c then mt t p else false
termination_by t p => t.length + p.length
theorem mt_nil (t : List UInt8) : mt t [] = t.isEmpty := by rw [mt]
theorem mt_end (d : UInt8) (p : List UInt8) : mt [] (d :: p) = if d = 37 then mt [] p else false := by rw [mt]
theorem mt_star (c : UInt8) (t p : List UInt8) : mt (c :: t) (37 :: p) = (mt (c :: t) p || mt t (37 :: p)) := by rw [mt, if_pos rfl]
theorem mt_char (c d : UInt8) (t p : List UInt8) (h : d ≠ 37) : mt (c :: t) (d :: p) = if d = 95 ∨ d = c then mt t p else false := by rw [mt, if_neg h]
theorem star_iff (q : List UInt8) : ∀ t : List UInt8, mt t (37 :: q) = true ↔ ∃ k, k ≤ t.length ∧ mt (t.drop k) q = true
  | [] => by
    rw [mt_end, if_pos rfl]
    exact ⟨fun h => ⟨0, by simp, h⟩, fun ⟨k, hk, h⟩ => by simpa using h⟩
  | c :: t => by
    rw [mt_star, Bool.or_eq_true, star_iff q t]
    constructor
    · rintro (h | ⟨k, hk, h⟩)
      · exact ⟨0, by simp, h⟩
      · exact ⟨k + 1, by simpa using hk, by simpa using h⟩
    · rintro ⟨k, hk, h⟩
      cases k with
      | zero => exact .inl (by simpa using h)
      | succ k => exact .inr ⟨k, by simpa using hk, by simpa using h⟩
/-- The first j bytes of the pattern stand for themselves, or for any byte. -/
def lit : Nat → List UInt8 → Prop
  | 0, _ => True
  | _ + 1, [] => False
  | j + 1, d :: p => d ≠ 37 ∧ lit j p
/-- .. and the text's first j bytes fit them. -/
def pre : Nat → List UInt8 → List UInt8 → Prop
  | 0, _, _ => True
  | j + 1, c :: t, d :: p => d ≠ 37 ∧ (d = 95 ∨ d = c) ∧ pre j t p
  | _ + 1, _, _ => False
theorem pre_lit : ∀ {j : Nat} {t p : List UInt8}, pre j t p → lit j p
  | 0, _, _, _ => trivial
  | j + 1, [], _, h => by simp [pre] at h
  | j + 1, _ :: _, [], h => by simp [pre] at h
  | j + 1, c :: t, d :: p, h => ⟨h.1, pre_lit h.2.2⟩
theorem pre_mt : ∀ {j : Nat} {t p : List UInt8}, pre j t p → mt t p = mt (t.drop j) (p.drop j)
  | 0, _, _, _ => by simp
  | j + 1, [], _, h => by simp [pre] at h
  | j + 1, _ :: _, [], h => by simp [pre] at h
  | j + 1, c :: t, d :: p, h => by rw [mt_char c d t p h.1, if_pos h.2.1, pre_mt h.2.2]; simp
theorem lit_mt : ∀ {j : Nat} {t p : List UInt8}, lit j p → mt t p = true → j ≤ t.length ∧ mt (t.drop j) (p.drop j) = true
  | 0, _, _, _, h => by simpa using h
  | j + 1, _, [], h, _ => by simp [lit] at h
  | j + 1, [], d :: p, h, hm => by rw [mt_end, if_neg h.1] at hm; cases hm
  | j + 1, c :: t, d :: p, h, hm => by
    rw [mt_char c d t p h.1] at hm
    split at hm
    · obtain ⟨h1, h2⟩ := lit_mt h.2 hm
      exact ⟨by simpa using h1, by simpa using h2⟩
    · cases hm
theorem pre_snoc : ∀ {j : Nat} {t p t' p' : List UInt8} {c d : UInt8}, pre j t p → t.drop j = c :: t' → p.drop j = d :: p' → d ≠ 37 → (d = 95 ∨ d = c) → pre (j + 1) t p
  | 0, t, p, t', p', c, d, _, ht, hp, h1, h2 => by
    simp only [List.drop_zero] at ht hp
    subst ht hp
    exact ⟨h1, h2, trivial⟩
  | j + 1, [], _, _, _, _, _, h, _, _, _, _ => by simp [pre] at h
  | j + 1, _ :: _, [], _, _, _, _, h, _, _, _, _ => by simp [pre] at h
  | j + 1, c :: t, d :: p, t', p', c', d', h, ht, hp, h1, h2 => ⟨h.1, h.2.1, pre_snoc h.2.2 (by simpa using ht) (by simpa using hp) h1 h2⟩
/-- What the two cursors have done so far. -/
def Inv (T P : List UInt8) (at' place : Nat) (after : Int) (piece : Nat) : Prop :=
  at' ≤ T.length ∧ place ≤ P.length ∧ piece ≤ at' ∧ after ≤ place ∧
  ((after = -1 ∧ mt T P = mt (T.drop at') (P.drop place)) ∨
   (∃ a j : Nat, after = a ∧ piece + j = at' ∧ a + j = place ∧ mt T P = mt (T.drop piece) (37 :: P.drop a) ∧ pre j (T.drop piece) (P.drop a)))
theorem inv_start (T P : List UInt8) : Inv T P 0 0 (-1) 0 := ⟨by omega, by omega, by omega, by omega, .inl ⟨rfl, by simp⟩⟩
theorem inv_star {T P : List UInt8} {at' place piece : Nat} {after : Int} (h : Inv T P at' place after piece) {p' : List UInt8} (hp : P.drop place = 37 :: p') : Inv T P at' (place + 1) (place + 1) at' := by
  obtain ⟨h1, h2, h3, h4, h5⟩ := h
  have hlt : place < P.length := by
    have := congrArg List.length hp
    simp at this
    omega
  have hd : P.drop (place + 1) = p' := by rw [← List.drop_drop, hp]; simp
  refine ⟨h1, hlt, Nat.le_refl _, by omega, .inr ⟨place + 1, 0, by omega, by omega, by omega, ?_, trivial⟩⟩
  rw [hd]
  rcases h5 with ⟨_, h5⟩ | ⟨a, j, _, hj, hpl, h5, hpre⟩
  · rw [h5, hp]
  · rw [h5]
    have hQ : (P.drop a).drop j = 37 :: p' := by rw [List.drop_drop, hpl]; exact hp
    have hT : (T.drop piece).drop j = T.drop at' := by rw [List.drop_drop, hj]
    rw [Bool.eq_iff_iff, star_iff]
    constructor
    · rintro ⟨k, hk, hm⟩
      obtain ⟨e1, e2⟩ := lit_mt (pre_lit hpre) hm
      rw [hQ, star_iff] at e2
      obtain ⟨k', hk', hm'⟩ := e2
      rw [star_iff]
      simp only [List.drop_drop, List.length_drop] at *
      refine ⟨k + k', by omega, ?_⟩
      rw [show at' + (k + k') = piece + k + j + k' by omega]
      exact hm'
    · intro hm
      refine ⟨0, by simp, ?_⟩
      rw [List.drop_zero, pre_mt hpre, hQ, hT]
      exact hm
theorem inv_char {T P : List UInt8} {at' place piece : Nat} {after : Int} (h : Inv T P at' place after piece) {c d : UInt8} {t' p' : List UInt8} (ht : T.drop at' = c :: t') (hp : P.drop place = d :: p')
    (h37 : d ≠ 37) (hcd : d = 95 ∨ d = c) : Inv T P (at' + 1) (place + 1) after piece := by
  obtain ⟨h1, h2, h3, h4, h5⟩ := h
  have hlt : place < P.length := by have := congrArg List.length hp; simp at this; omega
  have hlt' : at' < T.length := by have := congrArg List.length ht; simp at this; omega
  have hd : P.drop (place + 1) = p' := by rw [← List.drop_drop, hp]; simp
  have hd' : T.drop (at' + 1) = t' := by rw [← List.drop_drop, ht]; simp
  refine ⟨hlt', hlt, by omega, by omega, ?_⟩
  rcases h5 with ⟨ha, h5⟩ | ⟨a, j, ha, hj, hpl, h5, hpre⟩
  · refine .inl ⟨ha, ?_⟩
    rw [h5, ht, hp, mt_char c d t' p' h37, if_pos hcd, hd, hd']
  · exact .inr ⟨a, j + 1, ha, by omega, by omega, h5, pre_snoc hpre (by rw [List.drop_drop, hj]; exact ht) (by rw [List.drop_drop, hpl]; exact hp) h37 hcd⟩
/-- Where the cursors stand, nothing fits. -/
def Miss (T P : List UInt8) (at' place : Nat) : Prop := mt (T.drop at') (P.drop place) = false
theorem miss_char {T P : List UInt8} {at' place : Nat} {c d : UInt8} {t' p' : List UInt8} (ht : T.drop at' = c :: t') (hp : P.drop place = d :: p') (h1 : d ≠ 37) (h2 : d ≠ 95) (h3 : d ≠ c) : Miss T P at' place := by
  unfold Miss
  rw [ht, hp, mt_char c d t' p' h1, if_neg (by simp [h2, h3])]
theorem miss_end {T P : List UInt8} {at' place : Nat} (ht : at' < T.length) (hp : P.length ≤ place) : Miss T P at' place := by
  unfold Miss
  rw [List.drop_eq_nil_of_le hp, mt_nil, List.drop_eq_getElem_cons ht]
  rfl
theorem inv_back {T P : List UInt8} {at' place piece : Nat} {after : Int} (h : Inv T P at' place after piece) (hat : at' < T.length) (hm : Miss T P at' place) (ha : 0 ≤ after) :
    Inv T P (piece + 1) after.toNat after (piece + 1) := by
  obtain ⟨h1, h2, h3, h4, h5⟩ := h
  rcases h5 with ⟨ha', _⟩ | ⟨a, j, rfl, hj, hpl, h5, hpre⟩
  · omega
  · refine ⟨by omega, by omega, Nat.le_refl _, by omega, .inr ⟨a, 0, rfl, by omega, by omega, ?_, trivial⟩⟩
    rw [h5]
    have hlt : piece < T.length := by omega
    have hf : mt (T.drop piece) (P.drop a) = false := by
      rw [pre_mt hpre, List.drop_drop, List.drop_drop, hj, hpl]; exact hm
    rw [List.drop_eq_getElem_cons hlt] at hf ⊢
    rw [mt_star, hf, Bool.false_or]
theorem inv_fail {T P : List UInt8} {at' place piece : Nat} {after : Int} (h : Inv T P at' place after piece) (hm : Miss T P at' place) (ha : after < 0) : mt T P = false := by
  obtain ⟨h1, h2, h3, h4, h5⟩ := h
  rcases h5 with ⟨_, h5⟩ | ⟨a, j, rfl, _⟩
  · rw [h5]; exact hm
  · omega
theorem mt_stars : ∀ p : List UInt8, mt [] p = p.all (· == 37)
  | [] => by rw [mt_nil]; rfl
  | d :: p => by
    rw [mt_end, List.all_cons, mt_stars p]
    by_cases h : d = 37 <;> simp [h]
theorem inv_end {T P : List UInt8} {at' place piece : Nat} {after : Int} (h : Inv T P at' place after piece) (hat : T.length ≤ at') : mt T P = (P.drop place).all (· == 37) := by
  obtain ⟨h1, h2, h3, h4, h5⟩ := h
  rw [← mt_stars]
  have he : T.drop at' = [] := List.drop_eq_nil_of_le hat
  rcases h5 with ⟨_, h5⟩ | ⟨a, j, rfl, hj, hpl, h5, hpre⟩
  · rw [h5, he]
  · rw [h5]
    have hpm : mt (T.drop piece) (P.drop a) = mt [] (P.drop place) := by rw [pre_mt hpre, List.drop_drop, List.drop_drop, hj, hpl, he]
    rw [Bool.eq_iff_iff, star_iff]
    constructor
    · rintro ⟨k, hk, hm⟩
      obtain ⟨e1, _⟩ := lit_mt (pre_lit hpre) hm
      simp only [List.length_drop] at *
      have hk0 : k = 0 := by omega
      subst hk0
      rw [← hpm]
      simpa using hm
    · intro hm
      exact ⟨0, by simp, by rw [List.drop_zero, hpm]; exact hm⟩
end Go.Proofs.YtdipalinddfekaaGreatDoor.M
namespace Go.Proofs.YtdipalinddfekaaGreatDoor.K
open Go.Proofs.YtdipalinddfekaaGreatDoor.V
/-! ### Nodes -/
def ex (n : Int) : Int × Int := if Fits n then (n, 0) else (0, 4)
/-- A result of arithmetic, and its error. -/
def arith (op a b : Int) : Int × Int :=
  if op = 4 then ex (0 - b) else if op = 5 then ex (a + b) else if op = 6 then ex (a - b) else if op = 7 then ex (a * b)
  else if op = 8 then (if b = 0 then (0, 3) else ex (a.tdiv b)) else (if b = 0 then (0, 3) else (a.tmod b, 0))
def numO (op a b : Int) : Ot := if (arith op a b).2 ≠ 0 then fl (arith op a b).2 else ⟨1, (arith op a b).1, ⟨#[]⟩, 0⟩
def textO (s : ByteArray) : Ot := if 100 < s.size then fl 5 else ⟨2, 0, s, 0⟩
def cmpO (op c : Int) : Ot :=
  if op = 12 then bo (c == 0) else if op = 13 then bo (c != 0) else if op = 14 then bo (decide (c < 0)) else if op = 15 then bo (decide (c ≤ 0)) else if op = 16 then bo (decide (c > 0)) else bo (decide (c ≥ 0))
def matchO (s p : ByteArray) : Bool := M.mt s.data.toList p.data.toList
/-- A node whose kids are values that are not null. -/
def strictO (op : Int) (a b : Ot) : Ot :=
  if 4 ≤ op ∧ op ≤ 9 then numO op a.n b.n else if op = 10 then textO (a.s ++ b.s) else if op = 11 then ⟨1, (a.s.size : Int), ⟨#[]⟩, 0⟩
  else if op = 19 then bo (matchO a.s b.s) else if op = 22 then bo (!isT a) else cmpO op (cmpV a.k a.n a.s b.k b.n b.s)
def errs : Int → List Ot → Int
  | e, [] => e
  | e, o :: t => errs (lst e o.e) t
def choose : List Ot → Ot
  | [] => nul
  | [o] => o
  | c :: v :: t => if c.e ≠ 0 then c else if isT c then v else choose t
def first : List Ot → Ot
  | [] => nul
  | o :: t => if isN o then first t else o
def frst (l : List Ot) : Ot := l.headD nul
def scnd : List Ot → Ot
  | [] => nul
  | [o] => o
  | _ :: o :: _ => o
def fits (op : Int) (l : List Ot) : Bool := l.all Ot.ok && (kind op (l.map (·.k))).2 == 0
def sameO (a b : Ot) : Bool := a.e == b.e && same a.k a.n a.s b.k b.n b.s
/-- A node none of whose operators is lazy. -/
def strictR (op : Int) (l : List Ot) : Ot :=
  if errs 0 l ≠ 0 then fl (errs 0 l)
  else if op = 18 then bo (same (frst l).k (frst l).n (frst l).s (scnd l).k (scnd l).n (scnd l).s)
  else if op = 20 then bo (l.any isN)
  else if op = 21 then bo (isT (frst l))
  else if l.any isN then nul
  else strictO op (frst l) (scnd l)
/-- What a node comes to. -/
def node (op : Int) (l : List Ot) : Ot :=
  if fits op l then
    (if op = 23 then chain false false 0 l else if op = 24 then chain true false 0 l else if op = 25 then choose l else if op = 26 then first l else strictR op l)
  else fl 1
/-! ### Facts about kinds -/
theorem vd_kind {k n : Int} {s : ByteArray} (h : vd k n s = true) : k = 0 ∨ k = 1 ∨ k = 2 ∨ k = 3 := by
  unfold vd at h
  split at h
  · omega
  · split at h
    · omega
    · split at h
      · omega
      · split at h
        · omega
        · cases h
theorem ok_kind {o : Ot} (h : o.ok = true) : o.k = 0 ∨ o.k = 1 ∨ o.k = 2 ∨ o.k = 3 := by
  unfold Ot.ok at h
  split at h
  · exact vd_kind h
  · simp at h; omega
theorem ok_fails {o : Ot} (h : o.ok = true) (he : o.e ≠ 0) : isErr o.e = true ∧ o = fl o.e := by
  obtain ⟨k, n, s, e⟩ := o
  unfold Ot.ok at h
  rw [if_neg he, ba_nil'] at h
  simp at h
  obtain ⟨h, ⟨rfl, rfl⟩, hs⟩ := h
  exact ⟨h, by rw [ba_nil hs]⟩
theorem ok_null {o : Ot} (h : o.ok = true) (he : isN o = true) : o = nul := by
  obtain ⟨k, n, s, e⟩ := o
  simp [isN] at he
  obtain ⟨rfl, rfl⟩ := he
  simp [Ot.ok, vd] at h
  obtain ⟨rfl, hs⟩ := h
  rw [ba_nil hs]
theorem agree_iff {a b : Int} : agree a b = true ↔ a = b ∨ a = 0 ∨ b = 0 := by simp [agree]
theorem com_mem : ∀ {l : List Int} {o k : Int}, com o l = some k → (o = 0 ∨ o = k) ∧ ∀ x ∈ l, x = 0 ∨ x = k
  | [], o, k, h => by
    simp [com] at h
    exact ⟨.inr h, by simp⟩
  | y :: t, o, k, h => by
    rw [com] at h
    split at h
    · rename_i ha
      rw [agree_iff] at ha
      obtain ⟨h1, h2⟩ := com_mem h
      split at h1
      · rename_i h0
        subst h0
        refine ⟨.inl rfl, fun x hx => ?_⟩
        rcases List.mem_cons.1 hx with rfl | hx
        · exact h1
        · exact h2 x hx
      · rename_i h0
        have : o = k := by omega
        subst this
        refine ⟨.inr rfl, fun x hx => ?_⟩
        rcases List.mem_cons.1 hx with rfl | hx
        · omega
        · exact h2 x hx
    · cases h
theorem choose_mem : ∀ l : List Ot, (choose l).e ≠ 0 ∧ choose l ∈ l ∨ choose l = nul ∨ (choose l ∈ l ∧ (choose l).k ∈ (parts (l.map (·.k))).2)
  | [] => .inr (.inl rfl)
  | [o] => .inr (.inr ⟨by simp [choose], by simp [choose, parts]⟩)
  | c :: v :: t => by
    rw [choose]
    split
    · exact .inl ⟨by assumption, by simp⟩
    · split
      · exact .inr (.inr ⟨by simp, by simp [parts]⟩)
      · rcases choose_mem t with h | h | h
        · exact .inl ⟨h.1, by simp [h.2]⟩
        · exact .inr (.inl h)
        · exact .inr (.inr ⟨by simp [h.1], by simp [parts, h.2]⟩)
theorem first_mem : ∀ l : List Ot, first l = nul ∨ first l ∈ l
  | [] => .inl rfl
  | o :: t => by
    rw [first]
    split
    · rcases first_mem t with h | h
      · exact .inl h
      · exact .inr (by simp [h])
    · exact .inr (by simp)
theorem errs_is : ∀ (l : List Ot) (e : Int), l.all Ot.ok = true → (e = 0 ∨ isErr e = true) → errs e l = 0 ∨ isErr (errs e l) = true
  | [], e, _, he => he
  | o :: t, e, h, he => by
    rw [List.all_cons, Bool.and_eq_true] at h
    rw [errs]
    refine errs_is t _ h.2 ?_
    unfold lst
    split
    · by_cases h0 : o.e = 0
      · exact .inl h0
      · exact .inr (ok_fails h.1 h0).1
    · exact he
theorem ok_fl {e : Int} (h : isErr e = true) : (fl e).ok = true := by
  rcases err_cases h with rfl | rfl | rfl | rfl <;> simp [Ot.ok, isErr, ba_nil']
theorem ok_bo (b : Bool) : (bo b).ok = true := by cases b <;> simp [Ot.ok, vd, ba_nil']
theorem ok_nul : nul.ok = true := by simp [Ot.ok, vd, ba_nil']
theorem ex_err (n : Int) : (ex n).2 = 0 ∨ (ex n).2 = 4 := by unfold ex; split <;> simp
theorem arith_err (op a b : Int) : (arith op a b).2 = 0 ∨ isErr (arith op a b).2 = true := by
  have h : ∀ n, (ex n).2 = 0 ∨ isErr (ex n).2 = true := fun n => by
    rcases ex_err n with h | h
    · exact .inl h
    · rw [h]; exact .inr rfl
  unfold arith
  split
  · exact h _
  · split
    · exact h _
    · split
      · exact h _
      · split
        · exact h _
        · split
          · split
            · exact .inr rfl
            · exact h _
          · split
            · exact .inr rfl
            · exact .inl rfl
theorem cmpO_bo (op c : Int) : ∃ b, cmpO op c = bo b := by
  unfold cmpO
  repeat' split
  all_goals exact ⟨_, rfl⟩
theorem kind_ok {op : Int} {l : List Int} (h : (kind op l).2 = 0) : takes op l = true ∧ kindOf (sortOf op).1 l = some (kind op l).1 := by
  unfold kind at h ⊢
  cases ht : takes op l with
  | false => rw [ht] at h; simp at h
  | true =>
    rw [ht] at h
    rw [if_pos rfl] at h ⊢
    cases hk : kindOf (sortOf op).1 l with
    | none => rw [hk] at h; simp at h
    | some k => simp
theorem takes_op {op : Int} {l : List Int} (h : takes op l = true) : 4 ≤ op ∧ op ≤ 26 := by
  unfold takes at h
  have : ¬ (sortOf op).1 = 0 := by
    intro e; rw [e] at h; simp at h
  unfold sortOf at this
  split at this
  · omega
  · split at this
    · omega
    · split at this
      · omega
      · split at this
        · omega
        · split at this
          · omega
          · split at this
            · omega
            · split at this
              · omega
              · split at this
                · omega
                · split at this
                  · omega
                  · split at this
                    · omega
                    · split at this
                      · omega
                      · simp at this
/-- What a node comes to is valid, and null or of the kind that it has. -/
theorem node_fits {op : Int} {l : List Ot} (h : fits op l = true) : (node op l).ok = true ∧ ((node op l).k = 0 ∨ (node op l).k = (kind op (l.map (·.k))).1) := by
  have hf := h
  unfold fits at h
  rw [Bool.and_eq_true] at h
  obtain ⟨hv, hk⟩ := h
  obtain ⟨ht, hk⟩ := kind_ok (by simpa using hk)
  have hop := takes_op ht
  have hmem : ∀ o ∈ l, o.ok = true := List.all_eq_true.1 hv
  have he := errs_is l 0 hv (.inl rfl)
  unfold node
  rw [if_pos hf]
  generalize hK : (kind op (l.map (·.k))).1 = K at hk ⊢
  have hstr : 4 ≤ op ∧ op ≤ 22 → (strictR op l).ok = true ∧ ((strictR op l).k = 0 ∨ (strictR op l).k = K) := by
    intro hop
    unfold strictR
    split
    · rename_i h0
      exact ⟨ok_fl (he.resolve_left h0), .inl rfl⟩
    · have hK3 : (12 ≤ op ∧ op ≤ 22) → K = 3 := by
        intro ho
        have hs : (sortOf op).1 = 4 ∨ (sortOf op).1 = 5 ∨ (sortOf op).1 = 6 ∨ (sortOf op).1 = 7 := by
          unfold sortOf
          rw [if_neg (by omega), if_neg (by omega), if_neg (by omega), if_neg (by omega)]
          split
          · simp
          · split
            · simp
            · split
              · simp
              · rw [if_pos (by omega)]; simp
        unfold kindOf at hk
        rcases hs with hs | hs | hs | hs <;> rw [hs] at hk <;> simp at hk <;> omega
      have hbo : (12 ≤ op ∧ op ≤ 22) → ∀ b, (bo b).ok = true ∧ ((bo b).k = 0 ∨ (bo b).k = K) := fun ho b => ⟨ok_bo b, .inr (hK3 ho).symm⟩
      split
      · exact hbo (by omega) _
      · split
        · exact hbo (by omega) _
        · split
          · exact hbo (by omega) _
          · split
            · exact ⟨ok_nul, .inl rfl⟩
            · unfold strictO
              split
              · rename_i ho
                have hs : (sortOf op).1 = 1 := by
                  unfold sortOf
                  split
                  · rfl
                  · rw [if_pos (by omega)]
                unfold kindOf at hk
                rw [hs] at hk
                simp at hk
                unfold numO
                split
                · rename_i h0
                  exact ⟨ok_fl ((arith_err _ _ _).resolve_left h0), .inl rfl⟩
                · exact ⟨by simp [Ot.ok, vd, ba_nil'], .inr (by simp; omega)⟩
              · split
                · rename_i ho
                  subst ho
                  simp [sortOf, kindOf] at hk
                  unfold textO
                  split
                  · exact ⟨ok_fl rfl, .inl rfl⟩
                  · rename_i h1
                    exact ⟨by simp [Ot.ok, vd] at h1 ⊢; omega, .inr (by simp; omega)⟩
                · split
                  · rename_i ho
                    subst ho
                    simp [sortOf, kindOf] at hk
                    exact ⟨by simp [Ot.ok, vd, ba_nil'], .inr (by simp; omega)⟩
                  · split
                    · exact hbo (by omega) _
                    · split
                      · exact hbo (by omega) _
                      · obtain ⟨b, hb⟩ := cmpO_bo op (cmpV (frst l).k (frst l).n (frst l).s (scnd l).k (scnd l).n (scnd l).s)
                        rw [hb]
                        exact hbo (by omega) _
  have hch : ∀ d, (op = 23 ∨ op = 24) → (chain d false 0 l).ok = true ∧ ((chain d false 0 l).k = 0 ∨ (chain d false 0 l).k = K) := by
    intro d ho
    have hs : (sortOf op).1 = 8 := by rcases ho with rfl | rfl <;> rfl
    rw [hs] at hk
    simp [kindOf] at hk
    have htr : l.all tr = true := by
      rw [List.all_eq_true]
      intro o hm
      have ha := List.all_eq_true.1 hk.1 o.k (List.mem_map.2 ⟨o, hm, rfl⟩)
      rw [agree_iff] at ha
      unfold tr
      rw [hmem o hm, Bool.true_and]
      simp; omega
    rw [chain_is d htr]
    have hr := mr_is (d := d) htr
    refine ⟨?_, ?_⟩
    · have := tr_dec (d := d) hr
      unfold tr at this
      rw [Bool.and_eq_true] at this
      exact this.1
    · rcases hr with e | e | e | e | e | e | e <;> rw [e] <;> simp [dec] <;> omega
  split
  · exact hch _ (by omega)
  · split
    · exact hch _ (by omega)
    · split
      · rename_i ho
        subst ho
        have hs : (sortOf 25).1 = 9 := rfl
        rw [hs] at hk
        simp [kindOf] at hk
        rcases choose_mem l with ⟨h0, hm⟩ | h | ⟨hm, h2⟩
        · have := (ok_fails (hmem _ hm) h0).2
          exact ⟨hmem _ hm, .inl (by rw [this])⟩
        · rw [h]; exact ⟨ok_nul, .inl rfl⟩
        · exact ⟨hmem _ hm, (com_mem hk.2).2 _ h2⟩
      · split
        · rename_i ho
          subst ho
          have hs : (sortOf 26).1 = 10 := rfl
          rw [hs] at hk
          simp [kindOf] at hk
          rcases first_mem l with h | h
          · rw [h]; exact ⟨ok_nul, .inl rfl⟩
          · exact ⟨hmem _ h, (com_mem hk).2 _ (List.mem_map.2 ⟨_, h, rfl⟩)⟩
        · exact hstr (by omega)
end Go.Proofs.YtdipalinddfekaaGreatDoor.K
