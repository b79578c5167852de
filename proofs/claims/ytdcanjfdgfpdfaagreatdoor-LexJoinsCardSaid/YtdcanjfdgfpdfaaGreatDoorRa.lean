/- Contracts of the reference's functions on bytes and letters. -/
import Derived.Test.YtdcanjfdgfpdfaaGreatDoorAw
import Derived.Lib.ConvBytes
import Derived.Lib.SlBytesRow
namespace Go.Proofs.YtdcanjfdgfpdfaaGreatDoor.V
open Go.ChangeShapes Go.WideShapes Go.ChangeAt Go.RowKit Go.Shelf
theorem letter_n (b : UInt8) : Lx.letter b = decide ((97 ≤ b.toNat ∧ b.toNat ≤ 122) ∨ (65 ≤ b.toNat ∧ b.toNat ≤ 90) ∨ b.toNat = 95) := by
  have e : ∀ c : UInt8, (b = c) = (b.toNat = c.toNat) := fun c => propext UInt8.toNat_inj.symm
  rw [Bool.eq_iff_iff]
  simp only [Lx.letter, Lx.small, Lx.cap, Bool.or_eq_true, Bool.and_eq_true, decide_eq_true_eq, beq_iff_eq, e, or_assoc]
  rfl
theorem digit_n (b : UInt8) : Lx.digit b = decide (48 ≤ b.toNat ∧ b.toNat ≤ 57) := by
  rw [Bool.eq_iff_iff]
  simp only [Lx.digit, Bool.and_eq_true, decide_eq_true_eq]
theorem blank_n (b : UInt8) : Lx.blank b = decide (b.toNat = 32 ∨ b.toNat = 9 ∨ b.toNat = 10 ∨ b.toNat = 13) := by
  have e : ∀ c : UInt8, (b = c) = (b.toNat = c.toNat) := fun c => propext UInt8.toNat_inj.symm
  rw [Bool.eq_iff_iff]
  simp only [Lx.blank, Bool.or_eq_true, decide_eq_true_eq, beq_iff_eq, e, or_assoc]
  rfl
theorem r_isLetter (b : UInt8) (w : World) : Calls Tryz.prog 27 #[.int .u8 (b.toNat : Int)] w fun e w' => e = .returned (.bool (Lx.letter b)) ∧ w = w' := by
  have hb : b.toNat < 256 := b.toNat_lt
  have K := Lib.hid (letter_n b)
  generalize hn : b.toNat = n at *
  clear hn
  go_enter Tryz.func27, Tryz.ntmps27
  go_wp2
  all_goals
    go_ret
    refine ⟨ret_bool ?_, rfl⟩
    rw [K.out]
    first
      | (symm; rw [decide_eq_true_eq]; omega)
      | (symm; rw [decide_eq_false_iff_not]; omega)
      | (rw [decide_eq_decide]; omega)
      | (rw [Bool.eq_iff_iff]; simp; omega)
theorem r_isDigit (b : UInt8) (w : World) : Calls Tryz.prog 29 #[.int .u8 (b.toNat : Int)] w fun e w' => e = .returned (.bool (Lx.digit b)) ∧ w = w' := by
  have hb : b.toNat < 256 := b.toNat_lt
  have K := Lib.hid (digit_n b)
  generalize hn : b.toNat = n at *
  clear hn
  go_enter Tryz.func29, Tryz.ntmps29
  go_wp2
  all_goals
    go_ret
    refine ⟨ret_bool ?_, rfl⟩
    rw [K.out]
    first
      | (symm; rw [decide_eq_true_eq]; omega)
      | (symm; rw [decide_eq_false_iff_not]; omega)
      | (rw [decide_eq_decide]; omega)
      | (rw [Bool.eq_iff_iff]; simp; omega)
theorem r_isBlank (b : UInt8) (w : World) : Calls Tryz.prog 26 #[.int .u8 (b.toNat : Int)] w fun e w' => e = .returned (.bool (Lx.blank b)) ∧ w = w' := by
  have hb : b.toNat < 256 := b.toNat_lt
  have K := Lib.hid (blank_n b)
  generalize hn : b.toNat = n at *
  clear hn
  go_enter Tryz.func26, Tryz.ntmps26
  go_wp2
  all_goals
    go_ret
    refine ⟨ret_bool ?_, rfl⟩
    rw [K.out]
    first
      | (symm; rw [decide_eq_true_eq]; simp only [beq_iff_eq] at *; omega)
      | (symm; rw [decide_eq_false_iff_not]; simp only [beq_eq_false_iff_ne] at *; omega)
      | (rw [decide_eq_decide]; omega)
      | (rw [Bool.eq_iff_iff]; simp at *; omega)
theorem lenL (s : ByteArray) : s.data.toList.length = s.size := by simp
/-- A byte of a text. -/
def byteAt (x : ByteArray) (j : Nat) : UInt8 := x.data.toList.getD j 0
/-- The row of bytes when k of them are turned. -/
def turned (f : UInt8 → UInt8) (x : ByteArray) (k j : Nat) : UInt8 := if j < k then f (byteAt x j) else byteAt x j
theorem new_row (w : World) (e : TypeId) (x : ByteArray) (f : UInt8 → UInt8) : ∀ j, j < x.size → Cell (Lib.bytesWorld w e x) w.heap.size j (.int .u8 ((turned f x 0 j).toNat : Int)) := by
  intro j hj
  refine ⟨?_, ?_⟩
  · rw [Lib.bytesWorld_cell w e x j hj]; rfl
  · have h := Lib.bytesWorld_at_new w e x
    simp only [World.frozen?, h]
    have : (Lib.bytesCells w e x).size ≥ x.size := by
      simp [Lib.bytesCells]
    simp; omega
theorem row_turn {W : World} {g k : Nat} {x : ByteArray} {f : UInt8 → UInt8} (h : ∀ j, j < x.size → Cell W g j (.int .u8 ((turned f x k j).toNat : Int))) (hk : k < x.size) :
    ∀ j, j < x.size → Cell (W.setCell ⟨g, k, none⟩ (.int .u8 ((f (byteAt x k)).toNat : Int))) g j (.int .u8 ((turned f x (k + 1) j).toNat : Int)) := by
  intro j hj
  by_cases e : j = k
  · subst e
    have : turned f x (j + 1) j = f (byteAt x j) := by unfold turned; rw [if_pos (by omega)]
    rw [this]
    exact Cell.same (h j hj) _
  · have : turned f x (k + 1) j = turned f x k j := by unfold turned; by_cases hjk : j < k <;> simp [hjk] <;> omega
    rw [this]
    exact Cell.other (h j hj) _ (.inr e)
theorem row_stay {W : World} {g k : Nat} {x : ByteArray} {f : UInt8 → UInt8} (h : ∀ j, j < x.size → Cell W g j (.int .u8 ((turned f x k j).toNat : Int))) (hf : f (byteAt x k) = byteAt x k) :
    ∀ j, j < x.size → Cell W g j (.int .u8 ((turned f x (k + 1) j).toNat : Int)) := by
  intro j hj
  have : turned f x (k + 1) j = turned f x k j := by
    unfold turned
    by_cases hjk : j < k
    · rw [if_pos hjk, if_pos (by omega)]
    · by_cases e : j = k
      · subst e; rw [if_pos (by omega), if_neg (by omega), hf]
      · rw [if_neg hjk, if_neg (by omega)]
  rw [this]
  exact h j hj
theorem back_string (W : World) (g cap : Nat) (x : ByteArray) (f : UInt8 → UInt8) (h : ∀ j, j < x.size → Cell W g j (.int .u8 ((turned f x x.size j).toNat : Int))) :
    (convert 43 9 (.slice (some ⟨g, 0, none⟩) x.size cap)).run Tryz.prog W = .ok (.string ⟨(x.data.toList.map f).toArray⟩) W := by
  have hl : (⟨(x.data.toList.map f).toArray⟩ : ByteArray).size = x.size := by rw [← lenL]; simp
  have k := Lib.run_convert_whole (P := Tryz.prog) W 43 5 9 Tryz.underlying43 Tryz.underlying5 Tryz.underlying9 g 0 ⟨(x.data.toList.map f).toArray⟩ (fun i hi => by
    have hx : i < x.size := by rw [← hl]; exact hi
    have := (h i hx).1
    rw [Nat.zero_add, this]
    have e : (turned f x x.size i) = (⟨(x.data.toList.map f).toArray⟩ : ByteArray)[i] := by
      unfold turned byteAt
      rw [if_pos hx, List.getD_eq_getElem?_getD, at_get x i hx]
      show _ = ((x.data.toList.map f).toArray)[i]
      rw [List.getElem_toArray, List.getElem_map]
      rfl
    rw [e]) cap
  rw [hl] at k
  exact k
theorem byte_is (x : ByteArray) (k : Nat) (h : k < x.size) : byteAt x k = x[k] := by
  unfold byteAt
  rw [List.getD_eq_getElem?_getD, at_get x k h]; rfl
theorem up_small {b : UInt8} (h1 : 97 ≤ b.toNat) (h2 : b.toNat ≤ 122) : ((Lx.up b).toNat : Int) = (b.toNat : Int) - 32 := by
  have : Lx.small b = true := by simp [Lx.small, h1, h2]
  rw [Lx.up, if_pos this, UInt8.toNat_sub_of_le _ _ (by rw [UInt8.le_iff_toNat_le]; show 32 ≤ b.toNat; omega)]
  show ((b.toNat - 32 : Nat) : Int) = _
  omega
theorem up_other {b : UInt8} (h : ¬ (97 ≤ b.toNat ∧ b.toNat ≤ 122)) : Lx.up b = b := by
  have : ¬ Lx.small b = true := by simpa [Lx.small] using h
  rw [Lx.up, if_neg this]
theorem low_cap {b : UInt8} (h1 : 65 ≤ b.toNat) (h2 : b.toNat ≤ 90) : ((Lx.low b).toNat : Int) = (b.toNat : Int) + 32 := by
  have : Lx.cap b = true := by simp [Lx.cap, h1, h2]
  rw [Lx.low, if_pos this, UInt8.toNat_add]
  show (((b.toNat + 32) % 256 : Nat) : Int) = _
  omega
theorem low_other {b : UInt8} (h : ¬ (65 ≤ b.toNat ∧ b.toNat ≤ 90)) : Lx.low b = b := by
  have : ¬ Lx.cap b = true := by simpa [Lx.cap] using h
  rw [Lx.low, if_neg this]
set_option maxHeartbeats 1000000 in
theorem r_foldedUp (x : ByteArray) (hx : x.size ≤ 4000) (w : World) : Calls Tryz.prog 52 #[.string x, .bool true] w fun e w' => e = .returned (.string ⟨(x.data.toList.map Lx.up).toArray⟩) ∧ Below w.heap.size w w' := by
  have hcv := fun w => Lib.run_convert_string_bytes (P := Tryz.prog) w 9 43 5 x Tryz.underlying9 Tryz.underlying43 Tryz.underlying5
  have HN := Lib.hid (new_row w 5 x Lx.up)
  have HB := Lib.hid (Joins.below_bytesWorld w.heap.size w 5 x (Nat.le_refl _))
  go_enter Tryz.func52, Tryz.ntmps52
  go_wp2
  clear hcv
  generalize Lib.bytesWorld w 5 x = w0 at HN HB ⊢
  generalize grownCap w x.size 0 5 = cap
  go_loopw [6] (fun s6 wr => ∃ k : Nat, k ≤ x.size ∧ s6 = .int .i64 k ∧ Hid (∀ j, j < x.size → Cell wr w.heap.size j (.int .u8 ((turned Lx.up x k j).toNat : Int))) ∧ Hid (Below w.heap.size w wr)) (fun s6 _ => x.size - (intOf s6).toNat)
  case atStart => exact ⟨0, by omega, rfl, HN, HB⟩
  case round =>
    obtain ⟨k, hk, rfl, HR, HW⟩ := hrel
    by_cases hlt : k < x.size
    · obtain ⟨c0, f0⟩ := HR.out k hlt
      have hb : byteAt x k = x[k] := byte_is x k hlt
      have ht : turned Lx.up x k k = byteAt x k := by unfold turned; rw [if_neg (by omega)]
      rw [ht] at c0
      by_cases hs : 97 ≤ (byteAt x k).toNat ∧ (byteAt x k).toNat ≤ 122
      · have h1 : (97 : Int) ≤ (byteAt x k).toNat := by omega
        have h2 : ((byteAt x k).toNat : Int) ≤ 122 := by omega
        have HR2 := Lib.hid (row_turn HR.out hlt)
        rw [up_small hs.1 hs.2] at HR2
        generalize (byteAt x k).toNat = n at *
        clear ht hb hs HR
        go_wp2
        go_roundw
        case rel => exact ⟨k + 1, by omega, by go_num, HR2, bel_set HW.out (Nat.le_refl _) _⟩
        case measure => simp [intOf]; omega
      · have HR2 := Lib.hid (row_stay HR.out (up_other hs))
        have hlt256 : (byteAt x k).toNat < 256 := UInt8.toNat_lt _
        generalize (byteAt x k).toNat = n at *
        clear ht hb HR
        by_cases h1 : 97 ≤ n
        · have h1' : (97 : Int) ≤ n := by omega
          have h2' : (122 : Int) < n := by omega
          clear hs
          go_wp2
          go_roundw
          case rel => exact ⟨k + 1, by omega, by go_num, HR2, HW⟩
          case measure => simp [intOf]; omega
        · have h1' : (n : Int) < 97 := by omega
          clear hs
          go_wp2
          go_roundw
          case rel => exact ⟨k + 1, by omega, by go_num, HR2, HW⟩
          case measure => simp [intOf]; omega
    · obtain rfl : k = x.size := by omega
      have hcb := fun W h => back_string W w.heap.size cap x Lx.up h
      have hcc := hcb wr HR.out
      clear hcb
      go_wp2
      go_ret
      exact ⟨rfl, HW.out⟩
set_option maxHeartbeats 1000000 in
theorem r_foldedLow (x : ByteArray) (hx : x.size ≤ 4000) (w : World) : Calls Tryz.prog 52 #[.string x, .bool false] w fun e w' => e = .returned (.string ⟨(x.data.toList.map Lx.low).toArray⟩) ∧ Below w.heap.size w w' := by
  have hcv := fun w => Lib.run_convert_string_bytes (P := Tryz.prog) w 9 43 5 x Tryz.underlying9 Tryz.underlying43 Tryz.underlying5
  have HN := Lib.hid (new_row w 5 x Lx.low)
  have HB := Lib.hid (Joins.below_bytesWorld w.heap.size w 5 x (Nat.le_refl _))
  go_enter Tryz.func52, Tryz.ntmps52
  go_wp2
  clear hcv
  generalize Lib.bytesWorld w 5 x = w0 at HN HB ⊢
  generalize grownCap w x.size 0 5 = cap
  go_loopw [6] (fun s6 wr => ∃ k : Nat, k ≤ x.size ∧ s6 = .int .i64 k ∧ Hid (∀ j, j < x.size → Cell wr w.heap.size j (.int .u8 ((turned Lx.low x k j).toNat : Int))) ∧ Hid (Below w.heap.size w wr)) (fun s6 _ => x.size - (intOf s6).toNat)
  case atStart => exact ⟨0, by omega, rfl, HN, HB⟩
  case round =>
    obtain ⟨k, hk, rfl, HR, HW⟩ := hrel
    by_cases hlt : k < x.size
    · obtain ⟨c0, f0⟩ := HR.out k hlt
      have hb : byteAt x k = x[k] := byte_is x k hlt
      have ht : turned Lx.low x k k = byteAt x k := by unfold turned; rw [if_neg (by omega)]
      rw [ht] at c0
      by_cases hs : 65 ≤ (byteAt x k).toNat ∧ (byteAt x k).toNat ≤ 90
      · have h1 : (65 : Int) ≤ (byteAt x k).toNat := by omega
        have h2 : ((byteAt x k).toNat : Int) ≤ 90 := by omega
        have HR2 := Lib.hid (row_turn HR.out hlt)
        rw [low_cap hs.1 hs.2] at HR2
        generalize (byteAt x k).toNat = n at *
        clear ht hb hs HR
        go_wp2
        go_roundw
        case rel => exact ⟨k + 1, by omega, by go_num, HR2, bel_set HW.out (Nat.le_refl _) _⟩
        case measure => simp [intOf]; omega
      · have HR2 := Lib.hid (row_stay HR.out (low_other hs))
        have hlt256 : (byteAt x k).toNat < 256 := UInt8.toNat_lt _
        generalize (byteAt x k).toNat = n at *
        clear ht hb HR
        by_cases h1 : 65 ≤ n
        · have h1' : (65 : Int) ≤ n := by omega
          have h2' : (90 : Int) < n := by omega
          clear hs
          go_wp2
          go_roundw
          case rel => exact ⟨k + 1, by omega, by go_num, HR2, HW⟩
          case measure => simp [intOf]; omega
        · have h1' : (n : Int) < 65 := by omega
          clear hs
          go_wp2
          go_roundw
          case rel => exact ⟨k + 1, by omega, by go_num, HR2, HW⟩
          case measure => simp [intOf]; omega
    · obtain rfl : k = x.size := by omega
      have hcc := back_string wr w.heap.size cap x Lx.low HR.out
      go_wp2
      go_ret
      exact ⟨rfl, HW.out⟩
end Go.Proofs.YtdcanjfdgfpdfaaGreatDoor.V
