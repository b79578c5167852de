/- What strconv.ParseUint says of digits, against their number; letters turned. -/
import Derived.Test.YtdcanjfdgfpdfaaGreatDoorLx
import Derived.Lib.ParseIntB
import Derived.Lib.Case
namespace Go.Proofs.YtdcanjfdgfpdfaaGreatDoor.Lx
open Go.Lib
/-- The digits' number is at most 2^63. -/
def small63 (n : Nat) : Bool := decide (n ≤ 9223372036854775808)
def okU (r : NumEnd Nat) : Bool := match r with
  | .ok u => small63 u
  | _ => false
def isNum (l : Bs) : Bool := decide (l ≠ []) && l.all digit && small63 (num 0 l)
theorem num_cons (a : Nat) (b : UInt8) (t : Bs) : num a (b :: t) = num (a * 10 + (b.toNat - 48)) t := List.foldl_cons ..
theorem num_ge (l : Bs) : ∀ a : Nat, a ≤ num a l := by
  induction l with
  | nil => intro a; exact Nat.le_refl _
  | cons b t ih =>
    intro a
    rw [num_cons]
    have := ih (a * 10 + (b.toNat - 48))
    omega
theorem okM : ∀ (l : Bs) (a : Nat), okU (parseUintM 18446744073709551615 a l) = (l.all digit && small63 (num a l))
  | [], a => by simp [parseUintM, okU, num]
  | c :: r, a => by
    rw [parseUintM, List.all_cons, num_cons]
    have hd : (48 ≤ c.toNat ∧ c.toNat ≤ 57) ↔ digit c = true := by simp [digit]
    have ge := num_ge r (a * 10 + (c.toNat - 48))
    by_cases h : 48 ≤ c.toNat ∧ c.toNat ≤ 57
    · rw [if_pos h, hd.1 h, Bool.true_and]
      split
      · have : small63 (num (a * 10 + (c.toNat - 48)) r) = false := by unfold small63; rw [decide_eq_false_iff_not]; omega
        rw [this, Bool.and_false]; rfl
      · split
        · have : small63 (num (a * 10 + (c.toNat - 48)) r) = false := by unfold small63; rw [decide_eq_false_iff_not]; omega
          rw [this, Bool.and_false]; rfl
        · exact okM r _
    · rw [if_neg h]
      have : digit c = false := by rw [Bool.eq_false_iff]; exact fun e => h (hd.2 e)
      rw [this]; rfl
theorem okB (l : Bs) : okU (parseUintB 64 l) = isNum l := by
  unfold parseUintB isNum
  by_cases h : l = []
  · rw [if_pos h, h]; rfl
  · rw [if_neg h]
    simp only [ne_eq, h, not_false_eq_true, decide_true, Bool.true_and]
    exact okM l 0
theorem upper_is : upperB = up := by
  funext b
  simp only [upperB, up, isLowerB, small]
  rfl
theorem lower_is : lowerB = low := by
  funext b
  simp only [lowerB, low, isUpperB, cap]
  rfl
theorem tw_mem {p : UInt8 → Bool} : ∀ {l : Bs} {b : UInt8}, b ∈ l.takeWhile p → p b = true
  | c :: t, b, h => by
    by_cases hc : p c = true
    · rw [List.takeWhile_cons_of_pos hc] at h
      rcases List.mem_cons.1 h with rfl | h
      · exact hc
      · exact tw_mem h
    · rw [List.takeWhile_cons_of_neg hc] at h; cases h
theorem number_is {l : Bs} (h : l.head?.any digit = true) : number l = if isNum (l.takeWhile digit) = false then .err 23 else if (l.dropWhile digit).head?.any letter then .err 24 else .ok 3 (l.takeWhile digit) (l.takeWhile digit).length := by
  have h0 : l.takeWhile digit ≠ [] := by
    cases l with
    | nil => simp at h
    | cons b t =>
      rw [List.takeWhile_cons_of_pos (by simpa using h)]; simp
  have h1 : (l.takeWhile digit).all digit = true := by
    rw [List.all_eq_true]
    intro b hb
    exact tw_mem hb
  unfold number isNum
  simp only [ne_eq, h0, not_false_eq_true, decide_true, Bool.true_and, h1, small63, decide_eq_false_iff_not, Nat.not_le]
end Go.Proofs.YtdcanjfdgfpdfaaGreatDoor.Lx
