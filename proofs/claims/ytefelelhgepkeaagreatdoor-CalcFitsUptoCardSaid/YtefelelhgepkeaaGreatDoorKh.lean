/- Kinds: the table of the program, and that of the reference. -/
import Derived.Test.YtefelelhgepkeaaGreatDoorKg
namespace Go.Proofs.YtefelelhgepkeaaGreatDoor.K
open Go.ChangeShapes Go.WideShapes Go.ChangeAt Go.RowKit Go.Proofs.YtefelelhgepkeaaGreatDoor.V
/-! ### The program's table -/
/-- The fewest and the most kids, the kind of the kids, that of the node. -/
def sg (op : Int) : Int × Int × Int × Int :=
  if op = 4 then (1, 1, 1, 1) else if 5 ≤ op ∧ op ≤ 9 then (2, 2, 1, 1) else if op = 10 then (2, 2, 2, 2) else if op = 11 then (1, 1, 2, 1) else if 12 ≤ op ∧ op ≤ 18 then (2, 2, 0, 3) else if op = 19 then (2, 2, 2, 3)
  else if op = 20 then (1, 1, 0, 3) else if op = 21 ∨ op = 22 then (1, 1, 3, 3) else if op = 23 ∨ op = 24 then (0, 9223372036854775807, 3, 3) else if op = 25 then (2, 9223372036854775807, 0, 0) else if op = 26 then (1, 9223372036854775807, 0, 0) else (0, 0, 0, 0)
def has (op : Int) : Bool := decide (4 ≤ op ∧ op ≤ 26)
def kindP (op : Int) (l : List Int) : Int × Int :=
  if !has op || decide ((l.length : Int) < (sg op).1) || decide ((l.length : Int) > (sg op).2.1) || l.any (fun k => decide (k > 3)) then (0, 1)
  else match com 3 (if op = 25 then (parts l).1 else []), com (sg op).2.2.1 (if op = 25 then (parts l).2 else l) with
    | some _, some k => (if (sg op).2.2.2 ≠ 0 then (sg op).2.2.2 else k, 0)
    | _, _ => (0, 50)
theorem any_gt (l : List Int) : l.any (fun k => decide (k > 3)) = !l.all (fun k => decide (k ≤ 3)) := by
  rw [Bool.eq_iff_iff]
  simp
theorem com3 : com 3 ([] : List Int) = some 3 := rfl
theorem ag3 : allAg [] 3 = true := rfl
theorem kindP_is {op : Int} {l : List Int} (hl : l.length ≤ 9223372036854775807) : kindP op l = kind op l := by
  unfold kindP kind takes
  rw [any_gt]
  cases ha : l.all (fun k => decide (k ≤ 3)) with
  | false => simp
  | true =>
    simp only [Bool.not_true, Bool.or_false, Bool.and_true]
    by_cases ho : 4 ≤ op ∧ op ≤ 26
    · have hh : has op = true := by simp [has, ho]
      rw [hh]
      simp only [Bool.not_true, Bool.false_or]
      have hone : ∀ {a b : Int}, (l.length : Int) = a → a = 1 → ∃ x, l = [x] := by
        intro a b h1 h2
        match l, h1, h2 with
        | [x], _, _ => exact ⟨x, rfl⟩
        | [], h1, h2 => simp at h1; omega
        | _ :: _ :: _, h1, h2 => simp at h1; omega
      by_cases g1 : op = 23 ∨ op = 24
      · have e1 : sg op = (0, 9223372036854775807, 3, 3) := by rcases g1 with rfl | rfl <;> rfl
        have e2 : sortOf op = (8, -1) := by rcases g1 with rfl | rfl <;> rfl
        have e3 : ¬ op = 25 := by omega
        rw [e1, e2]
        simp only [e3, if_false, com, com_all (show (3 : Int) ≠ 0 by decide), kindOf]
        have h1 : decide ((l.length : Int) < 0) = false := by simp
        have h2 : decide ((l.length : Int) > 9223372036854775807) = false := by simp; omega
        rw [h1, h2]
        cases allAg l 3 <;> simp [ag3]
      by_cases g2 : op = 25
      · subst g2
        have h2 : decide ((l.length : Int) > 9223372036854775807) = false := by simp; omega
        simp only [show sg 25 = (2, 9223372036854775807, 0, 0) from rfl, show sortOf 25 = (9, -1) from rfl, if_true, com_all (show (3 : Int) ≠ 0 by decide), kindOf, h2]
        by_cases hl2 : l.length < 2
        · have : (l.length : Int) < 2 := by omega
          simp [hl2, this]
        · have : ¬ (l.length : Int) < 2 := by omega
          simp only [hl2, this]
          cases allAg (parts l).1 3 <;> cases com 0 (parts l).2 <;> simp
      by_cases g3 : op = 26
      · subst g3
        have h2 : decide ((l.length : Int) > 9223372036854775807) = false := by simp; omega
        simp only [show sg 26 = (1, 9223372036854775807, 0, 0) from rfl, show sortOf 26 = (10, -1) from rfl, com, kindOf, h2]
        by_cases hl2 : l.length < 1
        · have : (l.length : Int) < 1 := by omega
          simp [hl2, this]
        · have : ¬ (l.length : Int) < 1 := by omega
          simp only [hl2, this]
          simp
          rw [com3]
          cases com 0 l <;> simp
      by_cases g4 : op = 4 ∨ op = 11 ∨ op = 20 ∨ op = 21 ∨ op = 22
      · by_cases hl1 : (l.length : Int) = 1
        · obtain ⟨x, rfl⟩ := hone (b := 0) hl1 rfl
          rcases g4 with rfl | rfl | rfl | rfl | rfl
          · simp [sg, sortOf, kindOf, com, com_all, allAg]
            cases agree x 1 <;> simp
          · simp [sg, sortOf, kindOf, com, com_all, allAg]
            cases agree x 2 <;> simp
          · simp [sg, sortOf, kindOf, com, agree]
          · simp [sg, sortOf, kindOf, com, com_all, allAg]
            cases agree x 3 <;> simp
          · simp [sg, sortOf, kindOf, com, com_all, allAg]
            cases agree x 3 <;> simp
        · have h3 : (l.length : Int) < 1 ∨ (l.length : Int) > 1 := by omega
          have h4 : (decide ((l.length : Int) < 1) || decide ((l.length : Int) > 1)) = true := by simp; omega
          rcases g4 with rfl | rfl | rfl | rfl | rfl <;> simp only [sg, sortOf] <;> simp [hl1] <;> (intro h5; omega)
      · have htwo : (l.length : Int) = 2 → ∃ x y, l = [x, y] := by
          intro h
          match l, h with
          | [x, y], _ => exact ⟨x, y, rfl⟩
          | [], h => simp at h
          | [_], h => simp at h
          | _ :: _ :: _ :: _, h => simp at h; omega
        by_cases g5 : 5 ≤ op ∧ op ≤ 9
        · have e1 : sg op = (2, 2, 1, 1) := by unfold sg; rw [if_neg (by omega), if_pos g5]
          have e2 : sortOf op = (1, 2) := by unfold sortOf; rw [if_neg (by omega), if_pos g5]
          rw [e1, e2]
          by_cases hl2 : (l.length : Int) = 2
          · simp only [hl2, com, com_all (show (1 : Int) ≠ 0 by decide), show ¬ op = 25 by omega, if_false, kindOf]
            cases allAg l 1 <;> simp
          · simp [hl2]; omega
        by_cases g6 : 12 ≤ op ∧ op ≤ 18
        · have e1 : sg op = (2, 2, 0, 3) := by unfold sg; rw [if_neg (by omega), if_neg (by omega), if_neg (by omega), if_neg (by omega), if_pos g6]
          have e2 : sortOf op = (4, 2) := by unfold sortOf; rw [if_neg (by omega), if_neg (by omega), if_neg (by omega), if_neg (by omega), if_pos g6]
          rw [e1, e2]
          by_cases hl2 : (l.length : Int) = 2
          · obtain ⟨x, y, rfl⟩ := htwo hl2
            have e3 : ¬ op = 25 := by omega
            have e4 : agree 0 x = true := by rw [agree_iff]; omega
            have e5 : com 0 [x, y] = if agree x y then some (if x = 0 then y else x) else none := by
              simp only [com, e4, if_true]
            simp only [e3, if_false, kindOf, com3, e5]
            simp
            cases agree x y <;> simp
          · simp [hl2]; omega
        by_cases g7 : op = 10
        · subst g7
          by_cases hl2 : (l.length : Int) = 2
          · simp only [show sg 10 = (2, 2, 2, 2) from rfl, show sortOf 10 = (2, 2) from rfl, hl2, com_all (show (2 : Int) ≠ 0 by decide), kindOf]
            cases hq : allAg l 2 <;> simp [com3, hq]
          · simp [sg, sortOf, hl2]; omega
        · have : op = 19 := by omega
          subst this
          by_cases hl2 : (l.length : Int) = 2
          · simp only [show sg 19 = (2, 2, 2, 3) from rfl, show sortOf 19 = (5, 2) from rfl, hl2, com_all (show (2 : Int) ≠ 0 by decide), kindOf]
            cases hq : allAg l 2 <;> simp [com3, hq]
          · simp [sg, sortOf, hl2]; omega
    · have hh : has op = false := by simp [has, ho]
      have hs : sortOf op = (0, 0) := by
        unfold sortOf
        repeat (rw [if_neg (by omega)])
      rw [hh, hs]; simp
end Go.Proofs.YtefelelhgepkeaaGreatDoor.K
