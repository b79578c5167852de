/- The reference's isMark; what the mark at a place is, by its first two bytes. -/
import Derived.Test.YtdcanjfdgfpdfaaGreatDoorRs
namespace Go.Proofs.YtdcanjfdgfpdfaaGreatDoor.V
open Go.ChangeShapes Go.WideShapes Go.ChangeAt Go.RowKit Go.Shelf
theorem bytes_of {x : ByteArray} {l : List UInt8} (h : x.data.toList = l) : x = ⟨l.toArray⟩ := by
  cases x; cases h; simp
theorem find_len (n : Nat) (l : List UInt8) : ∀ ms : List (List UInt8), (∀ m ∈ ms, m.length = n) → ms.find? (fun m => m.isPrefixOf l) = if l.take n ∈ ms then some (l.take n) else none
  | [], _ => rfl
  | m :: ms, h => by
    have hm := h m (by simp)
    have ih := find_len n l ms (fun y hy => h y (by simp [hy]))
    by_cases hp : m.isPrefixOf l = true
    · have e : l.take n = m := by
        obtain ⟨t, ht⟩ := List.isPrefixOf_iff_prefix.1 hp
        rw [← ht, ← hm]; simp
      rw [List.find?_cons_of_pos (p := fun m : List UInt8 => m.isPrefixOf l) hp, if_pos (by rw [e]; simp), e]
    · have e : l.take n ≠ m := fun e => hp (List.isPrefixOf_iff_prefix.2 (e ▸ List.take_prefix n l))
      rw [List.find?_cons_of_neg (p := fun m : List UInt8 => m.isPrefixOf l) hp, ih]
      simp only [List.mem_cons, e, false_or]
def two : List (List UInt8) := [[60, 62], [60, 61], [62, 61], [124, 124]]
def one : List (List UInt8) := [[40], [41], [44], [46], [59], [42], [43], [45], [47], [37], [61], [60], [62]]
theorem marks_two : Lx.marks = two ++ one := rfl
theorem two_len : ∀ m ∈ two, m.length = 2 := by decide
theorem one_len : ∀ m ∈ one, m.length = 1 := by decide
theorem mark_is (l : List UInt8) : Lx.mark l = if l.take 2 ∈ two then .ok 5 (l.take 2) 2 else if l.take 1 ∈ one then .ok 5 (l.take 1) 1 else .err 20 := by
  rw [Lx.mark, marks_two, List.find?_append, find_len 2 l two two_len, find_len 1 l one one_len]
  by_cases h2 : l.take 2 ∈ two
  · rw [if_pos h2, if_pos h2, Option.some_or]
    dsimp only
    rw [two_len _ h2]
  · rw [if_neg h2, if_neg h2, Option.none_or]
    by_cases h1 : l.take 1 ∈ one
    · rw [if_pos h1, if_pos h1]
      dsimp only
      rw [one_len _ h1]
    · rw [if_neg h1, if_neg h1]
theorem contains_two {l : List UInt8} (h : l.length = 2) : Lx.marks.contains l = decide (l ∈ two) := by
  rw [marks_two, Bool.eq_iff_iff, List.contains_iff_mem, List.mem_append, decide_eq_true_eq]
  exact ⟨fun e => e.elim id (fun e => absurd (one_len _ e) (by omega)), .inl⟩
theorem contains_one {l : List UInt8} (h : l.length = 1) : Lx.marks.contains l = decide (l ∈ one) := by
  rw [marks_two, Bool.eq_iff_iff, List.contains_iff_mem, List.mem_append, decide_eq_true_eq]
  exact ⟨fun e => e.elim (fun e => absurd (two_len _ e) (by omega)) id, .inr⟩
set_option maxHeartbeats 4000000 in
theorem r_isMark (x : ByteArray) (w : World) : Calls Tryz.prog 32 #[.string x] w fun e w' => e = .returned (.bool (Lx.marks.contains x.data.toList)) ∧ w = w' := by
  by_cases h : x.data.toList ∈ Lx.marks
  · rw [List.contains_iff_mem.2 h]
    simp only [Lx.marks, List.mem_cons, List.not_mem_nil, or_false] at h
    rcases h with h | h | h | h | h | h | h | h | h | h | h | h | h | h | h | h | h
    all_goals
      obtain rfl := bytes_of h
      clear h
      go_enter Tryz.func32, Tryz.ntmps32
      go_wp2
      go_ret
      exact ⟨rfl, rfl⟩
  · have e : Lx.marks.contains x.data.toList = false := by rw [Bool.eq_false_iff]; exact fun e => h (List.contains_iff_mem.1 e)
    rw [e]
    clear e
    rw [← ByteArray.toList_eq] at h
    simp only [Lx.marks, List.mem_cons, List.not_mem_nil, or_false, not_or] at h
    obtain ⟨h1, h2, h3, h4, h5, h6, h7, h8, h9, h10, h11, h12, h13, h14, h15, h16, h17⟩ := h
    have f : ∀ l : List UInt8, ¬ x.toList = l → (x.toList == l) = false := fun l h => by simpa using h
    have k1 := f _ h1
    have k2 := f _ h2
    have k3 := f _ h3
    have k4 := f _ h4
    have k5 := f _ h5
    have k6 := f _ h6
    have k7 := f _ h7
    have k8 := f _ h8
    have k9 := f _ h9
    have k10 := f _ h10
    have k11 := f _ h11
    have k12 := f _ h12
    have k13 := f _ h13
    have k14 := f _ h14
    have k15 := f _ h15
    have k16 := f _ h16
    have k17 := f _ h17
    clear f h1 h2 h3 h4 h5 h6 h7 h8 h9 h10 h11 h12 h13 h14 h15 h16 h17
    go_enter Tryz.func32, Tryz.ntmps32
    go_wp2
    go_ret
    exact ⟨rfl, rfl⟩
end Go.Proofs.YtdcanjfdgfpdfaaGreatDoor.V
