/- Two bytes ' in place of one, and back, on plain lists of bytes. -/
import Derived.Test.YtdcanjfdgfpdfaaGreatDoorLp
import Derived.Lib.Replace
import Derived.Lib.CountLaws
import Derived.Lib.IndexLaws
namespace Go.Proofs.YtdcanjfdgfpdfaaGreatDoor.Lx
open Go.Lib
theorem rep_unfold {old new : List UInt8} (h : old ≠ new) (s : List UInt8) : replaceAll s old new = replaceK old new (count s old) s := by
  unfold replaceAll replace
  rw [if_neg (by simpa using h), replaceNum, if_pos (.inl (by decide))]
theorem rep_nil {old new : List UInt8} (h : old ≠ new) (h0 : old ≠ []) : replaceAll [] old new = [] := by
  rw [rep_unfold h, count_miss (by rw [index, if_neg (by simpa using h0)])]
  rfl
theorem rep_hit {old new s : List UInt8} (h : old ≠ new) (h0 : old ≠ []) (hp : old.isPrefixOf s = true) : replaceAll s old new = new ++ replaceAll (s.drop old.length) old new := by
  have hi : index s old = ((0 : Nat) : Int) := by
    cases s with
    | nil => cases old with
      | nil => exact absurd rfl h0
      | cons => simp at hp
    | cons b l => rw [index, if_pos hp]; rfl
  rw [rep_unfold h, count_hit h0 hi, Nat.add_comm 1, replaceK_hit _ _ _ _ _ hi, rep_unfold h]
  simp
theorem rep_skip {old new t : List UInt8} {c : UInt8} (h : old ≠ new) (h0 : old ≠ []) (hp : old.isPrefixOf (c :: t) = false) : replaceAll (c :: t) old new = c :: replaceAll t old new := by
  have hi : index (c :: t) old = if index t old == -1 then -1 else index t old + 1 := by rw [index, hp]; rfl
  rw [rep_unfold h, rep_unfold h]
  by_cases hm : index t old = -1
  · rw [count_miss hm, count_miss (by rw [hi, hm]; rfl)]
    rfl
  · obtain ⟨i, hx⟩ : ∃ i : Nat, index t old = i := ⟨(index t old).toNat, by have := index_ge t old; omega⟩
    have hy : index (c :: t) old = ((i + 1 : Nat) : Int) := by
      rw [hi, if_neg (by simpa using hm), hx]; omega
    rw [count_hit h0 hx, count_hit h0 hy, Nat.add_comm 1, Nat.add_comm 1, replaceK_hit _ _ _ _ _ hx, replaceK_hit _ _ _ _ _ hy, show i + 1 + old.length = (i + old.length) + 1 by omega]
    simp
theorem npre (c : UInt8) (o l : List UInt8) (h : c ≠ 39) : (39 :: o).isPrefixOf (c :: l) = false := by
  simp only [List.isPrefixOf, Bool.and_eq_false_iff, beq_eq_false_iff_ne]
  exact .inl (Ne.symm h)
theorem rep_undbl : ∀ l : List UInt8, replaceAll (dbl l) [39, 39] [39] = l
  | [] => rep_nil (by decide) (by decide)
  | c :: l => by
    by_cases hc : c = 39
    · subst hc
      rw [dbl, if_pos rfl, rep_hit (by decide) (by decide) (by simp)]
      simp [rep_undbl l]
    · rw [dbl, if_neg hc, rep_skip (by decide) (by decide) (npre c _ _ hc), rep_undbl l]
theorem body_dbl_of : ∀ {l s : Bs} {n : Nat}, body l = some (s, n) → l.take (n - 1) = dbl s
  | [], _, _, h => by simp [body] at h
  | [b], s, n, h => by
    rw [body_cons] at h
    by_cases hb : b = 39
    · rw [if_pos hb] at h
      simp only [Option.some.injEq, Prod.mk.injEq] at h
      obtain ⟨rfl, rfl⟩ := h
      rfl
    · rw [if_neg hb] at h
      simp [body] at h
  | b :: c :: u, s, n, h => by
    rw [body_cons] at h
    by_cases hb : b = 39
    · rw [if_pos hb] at h
      by_cases hc : c = 39
      · simp only [if_pos hc, Option.map_eq_some_iff] at h
        obtain ⟨⟨s', n'⟩, h', e⟩ := h
        obtain ⟨rfl, rfl⟩ := Prod.mk.inj e
        have h1 := body_some h'
        have h2 := body_dbl_of h'
        rw [dbl, if_pos rfl, hb, hc, ← h2]
        obtain ⟨m, rfl⟩ : ∃ m, n' = m + 1 := ⟨n' - 1, by omega⟩
        rfl
      · simp only [if_neg hc, Option.some.injEq, Prod.mk.injEq] at h
        obtain ⟨rfl, rfl⟩ := h
        rfl
    · rw [if_neg hb, Option.map_eq_some_iff] at h
      obtain ⟨⟨s', n'⟩, h', e⟩ := h
      obtain ⟨rfl, rfl⟩ := Prod.mk.inj e
      have h1 := body_some h'
      have h2 := body_dbl_of h'
      rw [dbl, if_neg hb, ← h2]
      obtain ⟨m, rfl⟩ : ∃ m, n' = m + 1 := ⟨n' - 1, by omega⟩
      rfl
end Go.Proofs.YtdcanjfdgfpdfaaGreatDoor.Lx
