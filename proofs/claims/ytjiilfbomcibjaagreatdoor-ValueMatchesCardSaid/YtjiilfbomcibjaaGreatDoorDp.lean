/- Patterns put behind one another, and read byte by byte from the front: plain lists, no program. -/
import Derived.Test.YtjiilfbomcibjaaGreatDoorMat
namespace Go.Proofs.YtjiilfbomcibjaaGreatDoor.M
theorem mt_append (q : List UInt8) : ∀ (p t : List UInt8), mt t (p ++ q) = true ↔ ∃ t1 t2, t = t1 ++ t2 ∧ mt t1 p = true ∧ mt t2 q = true
  | [], t => by
    constructor
    · intro h
      exact ⟨[], t, rfl, by rw [mt_nil]; rfl, h⟩
    · rintro ⟨t1, t2, rfl, h1, h2⟩
      rw [mt_nil] at h1
      cases t1 with
      | nil => exact h2
      | cons => cases h1
  | d :: p, t => by
    by_cases hd : d = 37
    · subst hd
      rw [List.cons_append, star_iff]
      constructor
      · rintro ⟨k, hk, h⟩
        obtain ⟨t1, t2, e, h1, h2⟩ := (mt_append q p _).1 h
        refine ⟨t.take k ++ t1, t2, ?_, ?_, h2⟩
        · rw [List.append_assoc, ← e, List.take_append_drop]
        · rw [star_iff]
          have hl : (t.take k).length = k := by rw [List.length_take]; omega
          refine ⟨k, by rw [List.length_append]; omega, ?_⟩
          rw [List.drop_append_of_le_length (by omega), List.drop_eq_nil_of_le (by omega)]
          exact h1
      · rintro ⟨t1, t2, rfl, h1, h2⟩
        obtain ⟨k, hk, h⟩ := (star_iff p t1).1 h1
        refine ⟨k, by rw [List.length_append]; omega, ?_⟩
        rw [List.drop_append_of_le_length hk]
        exact (mt_append q p _).2 ⟨_, _, rfl, h, h2⟩
    · cases t with
      | nil =>
        rw [List.cons_append, mt_end, if_neg hd]
        constructor
        · intro h; cases h
        · rintro ⟨t1, t2, e, h1, _⟩
          obtain ⟨rfl, rfl⟩ := List.append_eq_nil_iff.1 e.symm
          rw [mt_end, if_neg hd] at h1
          cases h1
      | cons c t =>
        rw [List.cons_append, mt_char c d t _ hd]
        split
        · rename_i hc
          rw [mt_append q p t]
          constructor
          · rintro ⟨t1, t2, rfl, h1, h2⟩
            exact ⟨c :: t1, t2, rfl, by rw [mt_char c d t1 p hd, if_pos hc]; exact h1, h2⟩
          · rintro ⟨t1, t2, e, h1, h2⟩
            cases t1 with
            | nil => rw [mt_end, if_neg hd] at h1; cases h1
            | cons c' t1 =>
              obtain ⟨rfl, rfl⟩ := List.cons.inj e
              rw [mt_char c d t1 p hd, if_pos hc] at h1
              exact ⟨t1, t2, rfl, h1, h2⟩
        · rename_i hc
          constructor
          · intro h; cases h
          · rintro ⟨t1, t2, e, h1, _⟩
            cases t1 with
            | nil => rw [mt_end, if_neg hd] at h1; cases h1
            | cons c' t1 =>
              obtain ⟨rfl, rfl⟩ := List.cons.inj e
              rw [mt_char c d t1 p hd, if_neg hc] at h1
              cases h1
theorem mt_any (t : List UInt8) : mt t [37] = true := by
  rw [star_iff]
  exact ⟨t.length, Nat.le_refl _, by rw [List.drop_length, mt_nil]; rfl⟩
theorem mt_one (t : List UInt8) (d : UInt8) (hd : d ≠ 37) : mt t [d] = true ↔ ∃ c, t = [c] ∧ (d = 95 ∨ d = c) := by
  cases t with
  | nil => rw [mt_end, if_neg hd]; simp
  | cons c t =>
    rw [mt_char c d t [] hd]
    split
    · rename_i hc
      rw [mt_nil]
      cases t with
      | nil => simp [hc]
      | cons => simp
    · rename_i hc
      constructor
      · intro h; cases h
      · rintro ⟨c', e, h⟩
        obtain ⟨rfl, -⟩ := List.cons.inj e
        exact absurd h hc
/-- The next column: what the DP says. -/
theorem snoc_star (T P : List UInt8) (c : UInt8) : mt (T ++ [c]) (P ++ [37]) = (mt (T ++ [c]) P || mt T (P ++ [37])) := by
  rw [Bool.eq_iff_iff, Bool.or_eq_true, mt_append, mt_append]
  constructor
  · rintro ⟨t1, t2, e, h1, _⟩
    rcases List.eq_nil_or_concat t2 with rfl | ⟨t3, c', rfl⟩
    · left; rw [e, List.append_nil]; exact h1
    · right
      rw [List.concat_eq_append, ← List.append_assoc] at e
      have := List.append_inj_left' e rfl
      exact ⟨t1, t3, this, h1, mt_any _⟩
  · rintro (h | ⟨t1, t2, rfl, h1, _⟩)
    · exact ⟨_, [], (List.append_nil _).symm, h, mt_any _⟩
    · exact ⟨t1, t2 ++ [c], by rw [List.append_assoc], h1, mt_any _⟩
theorem snoc_char (T P : List UInt8) (c d : UInt8) (hd : d ≠ 37) : mt (T ++ [c]) (P ++ [d]) = (mt T P && decide (d = 95 ∨ d = c)) := by
  rw [Bool.eq_iff_iff, Bool.and_eq_true, mt_append, decide_eq_true_eq]
  constructor
  · rintro ⟨t1, t2, e, h1, h2⟩
    obtain ⟨c', rfl, hc⟩ := (mt_one t2 d hd).1 h2
    have e1 := List.append_inj_left' e rfl
    have e2 := List.append_inj_right' e rfl
    obtain ⟨rfl, -⟩ := List.cons.inj e2
    subst e1
    exact ⟨h1, hc⟩
  · rintro ⟨h1, h2⟩
    exact ⟨T, [c], rfl, h1, (mt_one _ d hd).2 ⟨c, rfl, h2⟩⟩
theorem snoc_nil (P : List UInt8) (d : UInt8) : mt [] (P ++ [d]) = (mt [] P && decide (d = 37)) := by
  rw [Bool.eq_iff_iff, Bool.and_eq_true, mt_append, decide_eq_true_eq]
  constructor
  · rintro ⟨t1, t2, e, h1, h2⟩
    obtain ⟨rfl, rfl⟩ := List.append_eq_nil_iff.1 e.symm
    by_cases hd : d = 37
    · exact ⟨h1, hd⟩
    · obtain ⟨c, e, _⟩ := (mt_one [] d hd).1 h2
      cases e
  · rintro ⟨h1, rfl⟩
    exact ⟨[], [], rfl, h1, mt_any _⟩
theorem snoc_base (T : List UInt8) (c : UInt8) : mt (T ++ [c]) [] = false := by rw [mt_nil]; cases T <;> rfl
end Go.Proofs.YtjiilfbomcibjaaGreatDoor.M
