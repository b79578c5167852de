/- What any text is read as: plain lists of bytes, no program. -/
import Derived.Test.YtjiilfbomcibjaaGreatDoorLit
namespace Go.Proofs.YtjiilfbomcibjaaGreatDoor.T
open Go.Lib
/-- What the digits say, behind what was read. -/
def dv (acc : Nat) (l : List UInt8) : Nat := l.foldl (fun a c => a * 10 + (c.toNat - 48)) acc
theorem dv_nil (acc : Nat) : dv acc [] = acc := List.foldl_nil
theorem dv_cons (acc : Nat) (c : UInt8) (l : List UInt8) : dv acc (c :: l) = dv (acc * 10 + (c.toNat - 48)) l := List.foldl_cons ..
def digs (l : List UInt8) : Prop := ∀ c ∈ l, 48 ≤ c.toNat ∧ c.toNat ≤ 57
theorem dv_le (l : List UInt8) : ∀ acc, acc ≤ dv acc l := by
  induction l with
  | nil => intro acc; rw [dv_nil]; exact Nat.le_refl _
  | cons c l ih =>
    intro acc
    have := ih (acc * 10 + (c.toNat - 48))
    rw [dv_cons]
    omega
theorem dv_ten (l : List UInt8) (c : UInt8) (acc : Nat) : acc * 10 ≤ dv acc (c :: l) := by
  have := dv_le l (acc * 10 + (c.toNat - 48))
  rw [dv_cons]
  omega
theorem dv_snoc (l : List UInt8) (c : UInt8) : ∀ acc, dv acc (l ++ [c]) = dv acc l * 10 + (c.toNat - 48) := by
  induction l with
  | nil => intro acc; rw [List.nil_append, dv_cons, dv_nil, dv_nil]
  | cons d l ih => intro acc; rw [List.cons_append, dv_cons, dv_cons, ih]
theorem dv_append (m : List UInt8) : ∀ (l : List UInt8) (acc : Nat), dv acc (l ++ m) = dv (dv acc l) m
  | [], _ => by rw [List.nil_append, dv_nil]
  | c :: l, acc => by rw [List.cons_append, dv_cons, dv_cons, dv_append m l]
theorem parse_all (l : List UInt8) : ∀ acc, digs l → parseUintM 18446744073709551615 acc l = if dv acc l ≤ 18446744073709551615 ∨ l = [] then .ok (dv acc l) else .range := by
  induction l with
  | nil => intro acc _; rw [parseUintM, if_pos (.inr rfl), dv_nil]
  | cons c l ih =>
    intro acc h
    have hc := h c (by simp)
    have hl := dv_le l (acc * 10 + (c.toNat - 48))
    rw [parseUintM, if_pos hc, dv_cons]
    by_cases h1 : 1844674407370955162 ≤ acc
    · rw [if_pos h1, if_neg (by simp; omega)]
    · rw [if_neg h1]
      by_cases h2 : 18446744073709551615 < acc * 10 + (c.toNat - 48)
      · rw [if_pos h2, if_neg (by simp; omega)]
      · rw [if_neg h2, ih _ (fun x hx => h x (by simp [hx]))]
        cases l with
        | nil => rw [if_pos (.inr rfl), dv_nil, if_pos (by simp; omega)]
        | cons d l => simp
/-- The digits of a number's literal, and its sign. -/
def sgn (l : List UInt8) : Bool := [45].isPrefixOf l
def dig (l : List UInt8) : List UInt8 := if sgn l then l.drop 1 else l
/-- The text has the form of a number. -/
def isNum (l : List UInt8) : Bool := if dig l = [48] then !sgn l else (!(dig l).isEmpty && (dig l).head? != some 48 && (dig l).all fun c => decide (48 ≤ c.toNat ∧ c.toNat ≤ 57))
/-- The number itself. -/
def num (l : List UInt8) : Int := if sgn l then -(dv 0 (dig l) : Int) else dv 0 (dig l)
theorem isNum_digs {l : List UInt8} (h : isNum l = true) : digs (dig l) ∧ dig l ≠ [] := by
  unfold isNum at h
  split at h
  · rename_i e
    rw [e]
    exact ⟨by intro c hc; rw [List.mem_singleton] at hc; subst hc; decide, by simp⟩
  · simp only [Bool.and_eq_true, List.all_eq_true, decide_eq_true_eq, Bool.not_eq_true', List.isEmpty_eq_false_iff] at h
    exact ⟨h.2, h.1.1⟩
theorem sgn_head {c : UInt8} {l : List UInt8} : sgn (c :: l) = (c == 45) := by
  simp only [sgn, List.isPrefixOf, Bool.and_true]
  rw [Bool.eq_iff_iff, beq_iff_eq, beq_iff_eq]
  exact eq_comm
theorem parse_num {l : List UInt8} (h : isNum l = true) : parseIntB 64 l = if -9223372036854775808 ≤ num l ∧ num l ≤ 9223372036854775807 then .ok (num l) else .range := by
  obtain ⟨hd, hn⟩ := isNum_digs h
  have hp : parseUintB 64 (dig l) = if dv 0 (dig l) ≤ 18446744073709551615 then .ok (dv 0 (dig l)) else .range := by
    unfold parseUintB
    rw [if_neg hn, show (2 ^ 64 - 1 : Nat) = 18446744073709551615 from rfl, parse_all _ _ hd]
    simp [hn]
  cases l with
  | nil => simp [dig, sgn] at hn
  | cons c r =>
    rw [parseIntB]
    have hs := sgn_head (c := c) (l := r)
    by_cases hc : c = 45
    · subst hc
      have e1 : dig (45 :: r) = r := by rw [dig, hs]; rfl
      have e2 : num (45 :: r) = -(dv 0 r : Int) := by rw [num, hs, e1]; rfl
      rw [e1] at hp
      simp only [show (45 : UInt8).toNat = 45 from rfl, or_true, if_true, not_true, false_and, if_false, true_and]
      rw [hp, e2]
      by_cases hx : dv 0 r ≤ 18446744073709551615
      · rw [if_pos hx]
        simp only []
        by_cases hy : 2 ^ (64 - 1) < dv 0 r
        · rw [if_pos hy, if_neg (by omega)]
        · rw [if_neg hy, if_pos (by omega)]
      · rw [if_neg hx, if_neg (by omega)]
    · have hs2 : sgn (c :: r) = false := by rw [hs]; simpa using hc
      have e1 : dig (c :: r) = c :: r := by rw [dig, hs2]; rfl
      have e2 : num (c :: r) = (dv 0 (c :: r) : Int) := by rw [num, hs2, e1]; rfl
      rw [e1] at hp hd
      have hcd := hd c (by simp)
      have hc1 : ¬ c.toNat = 45 := by omega
      rw [if_neg (by omega : ¬ (c.toNat = 43 ∨ c.toNat = 45)), hp, e2]
      by_cases hx : dv 0 (c :: r) ≤ 18446744073709551615
      · rw [if_pos hx]
        show (if ¬ (c.toNat = 45) ∧ 2 ^ (64 - 1) ≤ dv 0 (c :: r) then NumEnd.range else if c.toNat = 45 ∧ 2 ^ (64 - 1) < dv 0 (c :: r) then NumEnd.range else .ok (if c.toNat = 45 then -(dv 0 (c :: r) : Int) else (dv 0 (c :: r) : Nat))) = _
        rw [if_neg hc1]
        by_cases hy : 2 ^ (64 - 1) ≤ dv 0 (c :: r)
        · rw [if_pos ⟨hc1, hy⟩, if_neg (by omega)]
        · rw [if_neg (by omega), if_neg (by omega), if_pos (by omega)]
      · rw [if_neg hx, if_neg (by omega)]
/-! ### Texts -/
/-- The pairs of bytes ' taken for one; nothing where one stands alone. -/
def und : List UInt8 → Option (List UInt8)
  | [] => some []
  | [c] => if c = 39 then none else some [c]
  | c :: d :: l => if c = 39 then (if d = 39 then (und l).map (39 :: ·) else none) else (und (d :: l)).map (c :: ·)
theorem und_dbl : ∀ (m t : List UInt8), und m = some t → m = dbl t
  | [], t, h => by
    rw [und] at h
    obtain rfl := Option.some.inj h
    rfl
  | [c], t, h => by
    rw [und] at h
    split at h
    · cases h
    · rename_i hc
      obtain rfl := Option.some.inj h
      rw [dbl, if_neg hc]; rfl
  | c :: d :: l, t, h => by
    rw [und] at h
    split at h
    · rename_i hc
      split at h
      · rename_i hd
        obtain ⟨t', h', rfl⟩ := Option.map_eq_some_iff.1 h
        rw [dbl, if_pos rfl, ← und_dbl l t' h', hc, hd]
      · cases h
    · rename_i hc
      obtain ⟨t', h', rfl⟩ := Option.map_eq_some_iff.1 h
      rw [dbl, if_neg hc, ← und_dbl (d :: l) t' h']
theorem und_none : ∀ (m : List UInt8), und m = none → 0 ≤ indexByte (replaceAll m [39, 39] []) 39
  | [], h => by rw [und] at h; cases h
  | [c], h => by
    rw [und] at h
    split at h
    · rename_i hc
      subst hc
      rw [rep_skip (by decide) (by decide) (by decide), indexByte, if_pos (by decide)]
      decide
    · cases h
  | c :: d :: l, h => by
    rw [und] at h
    split at h
    · rename_i hc
      subst hc
      split at h
      · rename_i hd
        subst hd
        rw [rep_hit (by decide) (by decide) (by simp)]
        simpa using und_none l (Option.map_eq_none_iff.1 h)
      · rename_i hd
        rw [rep_skip (by decide) (by decide) (by simp [List.isPrefixOf]; exact fun e => hd e.symm), indexByte, if_pos (by decide)]
        decide
    · rename_i hc
      have := und_none (d :: l) (Option.map_eq_none_iff.1 h)
      rw [rep_skip (by decide) (by decide) (npre c _ _ hc), indexByte, if_neg (by simpa using hc)]
      split
      · rename_i e
        rw [beq_iff_eq] at e
        omega
      · omega
/-! ### The digits and nothing else -/
theorem dropWhile_nil {p : UInt8 → Bool} : ∀ {l : List UInt8}, l.dropWhile p = [] → ∀ c ∈ l, p c = true
  | [], _ => fun c hc => by cases hc
  | d :: l, h => by
    rw [List.dropWhile_cons] at h
    split at h
    · rename_i hd
      intro c hc
      rcases List.mem_cons.1 hc with rfl | hc
      · exact hd
      · exact dropWhile_nil h c hc
    · cases h
theorem dropWhile_head {p : UInt8 → Bool} : ∀ {l m : List UInt8} {d : UInt8}, l.dropWhile p = d :: m → p d = false
  | [], _, _, h => by cases h
  | c :: l, m, d, h => by
    rw [List.dropWhile_cons] at h
    split at h
    · exact dropWhile_head h
    · rename_i hc
      obtain ⟨rfl, -⟩ := List.cons.inj h
      simpa using hc
theorem in_digit (c : UInt8) (h : ([48, 49, 50, 51, 52, 53, 54, 55, 56, 57] : List UInt8).contains c = true) : 48 ≤ c.toNat ∧ c.toNat ≤ 57 := by
  simp only [List.contains, List.elem_cons, List.elem_nil] at h
  repeat' (split at h)
  all_goals (first | (rename_i e; rw [beq_iff_eq] at e; subst e; decide) | cases h)
theorem trim_nil {l : List UInt8} (h : trimS l [48, 49, 50, 51, 52, 53, 54, 55, 56, 57] = []) : digs l := by
  unfold trimS trimLeftS trimRightS at h
  have h1 := dropWhile_nil h
  intro c hc
  cases e : l.reverse.dropWhile (([48, 49, 50, 51, 52, 53, 54, 55, 56, 57] : List UInt8).contains ·) with
  | nil => exact in_digit c (dropWhile_nil e c (List.mem_reverse.2 hc))
  | cons d m =>
    have h2 := dropWhile_head e
    have h3 := h1 d (by rw [e]; simp)
    rw [h3] at h2
    cases h2
theorem trim_is (l : List UInt8) : (trimS l [48, 49, 50, 51, 52, 53, 54, 55, 56, 57]).isEmpty = l.all fun c => decide (48 ≤ c.toNat ∧ c.toNat ≤ 57) := by
  rw [Bool.eq_iff_iff, List.isEmpty_iff, List.all_eq_true]
  constructor
  · intro h c hc
    exact decide_eq_true (trim_nil h c hc)
  · intro h
    exact trim_digits l fun c hc => of_decide_eq_true (h c hc)
theorem dig_dv : ∀ (k : Nat) (l : List UInt8), l.length ≤ k → digs l → l ≠ [] → (l.head? ≠ some 48 ∨ l = [48]) → decDigits (dv 0 l) = l ∧ (l.head? ≠ some 48 → 1 ≤ dv 0 l) := by
  intro k
  induction k with
  | zero =>
    intro l hl _ hn _
    cases l with
    | nil => exact absurd rfl hn
    | cons => simp at hl
  | succ k ih =>
    intro l hl hd hn hh
    rcases List.eq_nil_or_concat l with rfl | ⟨m, c, e⟩
    · exact absurd rfl hn
    rw [List.concat_eq_append] at e
    subst e
    have hc := hd c (by simp)
    have hx : UInt8.ofNat (48 + (c.toNat - 48)) = c := by rw [show 48 + (c.toNat - 48) = c.toNat by omega]; simp
    rw [dv_snoc]
    cases m with
    | nil =>
      rw [dv_nil, decDigits, dif_pos (by omega)]
      refine ⟨?_, fun h => ?_⟩
      · rw [show 0 * 10 + (c.toNat - 48) = c.toNat - 48 by omega, hx]; rfl
      · have : c ≠ 48 := fun e => h (by rw [e]; rfl)
        have : c.toNat ≠ 48 := fun e => this (UInt8.toNat_inj.1 e)
        omega
    | cons b m =>
      have hb : (b :: m).head? ≠ some 48 := by
        rcases hh with hh | hh
        · exact hh
        · simp at hh
      obtain ⟨i1, i2⟩ := ih (b :: m) (by simp at hl ⊢; omega) (fun x hx => hd x (by simp at hx ⊢; rcases hx with h | h <;> simp [h])) (by simp) (.inl hb)
      have h1 := i2 hb
      refine ⟨?_, fun _ => by omega⟩
      rw [decDigits, dif_neg (by omega), show (dv 0 (b :: m) * 10 + (c.toNat - 48)) / 10 = dv 0 (b :: m) by omega, show (dv 0 (b :: m) * 10 + (c.toNat - 48)) % 10 = c.toNat - 48 by omega, i1, hx]
theorem itoa_num {l : List UInt8} (h : isNum l = true) : itoa (num l) = l := by
  obtain ⟨hd, hn⟩ := isNum_digs h
  have hh : (dig l).head? ≠ some 48 ∨ dig l = [48] := by
    unfold isNum at h
    split at h
    · rename_i e; exact .inr e
    · simp only [Bool.and_eq_true, bne_iff_ne] at h
      exact .inl h.1.2
  obtain ⟨h1, h2⟩ := dig_dv _ _ (Nat.le_refl _) hd hn hh
  cases hs : sgn l with
  | false =>
    have e : dig l = l := by rw [dig, hs]; rfl
    rw [num, hs, itoa, if_neg (by simp)]
    simp only [Bool.false_eq_true, if_false, Int.toNat_natCast]
    rw [h1, e]
  | true =>
    have hx : (dig l).head? ≠ some 48 := by
      rcases hh with hh | hh
      · exact hh
      · unfold isNum at h
        rw [if_pos hh, hs] at h
        cases h
    have hp := h2 hx
    have e : l = 45 :: dig l := by
      cases l with
      | nil => cases hs
      | cons c r =>
        rw [sgn_head, beq_iff_eq] at hs
        subst hs
        rfl
    rw [num, hs, itoa, if_pos (by simp; omega)]
    simp only [if_true, Int.natAbs_neg, Int.natAbs_natCast]
    rw [h1]
    exact e.symm
end Go.Proofs.YtjiilfbomcibjaaGreatDoor.T
