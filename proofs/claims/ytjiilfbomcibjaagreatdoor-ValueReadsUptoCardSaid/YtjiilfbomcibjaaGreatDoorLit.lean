/- Literals as plain lists of bytes: a text between two bytes ', each ' in it doubled; an integer's decimal digits. No program. -/
import Derived.Lib.Replace
import Derived.Lib.CountLaws
import Derived.Lib.IndexLaws
import Derived.Lib.ItoaNum
import Derived.Lib.ParseIntB
import Derived.Lib.SlTrimSet
namespace Go.Proofs.YtjiilfbomcibjaaGreatDoor.T
open Go.Lib
theorem rep_unfold {old new : List UInt8} (h : old ≠ new) (s : List UInt8) : replaceAll s old new = replaceK old new (count s old) s := by
  unfold replaceAll replace
  rw [if_neg (by simpa using h), replaceNum, if_pos (.inl (by decide))]
theorem rep_nil {old new : List UInt8} (h : old ≠ new) (h0 : old ≠ []) : replaceAll [] old new = [] := by
  rw [rep_unfold h, count_miss (by rw [index, if_neg (by simpa using h0)])]
  rfl
theorem rep_hit {old new s : List UInt8} (h : old ≠ new) (h0 : old ≠ []) (hp : old.isPrefixOf s = true) : replaceAll s old new = new ++ replaceAll (s.drop old.length) old new := by
  have hi : index s old = ((0 : Nat) : Int) := by
    cases s with
    | nil => cases old with
      | nil => exact absurd rfl h0
      | cons => simp at hp
    | cons b l => rw [index, if_pos hp]; rfl
  rw [rep_unfold h, count_hit h0 hi, Nat.add_comm 1, replaceK_hit _ _ _ _ _ hi, rep_unfold h]
  simp
theorem rep_skip {old new t : List UInt8} {c : UInt8} (h : old ≠ new) (h0 : old ≠ []) (hp : old.isPrefixOf (c :: t) = false) : replaceAll (c :: t) old new = c :: replaceAll t old new := by
  have hi : index (c :: t) old = if index t old == -1 then -1 else index t old + 1 := by rw [index, hp]; rfl
  rw [rep_unfold h, rep_unfold h]
  by_cases hm : index t old = -1
  · rw [count_miss hm, count_miss (by rw [hi, hm]; rfl)]
    rfl
  · obtain ⟨i, hx⟩ : ∃ i : Nat, index t old = i := ⟨(index t old).toNat, by have := index_ge t old; omega⟩
    have hy : index (c :: t) old = ((i + 1 : Nat) : Int) := by
      rw [hi, if_neg (by simpa using hm), hx]; omega
    rw [count_hit h0 hx, count_hit h0 hy, Nat.add_comm 1, Nat.add_comm 1, replaceK_hit _ _ _ _ _ hx, replaceK_hit _ _ _ _ _ hy, show i + 1 + old.length = (i + old.length) + 1 by omega]
    simp
theorem npre (c : UInt8) (o l : List UInt8) (h : c ≠ 39) : (39 :: o).isPrefixOf (c :: l) = false := by
  simp only [List.isPrefixOf, Bool.and_eq_false_iff, beq_eq_false_iff_ne]
  exact .inl (Ne.symm h)
/-- Each byte ' doubled. -/
def dbl : List UInt8 → List UInt8
  | [] => []
  | c :: l => if c = 39 then 39 :: 39 :: dbl l else c :: dbl l
theorem rep_dbl : ∀ l : List UInt8, replaceAll l [39] [39, 39] = dbl l
  | [] => rep_nil (by decide) (by decide)
  | c :: l => by
    by_cases hc : c = 39
    · subst hc
      rw [rep_hit (by decide) (by decide) (by simp), dbl, if_pos rfl]
      simp [rep_dbl l]
    · rw [rep_skip (by decide) (by decide) (npre c _ _ hc), dbl, if_neg hc, rep_dbl l]
theorem rep_undbl : ∀ l : List UInt8, replaceAll (dbl l) [39, 39] [39] = l
  | [] => rep_nil (by decide) (by decide)
  | c :: l => by
    by_cases hc : c = 39
    · subst hc
      rw [dbl, if_pos rfl, rep_hit (by decide) (by decide) (by simp)]
      simp [rep_undbl l]
    · rw [dbl, if_neg hc, rep_skip (by decide) (by decide) (npre c _ _ hc), rep_undbl l]
theorem rep_gone : ∀ l : List UInt8, indexByte (replaceAll (dbl l) [39, 39] []) 39 = -1
  | [] => by rw [dbl, rep_nil (by decide) (by decide)]; rfl
  | c :: l => by
    by_cases hc : c = 39
    · subst hc
      rw [dbl, if_pos rfl, rep_hit (by decide) (by decide) (by simp)]
      simpa using rep_gone l
    · rw [dbl, if_neg hc, rep_skip (by decide) (by decide) (npre c _ _ hc), indexByte, if_neg (by simpa using hc), rep_gone l]
      rfl
theorem dbl_length : ∀ l : List UInt8, (dbl l).length ≤ 2 * l.length
  | [] => by simp [dbl]
  | c :: l => by
    have := dbl_length l
    rw [dbl]
    split <;> simp <;> omega
theorem dbl_snoc (l : List UInt8) (c : UInt8) : dbl (l ++ [c]) = dbl l ++ (if c = 39 then [39, 39] else [c]) := by
  induction l with
  | nil => simp only [List.nil_append, dbl]
  | cons d l ih =>
    rw [List.cons_append, dbl, dbl, ih]
    split <;> rfl
/-! ### An integer's digits -/
theorem digit_ok (d : Nat) (h : d < 10) : (UInt8.ofNat (48 + d)).toNat = 48 + d := by rw [UInt8.toNat_ofNat']; omega
theorem parse_digits (M : Nat) (hM : M < 18446744073709551616) : ∀ (k u : Nat), u ≤ k → u ≤ M → ∀ r, parseUintM M 0 (decDigits u ++ r) = parseUintM M u r := by
  intro k
  induction k with
  | zero =>
    intro u hk hu r
    obtain rfl : u = 0 := by omega
    rw [decDigits, dif_pos (by omega), List.singleton_append, parseUintM, digit_ok 0 (by omega)]
    simp
  | succ k ih =>
    intro u hk hu r
    by_cases h : u < 10
    · rw [decDigits, dif_pos h, List.singleton_append, parseUintM, digit_ok u h, if_pos (by omega), if_neg (by omega), if_neg (by omega)]
      congr 1; omega
    · rw [decDigits, dif_neg h, List.append_assoc, ih (u / 10) (by omega) (by omega), List.singleton_append, parseUintM, digit_ok _ (Nat.mod_lt _ (by omega)), if_pos (by omega), if_neg (by omega), if_neg (by omega)]
      congr 1; omega
theorem digits_head : ∀ (k u : Nat), u ≤ k → ∃ d t, decDigits u = d :: t ∧ 48 ≤ d.toNat ∧ d.toNat ≤ 57 ∧ (1 ≤ u → d.toNat ≠ 48) ∧ (u = 0 → t = []) := by
  intro k
  induction k with
  | zero =>
    intro u hk
    obtain rfl : u = 0 := by omega
    exact ⟨_, [], by rw [decDigits, dif_pos (by omega)], by rw [digit_ok 0 (by omega)]; omega, by rw [digit_ok 0 (by omega)]; omega, by omega, fun _ => rfl⟩
  | succ k ih =>
    intro u hk
    by_cases h : u < 10
    · exact ⟨_, [], by rw [decDigits, dif_pos h], by rw [digit_ok u h]; omega, by rw [digit_ok u h]; omega, by rw [digit_ok u h]; omega, fun _ => rfl⟩
    · obtain ⟨d, t, e, h1, h2, h3, _⟩ := ih (u / 10) (by omega)
      exact ⟨d, t ++ [UInt8.ofNat (48 + u % 10)], by rw [decDigits, dif_neg h, e]; rfl, h1, h2, fun _ => h3 (by omega), fun e => by omega⟩
theorem digits_all : ∀ (k u : Nat), u ≤ k → ∀ c ∈ decDigits u, 48 ≤ c.toNat ∧ c.toNat ≤ 57 := by
  intro k
  induction k with
  | zero =>
    intro u hk c hc
    obtain rfl : u = 0 := by omega
    rw [decDigits, dif_pos (by omega), List.mem_singleton] at hc
    subst hc
    rw [digit_ok 0 (by omega)]; omega
  | succ k ih =>
    intro u hk c hc
    by_cases h : u < 10
    · rw [decDigits, dif_pos h, List.mem_singleton] at hc
      subst hc
      rw [digit_ok u h]; omega
    · rw [decDigits, dif_neg h, List.mem_append, List.mem_singleton] at hc
      rcases hc with hc | hc
      · exact ih (u / 10) (by omega) c hc
      · subst hc
        rw [digit_ok _ (Nat.mod_lt _ (by omega))]; omega
theorem parse_itoa (n : Int) (h1 : -9223372036854775808 ≤ n) (h2 : n ≤ 9223372036854775807) : parseIntB 64 (itoa n) = .ok n := by
  have key : ∀ u : Nat, u ≤ 9223372036854775808 → parseUintB 64 (decDigits u) = .ok u := fun u hu => by
    obtain ⟨d, t, e, _⟩ := digits_head u u (Nat.le_refl _)
    have := parse_digits 18446744073709551615 (by omega) u u (Nat.le_refl _) (by omega) []
    rw [List.append_nil, parseUintM] at this
    unfold parseUintB
    rw [if_neg (by rw [e]; simp)]
    exact this
  by_cases hn : n < 0
  · rw [itoa, if_pos hn, parseIntB]
    simp only [show (45 : UInt8).toNat = 45 from rfl, or_true, if_true]
    rw [key _ (by omega)]
    simp only [not_true, false_and, if_false, true_and]
    rw [if_neg (by omega)]
    congr 1; omega
  · obtain ⟨d, t, e, a1, a2, _⟩ := digits_head n.toNat n.toNat (Nat.le_refl _)
    have hk := key n.toNat (by omega)
    rw [e] at hk
    rw [itoa, if_neg hn, e, parseIntB]
    rw [if_neg (by omega : ¬ (d.toNat = 43 ∨ d.toNat = 45)), hk]
    show (if ¬ (d.toNat = 45) ∧ 2 ^ (64 - 1) ≤ n.toNat then NumEnd.range else if d.toNat = 45 ∧ 2 ^ (64 - 1) < n.toNat then NumEnd.range else .ok (if d.toNat = 45 then -(n.toNat : Int) else n.toNat)) = .ok n
    rw [if_neg (by omega), if_neg (by omega), if_neg (by omega)]
    congr 1; omega
theorem dropWhile_all {p : UInt8 → Bool} : ∀ {l : List UInt8}, (∀ c ∈ l, p c = true) → l.dropWhile p = []
  | [], _ => rfl
  | c :: l, h => by rw [List.dropWhile_cons, if_pos (h c (by simp))]; exact dropWhile_all fun x hx => h x (by simp [hx])
theorem digit_in (c : UInt8) (h1 : 48 ≤ c.toNat) (h2 : c.toNat ≤ 57) : ([48, 49, 50, 51, 52, 53, 54, 55, 56, 57] : List UInt8).contains c = true := by
  have e : c = UInt8.ofNat c.toNat := by simp
  have : c.toNat = 48 ∨ c.toNat = 49 ∨ c.toNat = 50 ∨ c.toNat = 51 ∨ c.toNat = 52 ∨ c.toNat = 53 ∨ c.toNat = 54 ∨ c.toNat = 55 ∨ c.toNat = 56 ∨ c.toNat = 57 := by omega
  rcases this with h | h | h | h | h | h | h | h | h | h <;> (rw [e, h]; decide)
theorem trim_digits (l : List UInt8) (h : ∀ c ∈ l, 48 ≤ c.toNat ∧ c.toNat ≤ 57) : trimS l [48, 49, 50, 51, 52, 53, 54, 55, 56, 57] = [] := by
  unfold trimS trimRightS trimLeftS
  have e : l.reverse.dropWhile (([48, 49, 50, 51, 52, 53, 54, 55, 56, 57] : List UInt8).contains ·) = [] := dropWhile_all fun c hc => digit_in c (h c (List.mem_reverse.1 hc)).1 (h c (List.mem_reverse.1 hc)).2
  rw [e]
  rfl
theorem trim_quote (m : List UInt8) : trimS (39 :: (m ++ [39])) [48, 49, 50, 51, 52, 53, 54, 55, 56, 57] = 39 :: (m ++ [39]) := by
  unfold trimS trimRightS trimLeftS
  rw [List.reverse_cons, List.reverse_append, List.reverse_singleton, List.singleton_append, List.cons_append, List.dropWhile_cons, if_neg (by decide)]
  simp
end Go.Proofs.YtjiilfbomcibjaaGreatDoor.T
