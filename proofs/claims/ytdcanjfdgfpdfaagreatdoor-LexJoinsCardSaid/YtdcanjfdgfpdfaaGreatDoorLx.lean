/- What the tokens of a list of bytes are: plain functions, and what follows from them. -/
import Derived.Lib.Bytealg
import Derived.Lib.Strings
namespace Go.Proofs.YtdcanjfdgfpdfaaGreatDoor.Lx
abbrev Bs := List UInt8
def blank (b : UInt8) : Bool := b == 32 || b == 9 || b == 10 || b == 13
def small (b : UInt8) : Bool := decide (97 ≤ b.toNat) && decide (b.toNat ≤ 122)
def cap (b : UInt8) : Bool := decide (65 ≤ b.toNat) && decide (b.toNat ≤ 90)
def digit (b : UInt8) : Bool := decide (48 ≤ b.toNat) && decide (b.toNat ≤ 57)
def letter (b : UInt8) : Bool := small b || cap b || b == 95
def wordB (b : UInt8) : Bool := letter b || digit b
def up (b : UInt8) : UInt8 := if small b then b - 32 else b
def low (b : UInt8) : UInt8 := if cap b then b + 32 else b
/-- The number of the bytes of blanks and remarks in front; `true`: within a remark. -/
def skip : Bool → Bs → Nat
  | _, [] => 0
  | false, b :: t => if blank b then 1 + skip false t else if b == 45 && t.head? == some 45 then 1 + skip true t else 0
  | true, b :: t => if b == 10 then 1 + skip false t else 1 + skip true t
/-- What a place holds: an error, or a kind, a text and its number of bytes. -/
inductive R where
  | err (e : Int)
  | ok (k : Int) (s : Bs) (n : Nat)
structure Tok where
  k : Int
  s : Bs
  p : Nat
structure Out where
  l : List Tok
  p : Nat
  e : Int
/-- The value of digits. -/
def num (a : Nat) (l : Bs) : Nat := l.foldl (fun a b => a * 10 + (b.toNat - 48)) a
def words : List Bs := [[65, 76, 76], [65, 78, 65, 76, 89, 90, 69], [65, 78, 68], [65, 83], [65, 83, 67], [65, 86, 71], [66, 69, 84, 87, 69, 69, 78], [66, 73, 71, 73, 78, 84], [66, 79, 79, 76], [66, 89], [67, 65, 83, 69], [67, 79, 65, 76, 69, 83, 67, 69], [67, 79, 85, 78, 84], [67, 82, 69, 65, 84, 69], [67, 82, 79, 83, 83], [68, 69, 76, 69, 84, 69], [68, 69, 83, 67], [68, 73, 83, 84, 73, 78, 67, 84], [68, 82, 79, 80], [69, 76, 83, 69], [69, 78, 68], [69, 88, 67, 69, 80, 84], [69, 88, 73, 83, 84, 83], [69, 88, 80, 76, 65, 73, 78], [70, 65, 76, 83, 69], [70, 79, 82, 69, 73, 71, 78], [70, 82, 79, 77], [70, 85, 76, 76], [71, 82, 79, 85, 80], [72, 65, 86, 73, 78, 71], [73, 78], [73, 78, 68, 69, 88], [73, 78, 78, 69, 82], [73, 78, 83, 69, 82, 84], [73, 78, 84], [73, 78, 84, 69, 82, 83, 69, 67, 84], [73, 78, 84, 79], [73, 83], [74, 79, 73, 78], [75, 69, 89], [76, 69, 70, 84], [76, 69, 78, 71, 84, 72], [76, 73, 75, 69], [76, 73, 77, 73, 84], [77, 65, 88], [77, 73, 78], [78, 79, 84], [78, 85, 76, 76], [79, 70, 70, 83, 69, 84], [79, 78], [79, 82], [79, 82, 68, 69, 82], [79, 85, 84, 69, 82], [82, 69, 70, 69, 82, 69, 78, 67, 69, 83], [82, 73, 71, 72, 84], [83, 69, 76, 69, 67, 84], [83, 85, 77], [84, 65, 66, 76, 69], [84, 69, 88, 84], [84, 72, 69, 78], [84, 79], [84, 82, 85, 69], [85, 78, 73, 79, 78], [86, 65, 76, 85, 69, 83], [87, 72, 69, 78], [87, 72, 69, 82, 69]]
def marks : List Bs := [[60, 62], [60, 61], [62, 61], [124, 124], [40], [41], [44], [46], [59], [42], [43], [45], [47], [37], [61], [60], [62]]
def isKw (s : Bs) : Bool := words.contains s
def word (l : Bs) : R :=
  let w := l.takeWhile wordB
  if isKw (w.map up) then .ok 1 (w.map up) w.length else if 20 < w.length then .err 22 else .ok 2 (w.map low) w.length
def number (l : Bs) : R :=
  let d := l.takeWhile digit
  if 9223372036854775808 < num 0 d then .err 23 else if (l.dropWhile digit).head?.any letter then .err 24 else .ok 3 d d.length
def body : Bs → Option (Bs × Nat)
  | [] => none
  | b :: t => if b = 39 then (match t with
      | c :: u => if c = 39 then (body u).map fun x => (39 :: x.1, x.2 + 2) else some ([], 1)
      | [] => some ([], 1)) else (body t).map fun x => (b :: x.1, x.2 + 1)
def text (l : Bs) : R := match body l.tail with
  | none => .err 21
  | some x => if 100 < x.1.length then .err 5 else .ok 4 x.1 (x.2 + 1)
def mark (l : Bs) : R := match marks.find? (fun m => m.isPrefixOf l) with
  | some m => .ok 5 m m.length
  | none => .err 20
def tok : Bs → R
  | [] => .err 20
  | b :: t => if letter b then word (b :: t) else if digit b then number (b :: t) else if b = 39 then text (b :: t) else mark (b :: t)
def run : Nat → Nat → Bs → Out
  | 0, _, _ => ⟨[], 0, 0⟩
  | f + 1, p, l => if l = [] then ⟨[], 0, 0⟩ else match tok l with
    | .err e => ⟨[], p, e⟩
    | .ok k s n =>
      let d := skip false (l.drop n)
      let r := run f (p + n + d) (l.drop (n + d))
      if r.e = 0 then ⟨⟨k, s, p⟩ :: r.l, 0, 0⟩ else r
def toks (l : Bs) : Out := if 4000 < l.length then ⟨[], 0, 2⟩ else run (l.length + 1) (skip false l) (l.drop (skip false l))

/-! ### What is skipped -/
theorem skip_blank (l : Bs) : skip false l = (l.takeWhile blank).length + skip false (l.dropWhile blank) := by
  induction l with
  | nil => rfl
  | cons b t ih =>
    by_cases h : blank b = true
    · rw [skip, if_pos h, List.takeWhile_cons_of_pos h, List.dropWhile_cons_of_pos h, ih, List.length_cons]; omega
    · rw [List.takeWhile_cons_of_neg h, List.dropWhile_cons_of_neg h]; simp
theorem skip_stop {l : Bs} (h : l.head?.any blank = false) (h2 : Lib.hasPrefix l [45, 45] = false) : skip false l = 0 := by
  cases l with
  | nil => rfl
  | cons b t =>
    have hb : blank b = false := by simpa using h
    rw [skip, hb]
    have : (b == 45 && t.head? == some 45) = false := by
      cases t with
      | nil => simp
      | cons c u =>
        simp only [Lib.hasPrefix, List.isPrefixOf, Bool.and_true, Bool.and_eq_false_iff, beq_eq_false_iff_ne] at h2
        simp only [List.head?_cons, Bool.and_eq_false_iff, beq_eq_false_iff_ne]
        rcases h2 with h2 | h2
        · exact .inl (Ne.symm h2)
        · exact .inr (fun e => h2 (Option.some.inj e).symm)
    rw [this]; rfl
theorem skip_rem {l : Bs} (h2 : Lib.hasPrefix l [45, 45] = true) : skip false l = skip true l := by
  cases l with
  | nil => rfl
  | cons b t =>
    cases t with
    | nil => simp [Lib.hasPrefix, List.isPrefixOf] at h2
    | cons c u =>
      simp only [Lib.hasPrefix, List.isPrefixOf, Bool.and_true, Bool.and_eq_true, beq_iff_eq] at h2
      obtain ⟨rfl, rfl⟩ := h2
      rfl
theorem skip_true_none : ∀ {l : Bs}, Lib.indexByte l 10 = -1 → skip true l = l.length
  | [], _ => rfl
  | b :: t, h => by
    rw [Lib.indexByte] at h
    by_cases hb : (b == 10) = true
    · rw [if_pos hb] at h; exact absurd h (by decide)
    · rw [if_neg hb] at h
      have h' : Lib.indexByte t 10 = -1 := by
        split at h
        · rename_i e; simpa using e
        · have := Lib.indexByte_ge t 10; omega
      rw [skip, if_neg hb, skip_true_none h', List.length_cons]; omega
theorem skip_true_some : ∀ {l : Bs} {i : Nat}, Lib.indexByte l 10 = i → skip true l = i + skip false (l.drop i) ∧ i < l.length
  | [], i, h => by rw [Lib.indexByte] at h; omega
  | b :: t, i, h => by
    rw [Lib.indexByte] at h
    by_cases hb : (b == 10) = true
    · rw [if_pos hb] at h
      obtain rfl : i = 0 := by omega
      obtain rfl : b = 10 := by simpa using hb
      refine ⟨?_, by simp⟩
      rw [List.drop_zero, skip, skip]
      simp [blank]
    · rw [if_neg hb] at h
      have ge := Lib.indexByte_ge t 10
      split at h
      · omega
      · rename_i e
        obtain ⟨j, hj⟩ : ∃ j : Nat, Lib.indexByte t 10 = j := ⟨(Lib.indexByte t 10).toNat, by
          have : Lib.indexByte t 10 ≠ -1 := by simpa using e
          omega⟩
        obtain rfl : i = j + 1 := by omega
        obtain ⟨h1, h2⟩ := skip_true_some hj
        refine ⟨?_, by simp; omega⟩
        rw [skip, if_neg hb, h1, List.drop_succ_cons]; omega
theorem skip_le : ∀ (m : Bool) (l : Bs), skip m l ≤ l.length
  | false, [] => Nat.le_refl _
  | true, [] => Nat.le_refl _
  | false, b :: t => by
    have h1 := skip_le false t
    have h2 := skip_le true t
    rw [skip, List.length_cons]
    split
    · omega
    · split <;> omega
  | true, b :: t => by
    have h1 := skip_le false t
    have h2 := skip_le true t
    rw [skip, List.length_cons]
    split <;> omega
theorem skip_take : ∀ (m : Bool) (l : Bs) (j : Nat), skip m l ≤ j → skip m (l.take j) = skip m l
  | _, [], j, _ => by rw [List.take_nil]
  | false, b :: t, 0, h => by
    rw [List.take_zero]
    have := Nat.le_zero.1 h
    rw [this]; rfl
  | true, b :: t, 0, h => by
    rw [List.take_zero]
    have := Nat.le_zero.1 h
    rw [this]; rfl
  | false, b :: t, j + 1, h => by
    rw [List.take_succ_cons]
    rw [skip] at h
    rw [skip, skip]
    by_cases hb : blank b = true
    · rw [if_pos hb] at h
      rw [if_pos hb, if_pos hb, skip_take false t j (by omega)]
    · rw [if_neg hb] at h
      rw [if_neg hb, if_neg hb]
      by_cases hd : (b == 45 && t.head? == some 45) = true
      · rw [if_pos hd] at h
        have hd' := hd
        cases t with
        | nil => simp at hd
        | cons c u =>
          simp only [List.head?_cons, Bool.and_eq_true, beq_iff_eq, Option.some.injEq] at hd'
          obtain ⟨rfl, rfl⟩ := hd'
          have hj : skip true (45 :: u) ≤ j := by omega
          have h1 : 1 ≤ skip true (45 :: u) := by rw [skip]; split <;> omega
          rw [if_pos hd]
          rw [skip_take true (45 :: u) j hj]
          cases j with
          | zero => omega
          | succ j => rw [List.take_succ_cons]; rfl
      · rw [if_neg hd]
        have : ¬ (b == 45 && (t.take j).head? == some 45) = true := fun e => hd (by
          simp only [Bool.and_eq_true, beq_iff_eq] at e ⊢
          refine ⟨e.1, ?_⟩
          cases t with
          | nil => simp at e
          | cons c u =>
            cases j with
            | zero => simp at e
            | succ j => simpa using e.2)
        rw [if_neg this]
  | true, b :: t, j + 1, h => by
    rw [List.take_succ_cons]
    rw [skip] at h
    rw [skip, skip]
    split
    · rename_i hb
      rw [if_pos hb] at h
      rw [skip_take false t j (by omega)]
    · rename_i hb
      rw [if_neg hb] at h
      rw [skip_take true t j (by omega)]
theorem dw_eq (p : UInt8 → Bool) : ∀ (l : Bs), l.dropWhile p = l.drop (l.takeWhile p).length
  | [] => by simp
  | b :: t => by
    by_cases hb : p b = true
    · rw [List.takeWhile_cons_of_pos hb, List.dropWhile_cons_of_pos hb, List.length_cons, List.drop_succ_cons, dw_eq p t]
    · rw [List.takeWhile_cons_of_neg hb, List.dropWhile_cons_of_neg hb]; rfl
theorem dw_head (p : UInt8 → Bool) : ∀ (l : Bs), (l.dropWhile p).head?.any p = false
  | [] => rfl
  | b :: t => by
    by_cases hb : p b = true
    · rw [List.dropWhile_cons_of_pos hb]; exact dw_head p t
    · rw [List.dropWhile_cons_of_neg hb]; simpa using hb
/-! ### Tokens -/
theorem body_cons (b : UInt8) (t : Bs) : body (b :: t) = if b = 39 then (match t with
      | c :: u => if c = 39 then (body u).map fun x => (39 :: x.1, x.2 + 2) else some ([], 1)
      | [] => some ([], 1)) else (body t).map fun x => (b :: x.1, x.2 + 1) := by
  cases t with
  | nil => rw [body]; rfl
  | cons c u => rw [body]
theorem body_some : ∀ {l : Bs} {s : Bs} {n : Nat}, body l = some (s, n) → 1 ≤ n ∧ n ≤ l.length
  | [], _, _, h => by simp [body] at h
  | [b], s, n, h => by
    rw [body] at h
    split at h
    · simp at h; obtain ⟨_, rfl⟩ := h; simp
    · simp [body] at h
  | b :: c :: u, s, n, h => by
    rw [body] at h
    split at h
    · split at h
      · rw [Option.map_eq_some_iff] at h
        obtain ⟨⟨s', n'⟩, h', e⟩ := h
        have := body_some h'
        simp at e ⊢; omega
      · simp at h; obtain ⟨_, rfl⟩ := h; simp
    · rw [Option.map_eq_some_iff] at h
      obtain ⟨⟨s', n'⟩, h', e⟩ := h
      have := body_some h'
      simp at e this ⊢; omega
theorem tok_err {l : Bs} {e : Int} (h : tok l = .err e) : e ≠ 0 := by
  have hw : ∀ {l e}, word l = .err e → e ≠ 0 := fun {l e} h => by
    unfold word at h; dsimp only at h
    split at h
    · cases h
    · split at h
      · injection h with h; omega
      · cases h
  have hn : ∀ {l e}, number l = .err e → e ≠ 0 := fun {l e} h => by
    unfold number at h; dsimp only at h
    split at h
    · injection h with h; omega
    · split at h
      · injection h with h; omega
      · cases h
  have ht : ∀ {l e}, text l = .err e → e ≠ 0 := fun {l e} h => by
    unfold text at h
    split at h
    · injection h with h; omega
    · split at h
      · injection h with h; omega
      · cases h
  have hm : ∀ {l e}, mark l = .err e → e ≠ 0 := fun {l e} h => by
    unfold mark at h
    split at h
    · cases h
    · injection h with h; omega
  cases l with
  | nil => rw [tok] at h; injection h with h; omega
  | cons b t =>
    rw [tok] at h
    split at h
    · exact hw h
    · split at h
      · exact hn h
      · split at h
        · exact ht h
        · exact hm h
theorem marks_len : ∀ m ∈ marks, 1 ≤ m.length := by decide
theorem tw_le (p : UInt8 → Bool) (l : Bs) : (l.takeWhile p).length ≤ l.length := by
  rw [← List.takeWhile_append_dropWhile (p := p) (l := l), List.length_append]
  simp
theorem isPrefixOf_len {a b : Bs} (h : a.isPrefixOf b = true) : a.length ≤ b.length := (List.isPrefixOf_iff_prefix.1 h).length_le
theorem tok_ok {l : Bs} {k : Int} {s : Bs} {n : Nat} (h : tok l = .ok k s n) : 1 ≤ n ∧ n ≤ l.length := by
  cases l with
  | nil => simp [tok] at h
  | cons b t =>
    rw [tok] at h
    by_cases h1 : letter b = true
    · rw [if_pos h1] at h
      have hw : wordB b = true := by simp [wordB, h1]
      have e : 1 ≤ ((b :: t).takeWhile wordB).length := by rw [List.takeWhile_cons_of_pos hw]; simp
      have e2 := tw_le wordB (b :: t)
      unfold word at h
      dsimp only at h
      split at h
      · injection h with _ _ h; omega
      · split at h
        · cases h
        · injection h with _ _ h; omega
    · rw [if_neg h1] at h
      by_cases h2 : digit b = true
      · rw [if_pos h2] at h
        have e : 1 ≤ ((b :: t).takeWhile digit).length := by rw [List.takeWhile_cons_of_pos h2]; simp
        have e2 := tw_le digit (b :: t)
        unfold number at h
        dsimp only at h
        split at h
        · cases h
        · split at h
          · cases h
          · injection h with _ _ h; omega
      · rw [if_neg h2] at h
        by_cases h3 : b = 39
        · rw [if_pos h3] at h
          unfold text at h
          rw [List.tail_cons] at h
          split at h
          · cases h
          · rename_i x hx
            have := body_some (s := x.1) (n := x.2) hx
            split at h
            · cases h
            · injection h with _ _ h; simp; omega
        · rw [if_neg h3] at h
          unfold mark at h
          split at h
          · rename_i m hm
            have hp := List.find?_some hm
            have hmem := List.mem_of_find?_eq_some hm
            have := isPrefixOf_len hp
            have := marks_len m hmem
            injection h with _ _ h; omega
          · cases h
end Go.Proofs.YtdcanjfdgfpdfaaGreatDoor.Lx
