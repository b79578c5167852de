/- Layer 5 as plain functions over lists of outs: kinds, chains, nodes, subqueries. -/
import Derived.ProofKit
namespace Go.Proofs.YtefelelhgepkeaaGreatDoor.K
/-- An out: the value's kind, integer and text, and the error. -/
structure Ot where
  k : Int
  n : Int
  s : ByteArray
  e : Int
/-- A valid value. -/
def vd (k n : Int) (s : ByteArray) : Bool :=
  if k = 0 then n == 0 && s.toList.isEmpty
  else if k = 1 then s.toList.isEmpty
  else if k = 2 then n == 0 && decide (s.size ≤ 100)
  else if k = 3 then (n == 0 || n == 1) && s.toList.isEmpty
  else false
def isErr (e : Int) : Bool := e == 3 || e == 4 || e == 5 || e == 6
def Ot.ok (o : Ot) : Bool := if o.e = 0 then vd o.k o.n o.s else isErr o.e && (o.k == 0 && o.n == 0 && o.s.toList == (⟨#[]⟩ : ByteArray).toList)
abbrev nul : Ot := ⟨0, 0, ⟨#[]⟩, 0⟩
abbrev bo (b : Bool) : Ot := ⟨3, if b then 1 else 0, ⟨#[]⟩, 0⟩
abbrev fl (e : Int) : Ot := ⟨0, 0, ⟨#[]⟩, e⟩
def isT (o : Ot) : Bool := o.e == 0 && (o.k == 3 && o.n == 1)
def isN (o : Ot) : Bool := o.e == 0 && o.k == 0
def lst (a b : Int) : Int := if a = 0 ∨ (b ≠ 0 ∧ b < a) then b else a
theorem ba_nil {s : ByteArray} (h : s.toList = []) : s = ⟨#[]⟩ := by
  have h2 : s.data.toList = [] := by rw [← ByteArray.toList_eq]; exact h
  obtain ⟨d⟩ := s
  have : d = #[] := Array.toList_eq_nil_iff.1 h2
  rw [this]
theorem ba_nil' : (⟨#[]⟩ : ByteArray).toList = [] := by decide +kernel
/-! ### Kinds -/
def agree (a b : Int) : Bool := a == b || (a == 0 || b == 0)
def com : Int → List Int → Option Int
  | o, [] => some o
  | o, x :: t => if agree o x then com (if o = 0 then x else o) t else none
def allAg (l : List Int) (k : Int) : Bool := l.all (agree · k)
theorem com_all {k : Int} (hk : k ≠ 0) : ∀ l : List Int, com k l = if allAg l k then some k else none
  | [] => rfl
  | x :: t => by
    rw [com, if_neg hk, com_all hk t, allAg, allAg, List.all_cons]
    have : agree k x = agree x k := by unfold agree; rw [Bool.eq_iff_iff]; simp; omega
    rw [this]
    cases agree x k <;> simp
/-- The conditions and the values of a CASE. -/
def parts : List Int → List Int × List Int
  | [] => ([], [])
  | [x] => ([], [x])
  | x :: y :: t => (x :: (parts t).1, y :: (parts t).2)
/-- The same, one by one: `c`: a condition stands here if one stands behind it. -/
def cks : Bool → List Int → List Int × List Int
  | _, [] => ([], [])
  | c, x :: t => if c && !t.isEmpty then (x :: (cks (!c) t).1, (cks (!c) t).2) else ((cks (!c) t).1, x :: (cks (!c) t).2)
theorem cks_parts : ∀ l : List Int, cks true l = parts l
  | [] => rfl
  | [x] => rfl
  | x :: y :: t => by
    have := cks_parts t
    simp only [cks, parts, Bool.not_true, Bool.not_false, Bool.true_and, List.isEmpty_cons, Bool.false_and, Bool.false_eq_true, if_true, if_false]
    rw [this]
/-- The sort of an operator, and the number of its kids; -1 if that is not fixed. -/
def sortOf (op : Int) : Int × Int :=
  if op = 4 then (1, 1) else if 5 ≤ op ∧ op ≤ 9 then (1, 2) else if op = 10 then (2, 2) else if op = 11 then (3, 1) else if 12 ≤ op ∧ op ≤ 18 then (4, 2) else if op = 19 then (5, 2)
  else if op = 20 then (6, 1) else if op = 21 ∨ op = 22 then (7, 1) else if op = 23 ∨ op = 24 then (8, -1) else if op = 25 then (9, -1) else if op = 26 then (10, -1) else (0, 0)
/-- The kind, if the kinds of the kids are as they must be. -/
def kindOf (s : Int) (l : List Int) : Option Int :=
  if s = 1 then (if allAg l 1 then some 1 else none)
  else if s = 2 then (if allAg l 2 then some 2 else none)
  else if s = 3 then (if allAg l 2 then some 1 else none)
  else if s = 4 then (if agree (l.getD 0 0) (l.getD 1 0) then some 3 else none)
  else if s = 5 then (if allAg l 2 then some 3 else none)
  else if s = 6 then some 3
  else if s = 7 ∨ s = 8 then (if allAg l 3 then some 3 else none)
  else if s = 9 then (if allAg (parts l).1 3 then com 0 (parts l).2 else none)
  else com 0 l
/-- Whether the operator takes so many kids, of kinds that are. -/
def takes (op : Int) (l : List Int) : Bool :=
  !((sortOf op).1 == 0 || (decide (0 ≤ (sortOf op).2) && (l.length : Int) != (sortOf op).2) || ((sortOf op).1 == 9 && decide (l.length < 2)) || ((sortOf op).1 == 10 && decide (l.length < 1))) && l.all (fun k => decide (k ≤ 3))
/-- The kind of a node, and the error. -/
def kind (op : Int) (l : List Int) : Int × Int :=
  if takes op l then (match kindOf (sortOf op).1 l with | some k => (k, 0) | none => (0, 50)) else (0, 1)
/-! ### Chains -/
def chain (d : Bool) : Bool → Int → List Ot → Ot
  | nl, e, [] => if nl then nul else if e ≠ 0 then fl e else bo (!d)
  | nl, e, o :: t => if o.e = 0 ∧ o.k = 3 ∧ isT o = d then bo d else chain d (nl || isN o) (lst e o.e) t
/-- A condition: an out that may stand in a chain. -/
def tr (o : Ot) : Bool := o.ok && (o.e != 0 || (o.k == 0 || o.k == 3))
theorem tr_cases {o : Ot} (h : tr o = true) : o = nul ∨ o = bo true ∨ o = bo false ∨ ∃ e, isErr e = true ∧ o = fl e := by
  obtain ⟨k, n, s, e⟩ := o
  unfold tr Ot.ok at h
  rw [ba_nil'] at h
  by_cases he : e = 0
  · subst he
    simp [vd] at h
    obtain ⟨h, rfl | rfl⟩ := h
    · simp at h
      obtain ⟨rfl, h⟩ := h
      rw [ba_nil h]; exact .inl rfl
    · simp at h
      obtain ⟨rfl | rfl, h⟩ := h
      · rw [ba_nil h]; exact .inr (.inr (.inl rfl))
      · rw [ba_nil h]; exact .inr (.inl rfl)
  · simp [he] at h
    obtain ⟨h, ⟨rfl, rfl⟩, hs⟩ := h
    rw [ba_nil hs]
    exact .inr (.inr (.inr ⟨e, h, rfl⟩))
/-- The place of a condition in the chain of `d`. -/
def rk (d : Bool) (o : Ot) : Int := if o.e ≠ 0 then o.e else if o.k = 0 then 1 else if (o.n == 1) = d then 0 else 9
def mr (d : Bool) : List Ot → Int
  | [] => 9
  | o :: t => min (rk d o) (mr d t)
/-- The condition with a place. -/
def dec (d : Bool) (r : Int) : Ot := if r = 0 then bo d else if r = 1 then nul else if r = 9 then bo (!d) else fl r
def isRk (r : Int) : Prop := r = 0 ∨ r = 1 ∨ r = 3 ∨ r = 4 ∨ r = 5 ∨ r = 6 ∨ r = 9
theorem err_cases {e : Int} (h : isErr e = true) : e = 3 ∨ e = 4 ∨ e = 5 ∨ e = 6 := by simpa [isErr, or_assoc] using h
theorem rk_is {d : Bool} {o : Ot} (h : tr o = true) : isRk (rk d o) := by
  unfold isRk
  rcases tr_cases h with rfl | rfl | rfl | ⟨e, he, rfl⟩
  · simp [rk]
  · cases d <;> simp [rk]
  · cases d <;> simp [rk]
  · rcases err_cases he with rfl | rfl | rfl | rfl <;> simp [rk]
theorem isRk_min {a b : Int} (ha : isRk a) (hb : isRk b) : isRk (min a b) := by
  rcases Int.le_total a b with h | h
  · rw [Int.min_eq_left h]; exact ha
  · rw [Int.min_eq_right h]; exact hb
theorem mr_is {d : Bool} : ∀ {l : List Ot}, l.all tr = true → isRk (mr d l)
  | [], _ => by simp [mr, isRk]
  | o :: t, h => by
    rw [List.all_cons, Bool.and_eq_true] at h
    exact isRk_min (rk_is h.1) (mr_is h.2)
theorem rk_dec {d : Bool} {r : Int} (h : isRk r) : rk d (dec d r) = r := by
  rcases h with rfl | rfl | rfl | rfl | rfl | rfl | rfl <;> cases d <;> simp [dec, rk]
theorem dec_rk {d : Bool} {o : Ot} (h : tr o = true) : dec d (rk d o) = o := by
  rcases tr_cases h with rfl | rfl | rfl | ⟨e, he, rfl⟩
  · simp [rk, dec]
  · cases d <;> simp [rk, dec]
  · cases d <;> simp [rk, dec]
  · rcases err_cases he with rfl | rfl | rfl | rfl <;> simp [rk, dec]
theorem tr_dec {d : Bool} {r : Int} (h : isRk r) : tr (dec d r) = true := by
  rcases h with rfl | rfl | rfl | rfl | rfl | rfl | rfl <;> cases d <;> simp [dec, tr, Ot.ok, vd, isErr, ba_nil']
theorem lst_zero (e : Int) : lst e 0 = e := by unfold lst; split <;> omega
theorem chain_gen (d : Bool) : ∀ (l : List Ot) (nl : Bool) (e : Int), l.all tr = true → (e = 0 ∨ isErr e = true) →
    chain d nl e l = dec d (min (if nl then 1 else 9) (min (if e = 0 then 9 else e) (mr d l)))
  | [], nl, e, _, he => by
    rcases he with rfl | he
    · cases nl <;> cases d <;> simp [chain, mr, dec, Int.min_def]
    · rcases err_cases he with rfl | rfl | rfl | rfl <;> cases nl <;> simp [chain, mr, dec, Int.min_def]
  | o :: t, nl, e, h, he => by
    rw [List.all_cons, Bool.and_eq_true] at h
    have hm := mr_is (d := d) h.2
    have h01 : ∀ a : Bool, (0 : Int) ≤ if a then 1 else 9 := by intro a; cases a <;> simp
    have hE : (0 : Int) ≤ if e = 0 then 9 else e := by
      rcases he with rfl | he
      · simp
      · have := err_cases he; split <;> omega
    have hM : 0 ≤ mr d t := by unfold isRk at hm; omega
    rcases tr_cases h.1 with rfl | rfl | rfl | ⟨f, hf, rfl⟩
    · rw [chain, if_neg (by simp), chain_gen d t _ _ h.2 (by rw [lst_zero]; exact he), lst_zero]
      congr 1
      cases nl <;> simp [isN, mr, rk] <;> omega
    · cases d
      · rw [chain, if_neg (by simp [isT]), chain_gen _ t _ _ h.2 (by rw [lst_zero]; exact he), lst_zero]
        congr 1
        cases nl <;> simp [isN, mr, rk] <;> omega
      · rw [chain, if_pos (by simp [isT])]
        have : min (if nl then 1 else 9) (min (if e = 0 then 9 else e) (mr true (bo true :: t))) = 0 := by
          have := h01 nl
          simp [mr, rk] at *; omega
        rw [this]; simp [dec]
    · cases d
      · rw [chain, if_pos (by simp [isT])]
        have : min (if nl then 1 else 9) (min (if e = 0 then 9 else e) (mr false (bo false :: t))) = 0 := by
          have := h01 nl
          simp [mr, rk] at *; omega
        rw [this]; simp [dec]
      · rw [chain, if_neg (by simp [isT]), chain_gen _ t _ _ h.2 (by rw [lst_zero]; exact he), lst_zero]
        congr 1
        cases nl <;> simp [isN, mr, rk] <;> omega
    · have hf' := err_cases hf
      have hl : lst e f = 0 ∨ isErr (lst e f) = true := by
        unfold lst; split
        · exact .inr hf
        · exact he
      rw [chain, if_neg (by simp), chain_gen d t _ _ h.2 hl]
      congr 1
      have : (isN (fl f)) = false := by simp [isN]; omega
      rw [this, Bool.or_false]
      congr 1
      have hr : rk d (fl f) = f := by simp [rk]; omega
      rw [mr, hr]
      rcases he with rfl | he
      · have : lst 0 f = f := by simp [lst]
        rw [this]; simp; omega
      · have := err_cases he
        unfold lst
        split <;> (repeat' split) <;> omega
/-- What a chain comes to. -/
theorem chain_is (d : Bool) {l : List Ot} (h : l.all tr = true) : chain d false 0 l = dec d (mr d l) := by
  rw [chain_gen d l false 0 h (.inl rfl)]
  have := mr_is (d := d) h
  congr 1
  unfold isRk at this
  simp; omega
theorem mr_append (d : Bool) : ∀ a b : List Ot, mr d (a ++ b) = min (mr d a) (mr d b)
  | [], b => by
    have : ∀ l : List Ot, mr d l ≤ 9 := by
      intro l; induction l with
      | nil => simp [mr]
      | cons o t ih => rw [mr]; omega
    have := this b
    rw [List.nil_append, mr]; omega
  | o :: t, b => by rw [List.cons_append, mr, mr, mr_append d t b]; omega
theorem mr_reverse (d : Bool) : ∀ l : List Ot, mr d l.reverse = mr d l
  | [] => rfl
  | o :: t => by
    rw [List.reverse_cons, mr_append, mr_reverse d t, mr, mr, mr]
    have : ∀ l : List Ot, mr d l ≤ 9 := by
      intro l; induction l with
      | nil => simp [mr]
      | cons o t ih => rw [mr]; omega
    have := this t
    omega
/-- NOT. -/
def neg (o : Ot) : Ot := if o.k = 3 then bo (!(o.n == 1)) else o
theorem rk_neg {d : Bool} {o : Ot} (h : tr o = true) : rk d (neg o) = rk (!d) o := by
  rcases tr_cases h with rfl | rfl | rfl | ⟨e, he, rfl⟩
  · simp [rk, neg]
  · cases d <;> simp [rk, neg]
  · cases d <;> simp [rk, neg]
  · rcases err_cases he with rfl | rfl | rfl | rfl <;> simp [rk, neg]
theorem tr_neg {o : Ot} (h : tr o = true) : tr (neg o) = true := by
  rcases tr_cases h with rfl | rfl | rfl | ⟨e, he, rfl⟩
  · exact h
  · simp [neg, tr, Ot.ok, vd, ba_nil']
  · simp [neg, tr, Ot.ok, vd, ba_nil']
  · exact h
theorem mr_neg {d : Bool} : ∀ {l : List Ot}, l.all tr = true → mr d (l.map neg) = mr (!d) l
  | [], _ => rfl
  | o :: t, h => by
    rw [List.all_cons, Bool.and_eq_true] at h
    rw [List.map_cons, mr, mr, rk_neg h.1, mr_neg h.2]
theorem neg_dec {d : Bool} {r : Int} (h : isRk r) : neg (dec d r) = dec (!d) r := by
  rcases h with rfl | rfl | rfl | rfl | rfl | rfl | rfl <;> cases d <;> simp [dec, neg]
theorem all_neg : ∀ {l : List Ot}, l.all tr = true → (l.map neg).all tr = true
  | [], _ => rfl
  | o :: t, h => by
    rw [List.all_cons, Bool.and_eq_true] at h
    rw [List.map_cons, List.all_cons, tr_neg h.1, all_neg h.2]; rfl
/-- The program's chain of AND: of the conditions the one with the first place. -/
def andP : Ot → List Ot → Ot
  | f, [] => f
  | f, o :: t => andP (if rk false o < rk false f then o else f) t
theorem andP_is : ∀ (l : List Ot) (f : Ot), l.all tr = true → tr f = true → andP f l = dec false (min (rk false f) (mr false l))
  | [], f, _, hf => by
    have h9 : rk false f ≤ 9 := by have := rk_is (d := false) hf; unfold isRk at this; omega
    rw [andP, mr, Int.min_eq_left h9, dec_rk hf]
  | o :: t, f, h, hf => by
    rw [List.all_cons, Bool.and_eq_true] at h
    rw [andP, mr]
    split
    · rw [andP_is t o h.2 h.1]; congr 1; omega
    · rw [andP_is t f h.2 hf]; congr 1; omega
theorem and_is {l : List Ot} (h : l.all tr = true) : andP (bo true) l = chain false false 0 l := by
  rw [andP_is l _ h (by decide +kernel), chain_is false h]
  congr 1
  have := mr_is (d := false) h
  unfold isRk at this
  simp [rk]; omega
theorem or_is {l : List Ot} (h : l.all tr = true) : neg (andP (bo true) (l.map neg)) = chain true false 0 l := by
  rw [and_is (all_neg h), chain_is false (all_neg h), chain_is true h, mr_neg h, neg_dec (mr_is h)]
  rfl
end Go.Proofs.YtefelelhgepkeaaGreatDoor.K
