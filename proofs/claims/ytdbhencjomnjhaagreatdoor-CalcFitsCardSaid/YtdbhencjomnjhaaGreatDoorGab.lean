/- Patterns, as the document says them, and why two cursors decide them: plain lists, no program. -/
import Derived.Lib.Hide
import Derived.Test.YtdbhencjomnjhaaGreatDoorGaa
import Derived.LoopTactic
import Derived.Deep.LoopGhost
import Derived.IntWalk
namespace Go.Proofs.YtdbhencjomnjhaaGreatDoor.M
/-- The pieces: a percent sign takes any piece, a low line any byte, any other byte itself. -/
def mt : List UInt8 → List UInt8 → Bool
  | t, [] => t.isEmpty
  | [], d :: p => if d = 37 then mt [] p else false
  | c :: t, d :: p => if d = 37 then mt (c :: t) p || mt t (d :: p) else if d = 95 ∨ d = c then mt t p else false
termination_by t p => t.length + p.length
theorem mt_nil (t : List UInt8) : mt t [] = t.isEmpty := by rw [mt]
theorem mt_end (d : UInt8) (p : List UInt8) : mt [] (d :: p) = if d = 37 then mt [] p else false := by rw [mt]
theorem mt_star (c : UInt8) (t p : List UInt8) : mt (c :: t) (37 :: p) = (mt (c :: t) p || mt t (37 :: p)) := by rw [mt, if_pos rfl]
theorem mt_char (c d : UInt8) (t p : List UInt8) (h : d ≠ 37) : mt (c :: t) (d :: p) = if d = 95 ∨ d = c then mt t p else false := by rw [mt, if_neg h]
theorem star_iff (q : List UInt8) : ∀ t : List UInt8, mt t (37 :: q) = true ↔ ∃ k, k ≤ t.length ∧ mt (t.drop k) q = true
  | [] => by
    rw [mt_end, if_pos rfl]
    exact ⟨fun h => ⟨0, by simp, h⟩, fun ⟨k, hk, h⟩ => by simpa using h⟩
  | c :: t => by
    rw [mt_star, Bool.or_eq_true, star_iff q t]
    constructor
    · rintro (h | ⟨k, hk, h⟩)
      · exact ⟨0, by simp, h⟩
      · exact ⟨k + 1, by simpa using hk, by simpa using h⟩
    · rintro ⟨k, hk, h⟩
      cases k with
      | zero => exact .inl (by simpa using h)
      | succ k => exact .inr ⟨k, by simpa using hk, by simpa using h⟩
/-- The first j bytes of the pattern stand for themselves, or for any byte. -/
def lit : Nat → List UInt8 → Prop
  | 0, _ => True
  | _ + 1, [] => False
  | j + 1, d :: p => d ≠ 37 ∧ lit j p
/-- .. and the text's first j bytes fit them. -/
def pre : Nat → List UInt8 → List UInt8 → Prop
  | 0, _, _ => True
  | j + 1, c :: t, d :: p => d ≠ 37 ∧ (d = 95 ∨ d = c) ∧ pre j t p
  | _ + 1, _, _ => False
theorem pre_lit : ∀ {j : Nat} {t p : List UInt8}, pre j t p → lit j p
  | 0, _, _, _ => trivial
  | j + 1, [], _, h => by simp [pre] at h
  | j + 1, _ :: _, [], h => by simp [pre] at h
  | j + 1, c :: t, d :: p, h => ⟨h.1, pre_lit h.2.2⟩
theorem pre_mt : ∀ {j : Nat} {t p : List UInt8}, pre j t p → mt t p = mt (t.drop j) (p.drop j)
  | 0, _, _, _ => by simp
  | j + 1, [], _, h => by simp [pre] at h
  | j + 1, _ :: _, [], h => by simp [pre] at h
  | j + 1, c :: t, d :: p, h => by rw [mt_char c d t p h.1, if_pos h.2.1, pre_mt h.2.2]; simp
theorem lit_mt : ∀ {j : Nat} {t p : List UInt8}, lit j p → mt t p = true → j ≤ t.length ∧ mt (t.drop j) (p.drop j) = true
  | 0, _, _, _, h => by simpa using h
  | j + 1, _, [], h, _ => by simp [lit] at h
  | j + 1, [], d :: p, h, hm => by rw [mt_end, if_neg h.1] at hm; cases hm
  | j + 1, c :: t, d :: p, h, hm => by
    rw [mt_char c d t p h.1] at hm
    split at hm
    · obtain ⟨h1, h2⟩ := lit_mt h.2 hm
      exact ⟨by simpa using h1, by simpa using h2⟩
    · cases hm
theorem pre_snoc : ∀ {j : Nat} {t p t' p' : List UInt8} {c d : UInt8}, pre j t p → t.drop j = c :: t' → p.drop j = d :: p' → d ≠ 37 → (d = 95 ∨ d = c) → pre (j + 1) t p
  | 0, t, p, t', p', c, d, _, ht, hp, h1, h2 => by
    simp only [List.drop_zero] at ht hp
    subst ht hp
    exact ⟨h1, h2, trivial⟩
  | j + 1, [], _, _, _, _, _, h, _, _, _, _ => by simp [pre] at h
  | j + 1, _ :: _, [], _, _, _, _, h, _, _, _, _ => by simp [pre] at h
  | j + 1, c :: t, d :: p, t', p', c', d', h, ht, hp, h1, h2 => ⟨h.1, h.2.1, pre_snoc h.2.2 (by simpa using ht) (by simpa using hp) h1 h2⟩
/-- What the two cursors have done so far. -/
def Inv (T P : List UInt8) (at' place : Nat) (after : Int) (piece : Nat) : Prop :=
  at' ≤ T.length ∧ place ≤ P.length ∧ piece ≤ at' ∧ after ≤ place ∧
  ((after = -1 ∧ mt T P = mt (T.drop at') (P.drop place)) ∨
   (∃ a j : Nat, after = a ∧ piece + j = at' ∧ a + j = place ∧ mt T P = mt (T.drop piece) (37 :: P.drop a) ∧ pre j (T.drop piece) (P.drop a)))
theorem inv_start (T P : List UInt8) : Inv T P 0 0 (-1) 0 := ⟨by omega, by omega, by omega, by omega, .inl ⟨rfl, by simp⟩⟩
theorem inv_star {T P : List UInt8} {at' place piece : Nat} {after : Int} (h : Inv T P at' place after piece) {p' : List UInt8} (hp : P.drop place = 37 :: p') : Inv T P at' (place + 1) (place + 1) at' := by
  obtain ⟨h1, h2, h3, h4, h5⟩ := h
  have hlt : place < P.length := by
    have := congrArg List.length hp
    simp at this
    omega
  have hd : P.drop (place + 1) = p' := by rw [← List.drop_drop, hp]; simp
  refine ⟨h1, hlt, Nat.le_refl _, by omega, .inr ⟨place + 1, 0, by omega, by omega, by omega, ?_, trivial⟩⟩
  rw [hd]
  rcases h5 with ⟨_, h5⟩ | ⟨a, j, _, hj, hpl, h5, hpre⟩
  · rw [h5, hp]
  · rw [h5]
    have hQ : (P.drop a).drop j = 37 :: p' := by rw [List.drop_drop, hpl]; exact hp
    have hT : (T.drop piece).drop j = T.drop at' := by rw [List.drop_drop, hj]
    rw [Bool.eq_iff_iff, star_iff]
    constructor
    · rintro ⟨k, hk, hm⟩
      obtain ⟨e1, e2⟩ := lit_mt (pre_lit hpre) hm
      rw [hQ, star_iff] at e2
      obtain ⟨k', hk', hm'⟩ := e2
      rw [star_iff]
      simp only [List.drop_drop, List.length_drop] at *
      refine ⟨k + k', by omega, ?_⟩
      rw [show at' + (k + k') = piece + k + j + k' by omega]
      exact hm'
    · intro hm
      refine ⟨0, by simp, ?_⟩
      rw [List.drop_zero, pre_mt hpre, hQ, hT]
      exact hm
theorem inv_char {T P : List UInt8} {at' place piece : Nat} {after : Int} (h : Inv T P at' place after piece) {c d : UInt8} {t' p' : List UInt8} (ht : T.drop at' = c :: t') (hp : P.drop place = d :: p')
    (h37 : d ≠ 37) (hcd : d = 95 ∨ d = c) : Inv T P (at' + 1) (place + 1) after piece := by
  obtain ⟨h1, h2, h3, h4, h5⟩ := h
  have hlt : place < P.length := by have := congrArg List.length hp; simp at this; omega
  have hlt' : at' < T.length := by have := congrArg List.length ht; simp at this; omega
  have hd : P.drop (place + 1) = p' := by rw [← List.drop_drop, hp]; simp
  have hd' : T.drop (at' + 1) = t' := by rw [← List.drop_drop, ht]; simp
  refine ⟨hlt', hlt, by omega, by omega, ?_⟩
  rcases h5 with ⟨ha, h5⟩ | ⟨a, j, ha, hj, hpl, h5, hpre⟩
  · refine .inl ⟨ha, ?_⟩
    rw [h5, ht, hp, mt_char c d t' p' h37, if_pos hcd, hd, hd']
  · exact .inr ⟨a, j + 1, ha, by omega, by omega, h5, pre_snoc hpre (by rw [List.drop_drop, hj]; exact ht) (by rw [List.drop_drop, hpl]; exact hp) h37 hcd⟩
/-- Where the cursors stand, nothing fits. -/
def Miss (T P : List UInt8) (at' place : Nat) : Prop := mt (T.drop at') (P.drop place) = false
theorem miss_char {T P : List UInt8} {at' place : Nat} {c d : UInt8} {t' p' : List UInt8} (ht : T.drop at' = c :: t') (hp : P.drop place = d :: p') (h1 : d ≠ 37) (h2 : d ≠ 95) (h3 : d ≠ c) : Miss T P at' place := by
  unfold Miss
  rw [ht, hp, mt_char c d t' p' h1, if_neg (by simp [h2, h3])]
theorem miss_end {T P : List UInt8} {at' place : Nat} (ht : at' < T.length) (hp : P.length ≤ place) : Miss T P at' place := by
  unfold Miss
  rw [List.drop_eq_nil_of_le hp, mt_nil, List.drop_eq_getElem_cons ht]
  rfl
theorem inv_back {T P : List UInt8} {at' place piece : Nat} {after : Int} (h : Inv T P at' place after piece) (hat : at' < T.length) (hm : Miss T P at' place) (ha : 0 ≤ after) :
    Inv T P (piece + 1) after.toNat after (piece + 1) := by
  obtain ⟨h1, h2, h3, h4, h5⟩ := h
  rcases h5 with ⟨ha', _⟩ | ⟨a, j, rfl, hj, hpl, h5, hpre⟩
  · omega
  · refine ⟨by omega, by omega, Nat.le_refl _, by omega, .inr ⟨a, 0, rfl, by omega, by omega, ?_, trivial⟩⟩
    rw [h5]
    have hlt : piece < T.length := by omega
    have hf : mt (T.drop piece) (P.drop a) = false := by
      rw [pre_mt hpre, List.drop_drop, List.drop_drop, hj, hpl]; exact hm
    rw [List.drop_eq_getElem_cons hlt] at hf ⊢
    rw [mt_star, hf, Bool.false_or]
theorem inv_fail {T P : List UInt8} {at' place piece : Nat} {after : Int} (h : Inv T P at' place after piece) (hm : Miss T P at' place) (ha : after < 0) : mt T P = false := by
  obtain ⟨h1, h2, h3, h4, h5⟩ := h
  rcases h5 with ⟨_, h5⟩ | ⟨a, j, rfl, _⟩
  · rw [h5]; exact hm
  · omega
theorem mt_stars : ∀ p : List UInt8, mt [] p = p.all (· == 37)
  | [] => by rw [mt_nil]; rfl
  | d :: p => by
    rw [mt_end, List.all_cons, mt_stars p]
    by_cases h : d = 37 <;> simp [h]
theorem inv_end {T P : List UInt8} {at' place piece : Nat} {after : Int} (h : Inv T P at' place after piece) (hat : T.length ≤ at') : mt T P = (P.drop place).all (· == 37) := by
  obtain ⟨h1, h2, h3, h4, h5⟩ := h
  rw [← mt_stars]
  have he : T.drop at' = [] := List.drop_eq_nil_of_le hat
  rcases h5 with ⟨_, h5⟩ | ⟨a, j, rfl, hj, hpl, h5, hpre⟩
  · rw [h5, he]
  · rw [h5]
    have hpm : mt (T.drop piece) (P.drop a) = mt [] (P.drop place) := by rw [pre_mt hpre, List.drop_drop, List.drop_drop, hj, hpl, he]
    rw [Bool.eq_iff_iff, star_iff]
    constructor
    · rintro ⟨k, hk, hm⟩
      obtain ⟨e1, _⟩ := lit_mt (pre_lit hpre) hm
      simp only [List.length_drop] at *
      have hk0 : k = 0 := by omega
      subst hk0
      rw [← hpm]
      simpa using hm
    · intro hm
      exact ⟨0, by simp, by rw [List.drop_zero, hpm]; exact hm⟩
end Go.Proofs.YtdbhencjomnjhaaGreatDoor.M
namespace Go.Proofs.YtdbhencjomnjhaaGreatDoor.K
open Go.Proofs.YtdbhencjomnjhaaGreatDoor.V
/-! ### Nodes -/
def ex (n : Int) : Int × Int := if Fits n then (n, 0) else (0, 4)
/-- A result of arithmetic, and its error. -/
def arith (op a b : Int) : Int × Int :=
  if op = 4 then ex (0 - b) else if op = 5 then ex (a + b) else if op = 6 then ex (a - b) else if op = 7 then ex (a * b)
  else if op = 8 then (if b = 0 then (0, 3) else ex (a.tdiv b)) else (if b = 0 then (0, 3) else (a.tmod b, 0))
def numO (op a b : Int) : Ot := if (arith op a b).2 ≠ 0 then fl (arith op a b).2 else ⟨1, (arith op a b).1, ⟨#[]⟩, 0⟩
def textO (s : ByteArray) : Ot := if 100 < s.size then fl 5 else ⟨2, 0, s, 0⟩
def cmpO (op c : Int) : Ot :=
  if op = 12 then bo (c == 0) else if op = 13 then bo (c != 0) else if op = 14 then bo (decide (c < 0)) else if op = 15 then bo (decide (c ≤ 0)) else if op = 16 then bo (decide (c > 0)) else bo (decide (c ≥ 0))
def matchO (s p : ByteArray) : Bool := M.mt s.data.toList p.data.toList
/-- A node whose kids are values that are not null. -/
def strictO (op : Int) (a b : Ot) : Ot :=
  if 4 ≤ op ∧ op ≤ 9 then numO op a.n b.n else if op = 10 then textO (a.s ++ b.s) else if op = 11 then ⟨1, (a.s.size : Int), ⟨#[]⟩, 0⟩
  else if op = 19 then bo (matchO a.s b.s) else if op = 22 then bo (!isT a) else cmpO op (cmpV a.k a.n a.s b.k b.n b.s)
def errs : Int → List Ot → Int
  | e, [] => e
  | e, o :: t => errs (lst e o.e) t
def choose : List Ot → Ot
  | [] => nul
  | [o] => o
  | c :: v :: t => if c.e ≠ 0 then c else if isT c then v else choose t
def first : List Ot → Ot
  | [] => nul
  | o :: t => if isN o then first t else o
def frst (l : List Ot) : Ot := l.headD nul
def scnd : List Ot → Ot
  | [] => nul
  | [o] => o
  | _ :: o :: _ => o
def fits (op : Int) (l : List Ot) : Bool := l.all Ot.ok && (kind op (l.map (·.k))).2 == 0
def sameO (a b : Ot) : Bool := a.e == b.e && same a.k a.n a.s b.k b.n b.s
/-- A node none of whose operators is lazy. -/
def strictR (op : Int) (l : List Ot) : Ot :=
  if errs 0 l ≠ 0 then fl (errs 0 l)
  else if op = 18 then bo (same (frst l).k (frst l).n (frst l).s (scnd l).k (scnd l).n (scnd l).s)
  else if op = 20 then bo (l.any isN)
  else if op = 21 then bo (isT (frst l))
  else if l.any isN then nul
  else strictO op (frst l) (scnd l)
/-- What a node comes to. -/
def node (op : Int) (l : List Ot) : Ot :=
  if fits op l then
    (if op = 23 then chain false false 0 l else if op = 24 then chain true false 0 l else if op = 25 then choose l else if op = 26 then first l else strictR op l)
  else fl 1
/-! ### Facts about kinds -/
theorem vd_kind {k n : Int} {s : ByteArray} (h : vd k n s = true) : k = 0 ∨ k = 1 ∨ k = 2 ∨ k = 3 := by
  unfold vd at h
  split at h
  · omega
  · split at h
    · omega
    · split at h
      · omega
      · split at h
        · omega
        · cases h
theorem ok_kind {o : Ot} (h : o.ok = true) : o.k = 0 ∨ o.k = 1 ∨ o.k = 2 ∨ o.k = 3 := by
  unfold Ot.ok at h
  split at h
  · exact vd_kind h
  · simp at h; omega
theorem ok_fails {o : Ot} (h : o.ok = true) (he : o.e ≠ 0) : isErr o.e = true ∧ o = fl o.e := by
  obtain ⟨k, n, s, e⟩ := o
  unfold Ot.ok at h
  rw [if_neg he, ba_nil'] at h
  simp at h
  obtain ⟨h, ⟨rfl, rfl⟩, hs⟩ := h
  exact ⟨h, by rw [ba_nil hs]⟩
theorem ok_null {o : Ot} (h : o.ok = true) (he : isN o = true) : o = nul := by
  obtain ⟨k, n, s, e⟩ := o
  simp [isN] at he
  obtain ⟨rfl, rfl⟩ := he
  simp [Ot.ok, vd] at h
  obtain ⟨rfl, hs⟩ := h
  rw [ba_nil hs]
theorem agree_iff {a b : Int} : agree a b = true ↔ a = b ∨ a = 0 ∨ b = 0 := by simp [agree]
theorem com_mem : ∀ {l : List Int} {o k : Int}, com o l = some k → (o = 0 ∨ o = k) ∧ ∀ x ∈ l, x = 0 ∨ x = k
  | [], o, k, h => by
    simp [com] at h
    exact ⟨.inr h, by simp⟩
  | y :: t, o, k, h => by
    rw [com] at h
    split at h
    · rename_i ha
      rw [agree_iff] at ha
      obtain ⟨h1, h2⟩ := com_mem h
      split at h1
      · rename_i h0
        subst h0
        refine ⟨.inl rfl, fun x hx => ?_⟩
        rcases List.mem_cons.1 hx with rfl | hx
        · exact h1
        · exact h2 x hx
      · rename_i h0
        have : o = k := by omega
        subst this
        refine ⟨.inr rfl, fun x hx => ?_⟩
        rcases List.mem_cons.1 hx with rfl | hx
        · omega
        · exact h2 x hx
    · cases h
theorem choose_mem : ∀ l : List Ot, (choose l).e ≠ 0 ∧ choose l ∈ l ∨ choose l = nul ∨ (choose l ∈ l ∧ (choose l).k ∈ (parts (l.map (·.k))).2)
  | [] => .inr (.inl rfl)
  | [o] => .inr (.inr ⟨by simp [choose], by simp [choose, parts]⟩)
  | c :: v :: t => by
    rw [choose]
    split
    · exact .inl ⟨by assumption, by simp⟩
    · split
      · exact .inr (.inr ⟨by simp, by simp [parts]⟩)
      · rcases choose_mem t with h | h | h
        · exact .inl ⟨h.1, by simp [h.2]⟩
        · exact .inr (.inl h)
        · exact .inr (.inr ⟨by simp [h.1], by simp [parts, h.2]⟩)
theorem first_mem : ∀ l : List Ot, first l = nul ∨ first l ∈ l
  | [] => .inl rfl
  | o :: t => by
    rw [first]
    split
    · rcases first_mem t with h | h
      · exact .inl h
      · exact .inr (by simp [h])
    · exact .inr (by simp)
theorem errs_is : ∀ (l : List Ot) (e : Int), l.all Ot.ok = true → (e = 0 ∨ isErr e = true) → errs e l = 0 ∨ isErr (errs e l) = true
  | [], e, _, he => he
  | o :: t, e, h, he => by
    rw [List.all_cons, Bool.and_eq_true] at h
    rw [errs]
    refine errs_is t _ h.2 ?_
    unfold lst
    split
    · by_cases h0 : o.e = 0
      · exact .inl h0
      · exact .inr (ok_fails h.1 h0).1
    · exact he
theorem ok_fl {e : Int} (h : isErr e = true) : (fl e).ok = true := by
  rcases err_cases h with rfl | rfl | rfl | rfl <;> simp [Ot.ok, isErr, ba_nil']
theorem ok_bo (b : Bool) : (bo b).ok = true := by cases b <;> simp [Ot.ok, vd, ba_nil']
theorem ok_nul : nul.ok = true := by simp [Ot.ok, vd, ba_nil']
theorem ex_err (n : Int) : (ex n).2 = 0 ∨ (ex n).2 = 4 := by unfold ex; split <;> simp
theorem arith_err (op a b : Int) : (arith op a b).2 = 0 ∨ isErr (arith op a b).2 = true := by
  have h : ∀ n, (ex n).2 = 0 ∨ isErr (ex n).2 = true := fun n => by
    rcases ex_err n with h | h
    · exact .inl h
    · rw [h]; exact .inr rfl
  unfold arith
  split
  · exact h _
  · split
    · exact h _
    · split
      · exact h _
      · split
        · exact h _
        · split
          · split
            · exact .inr rfl
            · exact h _
          · split
            · exact .inr rfl
            · exact .inl rfl
theorem cmpO_bo (op c : Int) : ∃ b, cmpO op c = bo b := by
  unfold cmpO
  repeat' split
  all_goals exact ⟨_, rfl⟩
theorem kind_ok {op : Int} {l : List Int} (h : (kind op l).2 = 0) : takes op l = true ∧ kindOf (sortOf op).1 l = some (kind op l).1 := by
  unfold kind at h ⊢
  cases ht : takes op l with
  | false => rw [ht] at h; simp at h
  | true =>
    rw [ht] at h
    rw [if_pos rfl] at h ⊢
    cases hk : kindOf (sortOf op).1 l with
    | none => rw [hk] at h; simp at h
    | some k => simp
theorem takes_op {op : Int} {l : List Int} (h : takes op l = true) : 4 ≤ op ∧ op ≤ 26 := by
  unfold takes at h
  have : ¬ (sortOf op).1 = 0 := by
    intro e; rw [e] at h; simp at h
  unfold sortOf at this
  split at this
  · omega
  · split at this
    · omega
    · split at this
      · omega
      · split at this
        · omega
        · split at this
          · omega
          · split at this
            · omega
            · split at this
              · omega
              · split at this
                · omega
                · split at this
                  · omega
                  · split at this
                    · omega
                    · split at this
                      · omega
                      · simp at this
/-- What a node comes to is valid, and null or of the kind that it has. -/
theorem node_fits {op : Int} {l : List Ot} (h : fits op l = true) : (node op l).ok = true ∧ ((node op l).k = 0 ∨ (node op l).k = (kind op (l.map (·.k))).1) := by
  have hf := h
  unfold fits at h
  rw [Bool.and_eq_true] at h
  obtain ⟨hv, hk⟩ := h
  obtain ⟨ht, hk⟩ := kind_ok (by simpa using hk)
  have hop := takes_op ht
  have hmem : ∀ o ∈ l, o.ok = true := List.all_eq_true.1 hv
  have he := errs_is l 0 hv (.inl rfl)
  unfold node
  rw [if_pos hf]
  generalize hK : (kind op (l.map (·.k))).1 = K at hk ⊢
  have hstr : 4 ≤ op ∧ op ≤ 22 → (strictR op l).ok = true ∧ ((strictR op l).k = 0 ∨ (strictR op l).k = K) := by
    intro hop
    unfold strictR
    split
    · rename_i h0
      exact ⟨ok_fl (he.resolve_left h0), .inl rfl⟩
    · have hK3 : (12 ≤ op ∧ op ≤ 22) → K = 3 := by
        intro ho
        have hs : (sortOf op).1 = 4 ∨ (sortOf op).1 = 5 ∨ (sortOf op).1 = 6 ∨ (sortOf op).1 = 7 := by
          unfold sortOf
          rw [if_neg (by omega), if_neg (by omega), if_neg (by omega), if_neg (by omega)]
          split
          · simp
          · split
            · simp
            · split
              · simp
              · rw [if_pos (by omega)]; simp
        unfold kindOf at hk
        rcases hs with hs | hs | hs | hs <;> rw [hs] at hk <;> simp at hk <;> omega
      have hbo : (12 ≤ op ∧ op ≤ 22) → ∀ b, (bo b).ok = true ∧ ((bo b).k = 0 ∨ (bo b).k = K) := fun ho b => ⟨ok_bo b, .inr (hK3 ho).symm⟩
      split
      · exact hbo (by omega) _
      · split
        · exact hbo (by omega) _
        · split
          · exact hbo (by omega) _
          · split
            · exact ⟨ok_nul, .inl rfl⟩
            · unfold strictO
              split
              · rename_i ho
                have hs : (sortOf op).1 = 1 := by
                  unfold sortOf
                  split
                  · rfl
                  · rw [if_pos (by omega)]
                unfold kindOf at hk
                rw [hs] at hk
                simp at hk
                unfold numO
                split
                · rename_i h0
                  exact ⟨ok_fl ((arith_err _ _ _).resolve_left h0), .inl rfl⟩
                · exact ⟨by simp [Ot.ok, vd, ba_nil'], .inr (by simp; omega)⟩
              · split
                · rename_i ho
                  subst ho
                  simp [sortOf, kindOf] at hk
                  unfold textO
                  split
                  · exact ⟨ok_fl rfl, .inl rfl⟩
                  · rename_i h1
                    exact ⟨by simp [Ot.ok, vd] at h1 ⊢; omega, .inr (by simp; omega)⟩
                · split
                  · rename_i ho
                    subst ho
                    simp [sortOf, kindOf] at hk
                    exact ⟨by simp [Ot.ok, vd, ba_nil'], .inr (by simp; omega)⟩
                  · split
                    · exact hbo (by omega) _
                    · split
                      · exact hbo (by omega) _
                      · obtain ⟨b, hb⟩ := cmpO_bo op (cmpV (frst l).k (frst l).n (frst l).s (scnd l).k (scnd l).n (scnd l).s)
                        rw [hb]
                        exact hbo (by omega) _
  have hch : ∀ d, (op = 23 ∨ op = 24) → (chain d false 0 l).ok = true ∧ ((chain d false 0 l).k = 0 ∨ (chain d false 0 l).k = K) := by
    intro d ho
    have hs : (sortOf op).1 = 8 := by rcases ho with rfl | rfl <;> rfl
    rw [hs] at hk
    simp [kindOf] at hk
    have htr : l.all tr = true := by
      rw [List.all_eq_true]
      intro o hm
      have ha := List.all_eq_true.1 hk.1 o.k (List.mem_map.2 ⟨o, hm, rfl⟩)
      rw [agree_iff] at ha
      unfold tr
      rw [hmem o hm, Bool.true_and]
      simp; omega
    rw [chain_is d htr]
    have hr := mr_is (d := d) htr
    refine ⟨?_, ?_⟩
    · have := tr_dec (d := d) hr
      unfold tr at this
      rw [Bool.and_eq_true] at this
      exact this.1
    · rcases hr with e | e | e | e | e | e | e <;> rw [e] <;> simp [dec] <;> omega
  split
  · exact hch _ (by omega)
  · split
    · exact hch _ (by omega)
    · split
      · rename_i ho
        subst ho
        have hs : (sortOf 25).1 = 9 := rfl
        rw [hs] at hk
        simp [kindOf] at hk
        rcases choose_mem l with ⟨h0, hm⟩ | h | ⟨hm, h2⟩
        · have := (ok_fails (hmem _ hm) h0).2
          exact ⟨hmem _ hm, .inl (by rw [this])⟩
        · rw [h]; exact ⟨ok_nul, .inl rfl⟩
        · exact ⟨hmem _ hm, (com_mem hk.2).2 _ h2⟩
      · split
        · rename_i ho
          subst ho
          have hs : (sortOf 26).1 = 10 := rfl
          rw [hs] at hk
          simp [kindOf] at hk
          rcases first_mem l with h | h
          · rw [h]; exact ⟨ok_nul, .inl rfl⟩
          · exact ⟨hmem _ h, (com_mem hk).2 _ (List.mem_map.2 ⟨_, h, rfl⟩)⟩
        · exact hstr (by omega)
end Go.Proofs.YtdbhencjomnjhaaGreatDoor.K
namespace Go.Proofs.YtdbhencjomnjhaaGreatDoor.K
open Go.Proofs.YtdbhencjomnjhaaGreatDoor.V
/-! ### Chains -/
theorem all_ok_of_tr {l : List Ot} (h : l.all tr = true) : l.all Ot.ok = true := by
  rw [List.all_eq_true] at h ⊢
  intro o ho
  have := h o ho
  unfold tr at this
  rw [Bool.and_eq_true] at this
  exact this.1
theorem tr_kind {o : Ot} (h : tr o = true) : o.k = 0 ∨ o.k = 3 := by
  rcases tr_cases h with rfl | rfl | rfl | ⟨e, _, rfl⟩ <;> simp
theorem kinds_tr {l : List Ot} (h : l.all tr = true) : allAg (l.map (·.k)) 3 = true ∧ (l.map (·.k)).all (fun k => decide (k ≤ 3)) = true := by
  rw [List.all_eq_true] at h
  constructor
  · unfold allAg
    rw [List.all_eq_true]
    intro x hx
    obtain ⟨o, ho, rfl⟩ := List.mem_map.1 hx
    have := tr_kind (h o ho)
    rw [agree_iff]; omega
  · rw [List.all_eq_true]
    intro x hx
    obtain ⟨o, ho, rfl⟩ := List.mem_map.1 hx
    have := tr_kind (h o ho)
    simp; omega
theorem fits_chain {op : Int} (ho : op = 23 ∨ op = 24) {l : List Ot} (h : l.all tr = true) : fits op l = true := by
  obtain ⟨h1, h2⟩ := kinds_tr h
  have hs : sortOf op = (8, -1) := by rcases ho with rfl | rfl <;> rfl
  unfold fits kind takes
  rw [all_ok_of_tr h, hs]
  simp only [h2, kindOf, h1]
  rfl
theorem node_and {l : List Ot} (h : l.all tr = true) : node 23 l = dec false (mr false l) := by
  unfold node
  rw [if_pos (fits_chain (.inl rfl) h), if_pos rfl, chain_is false h]
theorem node_or {l : List Ot} (h : l.all tr = true) : node 24 l = dec true (mr true l) := by
  unfold node
  rw [if_pos (fits_chain (.inr rfl) h), if_neg (by decide), if_pos rfl, chain_is true h]
theorem all_one {o : Ot} (h : tr o = true) : [o].all tr = true := by simp [h]
theorem fits_not {o : Ot} (h : tr o = true) : fits 22 [o] = true := by
  obtain ⟨h1, h2⟩ := kinds_tr (all_one h)
  unfold fits kind takes
  rw [all_ok_of_tr (all_one h)]
  simp only [h2, show sortOf 22 = (7, 1) from rfl, kindOf, h1]
  rfl
theorem node_not {o : Ot} (h : tr o = true) : node 22 [o] = neg o := by
  unfold node
  rw [if_pos (fits_not h)]
  simp only [show ¬ (22 : Int) = 23 by decide, show ¬ (22 : Int) = 24 by decide, show ¬ (22 : Int) = 25 by decide, show ¬ (22 : Int) = 26 by decide, if_false]
  rcases tr_cases h with rfl | rfl | rfl | ⟨e, he, rfl⟩
  · simp [strictR, errs, lst, isN, neg]
  · simp [strictR, errs, lst, isN, neg, strictO, frst, isT]
  · simp [strictR, errs, lst, isN, neg, strictO, frst, isT]
  · have : e ≠ 0 := by have := err_cases he; omega
    simp [strictR, errs, lst, this, neg]
theorem tr_and {l : List Ot} (h : l.all tr = true) : tr (node 23 l) = true := by rw [node_and h]; exact tr_dec (mr_is h)
theorem tr_or {l : List Ot} (h : l.all tr = true) : tr (node 24 l) = true := by rw [node_or h]; exact tr_dec (mr_is h)
theorem all_app {a b : List Ot} (ha : a.all tr = true) (hb : b.all tr = true) : (a ++ b).all tr = true := by rw [List.all_append, ha, hb]; rfl
theorem all_two {a b : Ot} (ha : tr a = true) (hb : tr b = true) : [a, b].all tr = true := by simp [ha, hb]
theorem all_rev {a : List Ot} (ha : a.all tr = true) : a.reverse.all tr = true := by rw [List.all_reverse]; exact ha
theorem mr_nine (d : Bool) {l : List Ot} (h : l.all tr = true) : mr d l ≤ 9 := by have := mr_is (d := d) h; unfold isRk at this; omega
theorem mr_two (d : Bool) (a b : Ot) (ha : tr a = true) (hb : tr b = true) : mr d [a, b] = min (rk d a) (rk d b) := by
  have h1 := rk_is (d := d) ha; have h2 := rk_is (d := d) hb
  unfold isRk at h1 h2
  rw [mr, mr, mr]; omega
theorem law_nested {a b : List Ot} (ha : a.all tr = true) (hb : b.all tr = true) : node 23 [node 23 b, node 23 a] = node 23 (a ++ b) := by
  rw [node_and (all_two (tr_and hb) (tr_and ha)), node_and (all_app ha hb), mr_two _ _ _ (tr_and hb) (tr_and ha), node_and ha, node_and hb, rk_dec (mr_is ha), rk_dec (mr_is hb), mr_append]
  congr 1; omega
theorem law_either {a b : List Ot} (ha : a.all tr = true) (hb : b.all tr = true) : node 24 [node 24 b, node 24 a] = node 24 (a ++ b) := by
  rw [node_or (all_two (tr_or hb) (tr_or ha)), node_or (all_app ha hb), mr_two _ _ _ (tr_or hb) (tr_or ha), node_or ha, node_or hb, rk_dec (mr_is ha), rk_dec (mr_is hb), mr_append]
  congr 1; omega
theorem law_turned {l : List Ot} (h : l.all tr = true) : node 23 l.reverse = node 23 l ∧ node 24 l.reverse = node 24 l := by
  rw [node_and (all_rev h), node_and h, node_or (all_rev h), node_or h, mr_reverse, mr_reverse]; exact ⟨rfl, rfl⟩
theorem law_nots {l : List Ot} (h : l.all tr = true) : node 22 [node 23 l] = node 24 (l.map neg) ∧ node 22 [node 24 l] = node 23 (l.map neg) := by
  rw [node_not (tr_and h), node_not (tr_or h), node_or (all_neg h), node_and (all_neg h), mr_neg h, mr_neg h, node_and h, node_or h, neg_dec (mr_is h), neg_dec (mr_is h)]
  exact ⟨rfl, rfl⟩
/-! ### Drops -/
theorem mr_total : ∀ {l : List Ot}, l.all tr = true → (∀ o ∈ l, o.e = 0) → mr false l = 0 ∨ mr false l = 1 ∨ mr false l = 9
  | [], _, _ => by simp [mr]
  | o :: t, h, he => by
    rw [List.all_cons, Bool.and_eq_true] at h
    have h1 := mr_total h.2 (fun x hx => he x (by simp [hx]))
    have h2 := he o (by simp)
    have : rk false o = 0 ∨ rk false o = 1 ∨ rk false o = 9 := by
      unfold rk
      rw [if_neg (by omega)]
      split
      · omega
      · split <;> omega
    rw [mr]; omega
theorem law_drops {a b : List Ot} (ha : a.all tr = true) (hb : b.all tr = true) (he : ∀ o ∈ a, o.e = 0) :
    (node 23 a = bo true ∧ node 23 (a ++ b) = node 23 b) ∨ (node 23 a = bo false ∧ node 23 (a ++ b) = bo false) ∨ (node 23 a = nul ∧ (node 23 (a ++ b) = nul ∨ node 23 (a ++ b) = bo false)) := by
  have hm := mr_is (d := false) hb
  rw [node_and ha, node_and hb, node_and (all_app ha hb), mr_append]
  rcases mr_total ha he with h | h | h <;> rw [h]
  · refine .inr (.inl ⟨rfl, ?_⟩)
    have : min 0 (mr false b) = 0 := by unfold isRk at hm; omega
    rw [this]; rfl
  · refine .inr (.inr ⟨rfl, ?_⟩)
    by_cases h0 : mr false b = 0
    · rw [h0]; exact .inr rfl
    · have : min 1 (mr false b) = 1 := by unfold isRk at hm; omega
      rw [this]; exact .inl rfl
  · refine .inl ⟨rfl, ?_⟩
    have := mr_nine false hb
    rw [Int.min_eq_right this]
/-! ### Lazy operators -/
theorem first_append : ∀ {a : List Ot} (b : List Ot), isN (first a) = false → first (a ++ b) = first a
  | [], _, h => by cases h
  | o :: t, b, h => by
    rw [first] at h
    rw [List.cons_append, first, first]
    split
    · rename_i ho
      rw [if_pos ho] at h
      exact first_append b h
    · rfl
theorem node_err {op : Int} {l : List Ot} (h : (node op l).e ≠ 1) : fits op l = true := by
  cases hf : fits op l with
  | true => rfl
  | false => unfold node at h; rw [hf] at h; simp at h
theorem node_26 {l : List Ot} (h : fits 26 l = true) : node 26 l = first l := by
  unfold node; rw [if_pos h, if_neg (by decide), if_neg (by decide), if_neg (by decide), if_pos rfl]
theorem node_25 {l : List Ot} (h : fits 25 l = true) : node 25 l = choose l := by
  unfold node; rw [if_pos h, if_neg (by decide), if_neg (by decide), if_pos rfl]
theorem law_coalesce {a b : List Ot} (ha : (node 26 a).e ≠ 1) (hb : (node 26 (a ++ b)).e ≠ 1) (hk : (node 26 a).e ≠ 0 ∨ (node 26 a).k ≠ 0) : node 26 (a ++ b) = node 26 a := by
  rw [node_26 (node_err hb), node_26 (node_err ha)]
  rw [node_26 (node_err ha)] at hk
  refine first_append b ?_
  simp only [isN, Bool.and_eq_false_iff, beq_eq_false_iff_ne]
  exact hk
theorem choose_append (v : Ot) : ∀ (p r : List Ot), p.length % 2 = 0 → choose (p ++ bo true :: v :: r) = choose (p ++ [bo true, v])
  | [], r, _ => by simp [choose, isT]
  | [o], _, h => by simp at h
  | c :: w :: p, r, h => by
    have hl : p.length % 2 = 0 := by simp at h; omega
    have := choose_append v p r hl
    simp only [List.cons_append, choose, this]
theorem law_case {p r : List Ot} (v : Ot) (hp : p.length % 2 = 0) (ha : (node 25 (p ++ [bo true, v])).e ≠ 1) (hb : (node 25 (p ++ [bo true, v] ++ r)).e ≠ 1) : node 25 (p ++ [bo true, v] ++ r) = node 25 (p ++ [bo true, v]) := by
  rw [node_25 (node_err hb), node_25 (node_err ha), List.append_assoc]
  exact choose_append v p r hp
/-! ### Comparisons -/
theorem cmpI_3 (a b : Int) : cmpI a b = -1 ∧ a < b ∨ cmpI a b = 0 ∧ a = b ∨ cmpI a b = 1 ∧ b < a := by unfold cmpI; split <;> (try split) <;> omega
theorem cb_zero : ∀ l m : List UInt8, Lib.compareBytes l m = 0 ↔ l = m
  | [], [] => by simp [Lib.compareBytes]
  | [], _ :: _ => by simp [Lib.compareBytes]
  | _ :: _, [] => by simp [Lib.compareBytes]
  | a :: l, b :: m => by
    have h := cb_zero l m
    simp only [Lib.compareBytes]
    by_cases h1 : a < b
    · rw [if_pos h1]
      constructor
      · intro h; cases h
      · intro e
        obtain ⟨rfl, -⟩ := List.cons.inj e
        rw [UInt8.lt_iff_toNat_lt] at h1; omega
    · by_cases h2 : b < a
      · rw [if_neg h1, if_pos h2]
        constructor
        · intro h; cases h
        · intro e
          obtain ⟨rfl, -⟩ := List.cons.inj e
          rw [UInt8.lt_iff_toNat_lt] at h2; omega
      · rw [if_neg h1, if_neg h2, h]
        have : a = b := UInt8.toNat.inj (by rw [UInt8.lt_iff_toNat_lt] at *; omega)
        simp [this]
theorem cb_3 (l m : List UInt8) : Lib.compareBytes l m = -1 ∨ Lib.compareBytes l m = 0 ∨ Lib.compareBytes l m = 1 := by
  induction l generalizing m with
  | nil => cases m <;> simp [Lib.compareBytes]
  | cons a l ih =>
    cases m with
    | nil => simp [Lib.compareBytes]
    | cons b m =>
      simp only [Lib.compareBytes]
      split
      · exact .inl rfl
      · split
        · exact .inr (.inr rfl)
        · exact ih m
theorem ba_inj {s t : ByteArray} : s.toList = t.toList ↔ s = t := by
  refine ⟨fun h => ?_, fun h => h ▸ rfl⟩
  rw [ByteArray.toList_eq, ByteArray.toList_eq] at h
  obtain ⟨s⟩ := s
  obtain ⟨t⟩ := t
  simp only at h
  rw [Array.toList_inj.1 h]
theorem same_iff {k n : Int} {s : ByteArray} {k' n' : Int} {s' : ByteArray} : same k n s k' n' s' = true ↔ k = k' ∧ n = n' ∧ s = s' := by simp [same, ba_inj, and_assoc]
theorem same_refl (o : Ot) : same o.k o.n o.s o.k o.n o.s = true := same_iff.2 ⟨rfl, rfl, rfl⟩
/-- Two valid values of one kind are before, the same, or after. -/
theorem cmpV_3 {k n : Int} {s : ByteArray} {n' : Int} {s' : ByteArray} (h1 : vd k n s = true) (h2 : vd k n' s' = true) :
    (cmpV k n s k n' s' = -1 ∨ cmpV k n s k n' s' = 0 ∨ cmpV k n s k n' s' = 1) ∧ (cmpV k n s k n' s' = 0 ↔ same k n s k n' s' = true) := by
  have e0 : cmpV k n s k n' s' = if k = 0 then 0 else if k = 1 ∨ k = 3 then cmpI n n' else if k = 2 then cmpT s s' else if cmpI n n' ≠ 0 then cmpI n n' else cmpT s s' := by
    unfold cmpV; rw [if_neg (by simp)]
  rw [e0, same_iff]
  unfold vd at h1 h2
  rcases vd_kind (k := k) (n := n) (s := s) (by unfold vd; exact h1) with rfl | rfl | rfl | rfl
  · simp at h1 h2
    simp [h1.1, h2.1, ba_nil h1.2, ba_nil h2.2]
  · simp at h1 h2
    have := cmpI_3 n n'
    simp [ba_nil h1, ba_nil h2]
    omega
  · simp at h1 h2
    have := cb_3 s.data.toList s'.data.toList
    have e := cb_zero s.data.toList s'.data.toList
    rw [← ByteArray.toList_eq, ← ByteArray.toList_eq, ba_inj] at e
    simp [h1.1, h2.1, cmpT]
    rw [ByteArray.toList_eq, ByteArray.toList_eq] at e
    exact ⟨this, e⟩
  · simp at h1 h2
    have := cmpI_3 n n'
    simp [ba_nil h1.2, ba_nil h2.2]
    omega
/-- Two values that a comparison takes. -/
def pairOk (a b : Ot) : Prop := a.e = 0 ∧ b.e = 0 ∧ a.ok = true ∧ b.ok = true ∧ agree a.k b.k = true
theorem fits_cmp {op : Int} (h1 : 12 ≤ op) (h2 : op ≤ 18) {a b : Ot} (h : pairOk a b) : fits op [a, b] = true := by
  obtain ⟨ha, hb, oa, ob, hk⟩ := h
  have ka := ok_kind oa; have kb := ok_kind ob
  have hs : sortOf op = (4, 2) := by
    unfold sortOf
    rw [if_neg (by omega), if_neg (by omega), if_neg (by omega), if_neg (by omega), if_pos (by omega)]
  unfold fits kind takes
  have e1 : decide (a.k ≤ 3) = true := by simp; omega
  have e2 : decide (b.k ≤ 3) = true := by simp; omega
  simp only [List.all_cons, List.all_nil, oa, ob, hs, List.map_cons, List.map_nil, List.length_cons, List.length_nil, kindOf, List.getD_cons_zero, List.getD_cons_succ, hk, e1, e2]
  rfl
theorem node_cmp {op : Int} (h1 : 12 ≤ op) (h2 : op ≤ 17) {a b : Ot} (h : pairOk a b) : node op [a, b] = if isN a || isN b then nul else cmpO op (cmpV a.k a.n a.s b.k b.n b.s) := by
  have hf := fits_cmp (op := op) h1 (by omega) h
  obtain ⟨ha, hb, _, _, _⟩ := h
  unfold node
  rw [if_pos hf, if_neg (by omega), if_neg (by omega), if_neg (by omega), if_neg (by omega)]
  have e : errs 0 [a, b] = 0 := by simp [errs, lst, ha, hb]
  unfold strictR strictO
  rw [e, if_neg (by simp), if_neg (by omega), if_neg (by omega), if_neg (by omega)]
  simp only [List.any_cons, List.any_nil, Bool.or_false, frst, scnd, List.headD_cons]
  cases isN a || isN b with
  | true => rfl
  | false =>
    simp only [Bool.false_eq_true, if_false]
    rw [if_neg (by omega), if_neg (by omega), if_neg (by omega), if_neg (by omega), if_neg (by omega)]
theorem node_same {a b : Ot} (h : pairOk a b) : node 18 [a, b] = bo (same a.k a.n a.s b.k b.n b.s) := by
  have hf := fits_cmp (op := 18) (by decide) (by decide) h
  obtain ⟨ha, hb, _, _, _⟩ := h
  unfold node
  rw [if_pos hf, if_neg (by decide), if_neg (by decide), if_neg (by decide), if_neg (by decide)]
  have e : errs 0 [a, b] = 0 := by simp [errs, lst, ha, hb]
  unfold strictR
  rw [e, if_neg (by simp), if_pos rfl]
  rfl
/-! ### IN -/
abbrev Vl := Int × Int × ByteArray
def ofV (v : Vl) : Ot := ⟨v.1, v.2.1, v.2.2, 0⟩
def vOk (v : Vl) : Bool := vd v.1 v.2.1 v.2.2
theorem ofV_ok {v : Vl} (h : vOk v = true) : (ofV v).ok = true := by unfold Ot.ok; exact h
/-- The loop of the reference's In: whether null may be, and the value. -/
def inL (x : Ot) : Bool → List Vl → Ot
  | nl, [] => if nl then nul else bo false
  | nl, v :: t => if isN x || v.1 == 0 then inL x true t else if same x.k x.n x.s v.1 v.2.1 v.2.2 then bo true else inL x nl t
theorem chain_one (nl : Bool) (t : List Ot) : chain true nl 0 (bo true :: t) = bo true := by rw [chain, if_pos (by simp [isT])]
theorem law_in (x : Vl) (hx : vOk x = true) : ∀ (l : List Vl) (nl : Bool), (∀ v ∈ l, vOk v = true ∧ agree x.1 v.1 = true) →
    inL (ofV x) nl l = chain true nl 0 (l.map fun v => node 12 [ofV x, ofV v])
  | [], nl, _ => by cases nl <;> rfl
  | v :: t, nl, h => by
    obtain ⟨hv, ha⟩ := h v (by simp)
    have ih := fun b => law_in x hx t b (fun u hu => h u (by simp [hu]))
    have hp : pairOk (ofV x) (ofV v) := ⟨rfl, rfl, ofV_ok hx, ofV_ok hv, ha⟩
    rw [inL, List.map_cons, node_cmp (by decide) (by decide) hp]
    have hn : isN (ofV v) = (v.1 == 0) := by simp [isN, ofV]
    rw [hn]
    cases hc : (isN (ofV x) || v.1 == 0) with
    | true =>
      rw [if_pos rfl, if_pos rfl, chain, if_neg (by simp), ih true]
      simp [isN, lst]
    | false =>
      rw [if_neg (by simp)]
      have hk : (ofV x).k = (ofV v).k := by
        rw [agree_iff] at ha
        simp [isN, ofV] at hc
        simp [ofV]; omega
      have h1 : vd (ofV x).k (ofV x).n (ofV x).s = true := hx
      have h2 : vd (ofV x).k (ofV v).n (ofV v).s = true := by rw [hk]; exact hv
      have h3 := (cmpV_3 h1 h2).2
      have e : cmpO 12 (cmpV (ofV x).k (ofV x).n (ofV x).s (ofV v).k (ofV v).n (ofV v).s) = bo (same (ofV x).k (ofV x).n (ofV x).s (ofV v).k (ofV v).n (ofV v).s) := by
        rw [← hk]
        have : (cmpV (ofV x).k (ofV x).n (ofV x).s (ofV x).k (ofV v).n (ofV v).s == 0) = same (ofV x).k (ofV x).n (ofV x).s (ofV x).k (ofV v).n (ofV v).s := by
          rw [Bool.eq_iff_iff, beq_iff_eq]; exact h3
        simp only [cmpO, if_true, this]
      rw [e]
      show (if same (ofV x).k (ofV x).n (ofV x).s (ofV v).k (ofV v).n (ofV v).s = true then bo true else inL (ofV x) nl t) = chain true nl 0 (bo (same (ofV x).k (ofV x).n (ofV x).s (ofV v).k (ofV v).n (ofV v).s) :: _)
      cases same (ofV x).k (ofV x).n (ofV x).s (ofV v).k (ofV v).n (ofV v).s with
      | true => rw [if_pos rfl, chain_one]
      | false =>
        rw [if_neg (by simp), chain, if_neg (by simp [isT]), ih nl]
        simp [isN, lst]
end Go.Proofs.YtdbhencjomnjhaaGreatDoor.K
namespace Go.Proofs.YtdbhencjomnjhaaGreatDoor.K
open Go.ChangeShapes Go.WideShapes Go.ChangeAt Go.RowKit Go.Proofs.YtdbhencjomnjhaaGreatDoor.V
/-- A call that hands back this value, and writes into nothing that was there. -/
abbrev Ret (f : FuncId) (args : Array Value) (w : World) (v : Value) : Prop := Calls Tryz.prog f args w fun e w' => e = .returned v ∧ Below w.heap.size w w'
/-- An out, as the walk carries it. -/
abbrev ov (k n : Int) (s : ByteArray) (e : Int) : Value := .agg #[.int .u8 k, .int .i64 n, .string s, .int .i64 e]
abbrev enc (o : Ot) : Value := ov o.k o.n o.s o.e
theorem valid_is : valid = vd := rfl
theorem ret_v {a b : Value} (h : a = b) : Ending.returned a = .returned b := by rw [h]
theorem c_null (w : World) : Ret 37 #[] w (ov 0 0 ⟨#[]⟩ 0) := by
  go_enter Tryz.func37, Tryz.ntmps37
  go_wp2
  exact bodyPost_ret (v := ov 0 0 ⟨#[]⟩ 0) (by simp [results, Tryz.results37, go_sem, *]) rfl ⟨rfl, by repeat (first | exact Below.refl _ _ | assumption | (refine bel_trans ?_ (by assumption)) | (with_reducible apply bel_alloc) | (with_reducible apply Below.drew) | apply bel_alloc | apply Below.drew | refine bel_set ?_ (by simp; try omega) _)⟩
theorem c_truth (b : Bool) (w : World) : Ret 30 #[.bool b] w (ov 3 (if b then 1 else 0) ⟨#[]⟩ 0) := by
  cases b
  · go_enter Tryz.func30, Tryz.ntmps30
    go_wp2_with fail
    refine (c_Bool_f _).mono ?_; rintro e w1 ⟨rfl, hbw1⟩; obtain ⟨hcw1, hfw1⟩ := bcell hbw1; have hzw1 := hbw1.size; (try simp [World.drew] at hzw1)
    go_wp2
    exact bodyPost_ret (v := ov 3 0 ⟨#[]⟩ 0) (by simp [results, Tryz.results30, go_sem, *]) rfl ⟨rfl, by repeat (first | exact Below.refl _ _ | assumption | (refine bel_trans ?_ (by assumption)) | (with_reducible apply bel_alloc) | (with_reducible apply Below.drew) | apply bel_alloc | apply Below.drew | refine bel_set ?_ (by simp; try omega) _)⟩
  · go_enter Tryz.func30, Tryz.ntmps30
    go_wp2_with fail
    refine (c_Bool_t _).mono ?_; rintro e w1 ⟨rfl, hbw1⟩; obtain ⟨hcw1, hfw1⟩ := bcell hbw1; have hzw1 := hbw1.size; (try simp [World.drew] at hzw1)
    go_wp2
    exact bodyPost_ret (v := ov 3 1 ⟨#[]⟩ 0) (by simp [results, Tryz.results30, go_sem, *]) rfl ⟨rfl, by repeat (first | exact Below.refl _ _ | assumption | (refine bel_trans ?_ (by assumption)) | (with_reducible apply bel_alloc) | (with_reducible apply Below.drew) | apply bel_alloc | apply Below.drew | refine bel_set ?_ (by simp; try omega) _)⟩
theorem c_failing (e : Int) (w : World) : Ret 13 #[.int .i64 e] w (ov 0 0 ⟨#[]⟩ e) := by
  go_enter Tryz.func13, Tryz.ntmps13
  go_wp2
  exact bodyPost_ret (v := ov 0 0 ⟨#[]⟩ e) (by simp [results, Tryz.results13, go_sem, *]) rfl ⟨rfl, by repeat (first | exact Below.refl _ _ | assumption | (refine bel_trans ?_ (by assumption)) | (with_reducible apply bel_alloc) | (with_reducible apply Below.drew) | apply bel_alloc | apply Below.drew | refine bel_set ?_ (by simp; try omega) _)⟩
theorem r_Bool5 (b : Bool) (w : World) : Ret 19 #[.bool b] w (ov 3 (if b then 1 else 0) ⟨#[]⟩ 0) := by
  cases b
  · go_enter Tryz.func19, Tryz.ntmps19
    go_wp2_with fail
    refine (r_Bool false _).mono ?_; rintro e w1 ⟨rfl, hbw1⟩; obtain ⟨hcw1, hfw1⟩ := bcell hbw1; have hzw1 := hbw1.size; (try simp [World.drew] at hzw1)
    go_wp2
    exact bodyPost_ret (v := ov 3 0 ⟨#[]⟩ 0) (by simp [results, Tryz.results19, go_sem, *]) rfl ⟨rfl, by repeat (first | exact Below.refl _ _ | assumption | (refine bel_trans ?_ (by assumption)) | (with_reducible apply bel_alloc) | (with_reducible apply Below.drew) | apply bel_alloc | apply Below.drew | refine bel_set ?_ (by simp; try omega) _)⟩
  · go_enter Tryz.func19, Tryz.ntmps19
    go_wp2_with fail
    refine (r_Bool true _).mono ?_; rintro e w1 ⟨rfl, hbw1⟩; obtain ⟨hcw1, hfw1⟩ := bcell hbw1; have hzw1 := hbw1.size; (try simp [World.drew] at hzw1)
    go_wp2
    exact bodyPost_ret (v := ov 3 1 ⟨#[]⟩ 0) (by simp [results, Tryz.results19, go_sem, *]) rfl ⟨rfl, by repeat (first | exact Below.refl _ _ | assumption | (refine bel_trans ?_ (by assumption)) | (with_reducible apply bel_alloc) | (with_reducible apply Below.drew) | apply bel_alloc | apply Below.drew | refine bel_set ?_ (by simp; try omega) _)⟩
theorem r_IsError (e : Int) (w : World) : Ret 9 #[.int .i64 e] w (.bool (isErr e)) := by
  go_enter Tryz.func9, Tryz.ntmps9
  go_wp2
  all_goals (go_ret; exact ⟨ret_bool (by unfold isErr; simp [*]), by repeat (first | exact Below.refl _ _ | assumption | (refine bel_trans ?_ (by assumption)) | (with_reducible apply bel_alloc) | (with_reducible apply Below.drew) | apply bel_alloc | apply Below.drew | refine bel_set ?_ (by simp; try omega) _)⟩)
theorem r_Same5 (a b : Ot) (w : World) : Ret 21 #[enc a, enc b] w (.bool (sameO a b)) := by
  have hs := fun w => r_Same a.k a.n a.s b.k b.n b.s w
  go_enter Tryz.func21, Tryz.ntmps21
  go_wp2_with (go_at_call 10; refine (hs _).mono ?_; rintro e w1 ⟨rfl, hbw1⟩; obtain ⟨hcw1, hfw1⟩ := bcell hbw1; have hzw1 := hbw1.size; (try simp [World.drew] at hzw1))
  all_goals (go_ret; exact ⟨ret_bool (by unfold sameO; simp [*]), by repeat (first | exact Below.refl _ _ | assumption | (refine bel_trans ?_ (by assumption)) | (with_reducible apply bel_alloc) | (with_reducible apply Below.drew) | apply bel_alloc | apply Below.drew | refine bel_set ?_ (by simp; try omega) _)⟩)
/-- A box of an out, and the world behind it. -/
abbrev box (W : World) (k n : Int) (s : ByteArray) (e : Int) : World := W.alloc (.cells #[.int .u8 k, .int .i64 n, .string s, .int .i64 e] 31)
end Go.Proofs.YtdbhencjomnjhaaGreatDoor.K
namespace Go.Proofs.YtdbhencjomnjhaaGreatDoor.K
open Go.ChangeShapes Go.WideShapes Go.ChangeAt Go.RowKit Go.Proofs.YtdbhencjomnjhaaGreatDoor.V
theorem c_truth_t (w : World) : Ret 30 #[.bool true] w (ov 3 1 ⟨#[]⟩ 0) := c_truth true w
theorem c_truth_f (w : World) : Ret 30 #[.bool false] w (ov 3 0 ⟨#[]⟩ 0) := c_truth false w
set_option maxHeartbeats 1000000 in
theorem c_not_b (n : Int) (hn : n = 0 ∨ n = 1) (w : World) : Ret 35 #[ov 3 n ⟨#[]⟩ 0] w (ov 3 (if n = 0 then 1 else 0) ⟨#[]⟩ 0) := by
  rcases hn with rfl | rfl
  · go_enter Tryz.func35, Tryz.ntmps35
    go_wp2
    go_region_held3 (fun w' => w'.cell? ⟨w.heap.size, 0, none⟩ = some (.int .u8 3) ∧ w'.cell? ⟨w.heap.size, 1, none⟩ = some (.int .i64 0) ∧ w'.cell? ⟨w.heap.size, 2, none⟩ = some (.string ⟨#[]⟩) ∧ (w'.cell? ⟨w.heap.size + 1, 0, none⟩).isSome = true ∧ (w'.cell? ⟨w.heap.size + 1, 1, none⟩).isSome = true ∧ (w'.cell? ⟨w.heap.size + 1, 2, none⟩).isSome = true ∧ (w'.cell? ⟨w.heap.size + 1, 3, none⟩).isSome = true ∧ w'.frozen? ⟨w.heap.size + 1, 0, none⟩ = false ∧ w'.frozen? ⟨w.heap.size + 1, 1, none⟩ = false ∧ w'.frozen? ⟨w.heap.size + 1, 2, none⟩ = false ∧ w'.frozen? ⟨w.heap.size + 1, 3, none⟩ = false) (simp [*, go_sem, World.cell?_alloc_past]) (first | (go_at_call 41; refine (c_Bool_f _).mono ?_; rintro e w1 ⟨rfl, hbw1⟩; obtain ⟨hcw1, hfw1⟩ := bcell hbw1; have hzw1 := hbw1.size; (try simp [World.drew] at hzw1); have hk0w1 : w.heap.size < w1.heap.size := (by omega); have hk1w1 : w.heap.size + 1 < w1.heap.size := (by omega)) | (go_at_call 30; refine (c_truth_t _).mono ?_; rintro e w2 ⟨rfl, hbw2⟩; obtain ⟨hcw2, hfw2⟩ := bcell hbw2; have hzw2 := hbw2.size; (try simp [World.drew] at hzw2); have hk0w2 : w.heap.size < w2.heap.size := (by omega); have hk1w2 : w.heap.size + 1 < w2.heap.size := (by omega)))
    go_wp2
    exact bodyPost_ret (v := ov 3 1 ⟨#[]⟩ 0) (by simp [results, Tryz.results35, go_sem, *]) rfl ⟨rfl, by repeat (first | exact Below.refl _ _ | assumption | (refine bel_trans ?_ (by assumption)) | (with_reducible apply bel_alloc) | (with_reducible apply Below.drew) | apply bel_alloc | apply Below.drew | refine bel_set ?_ (by simp; try omega) _)⟩
  · go_enter Tryz.func35, Tryz.ntmps35
    go_wp2
    go_region_held3 (fun w' => w'.cell? ⟨w.heap.size, 0, none⟩ = some (.int .u8 3) ∧ w'.cell? ⟨w.heap.size, 1, none⟩ = some (.int .i64 1) ∧ w'.cell? ⟨w.heap.size, 2, none⟩ = some (.string ⟨#[]⟩) ∧ (w'.cell? ⟨w.heap.size + 1, 0, none⟩).isSome = true ∧ (w'.cell? ⟨w.heap.size + 1, 1, none⟩).isSome = true ∧ (w'.cell? ⟨w.heap.size + 1, 2, none⟩).isSome = true ∧ (w'.cell? ⟨w.heap.size + 1, 3, none⟩).isSome = true ∧ w'.frozen? ⟨w.heap.size + 1, 0, none⟩ = false ∧ w'.frozen? ⟨w.heap.size + 1, 1, none⟩ = false ∧ w'.frozen? ⟨w.heap.size + 1, 2, none⟩ = false ∧ w'.frozen? ⟨w.heap.size + 1, 3, none⟩ = false) (simp [*, go_sem, World.cell?_alloc_past]) (first | (go_at_call 41; refine (c_Bool_f _).mono ?_; rintro e w1 ⟨rfl, hbw1⟩; obtain ⟨hcw1, hfw1⟩ := bcell hbw1; have hzw1 := hbw1.size; (try simp [World.drew] at hzw1); have hk0w1 : w.heap.size < w1.heap.size := (by omega); have hk1w1 : w.heap.size + 1 < w1.heap.size := (by omega)) | (go_at_call 30; refine (c_truth_f _).mono ?_; rintro e w2 ⟨rfl, hbw2⟩; obtain ⟨hcw2, hfw2⟩ := bcell hbw2; have hzw2 := hbw2.size; (try simp [World.drew] at hzw2); have hk0w2 : w.heap.size < w2.heap.size := (by omega); have hk1w2 : w.heap.size + 1 < w2.heap.size := (by omega)))
    go_wp2
    exact bodyPost_ret (v := ov 3 0 ⟨#[]⟩ 0) (by simp [results, Tryz.results35, go_sem, *]) rfl ⟨rfl, by repeat (first | exact Below.refl _ _ | assumption | (refine bel_trans ?_ (by assumption)) | (with_reducible apply bel_alloc) | (with_reducible apply Below.drew) | apply bel_alloc | apply Below.drew | refine bel_set ?_ (by simp; try omega) _)⟩
theorem c_not_n (k n : Int) (s : ByteArray) (e : Int) (hk : (k != 3) = true) (w : World) : Ret 35 #[ov k n s e] w (ov k n s e) := by
  go_enter Tryz.func35, Tryz.ntmps35
  go_wp2
  exact bodyPost_ret (v := ov k n s e) (by simp [results, Tryz.results35, go_sem, *]) rfl ⟨rfl, by repeat (first | exact Below.refl _ _ | assumption | (refine bel_trans ?_ (by assumption)) | (with_reducible apply bel_alloc) | (with_reducible apply Below.drew) | apply bel_alloc | apply Below.drew | refine bel_set ?_ (by simp; try omega) _)⟩
theorem c_place_f (w : World) : Ret 33 #[ov 3 0 ⟨#[]⟩ 0] w (.int .i64 0) := by
  go_enter Tryz.func33, Tryz.ntmps33
  go_wp2_with fail
  refine (c_truth_f _).mono ?_; rintro e w1 ⟨rfl, hbw1⟩; obtain ⟨hcw1, hfw1⟩ := bcell hbw1; have hzw1 := hbw1.size; (try simp [World.drew] at hzw1)
  go_wp2_with fail
  go_ret
  exact ⟨rfl, by repeat (first | exact Below.refl _ _ | assumption | (refine bel_trans ?_ (by assumption)) | (with_reducible apply bel_alloc) | (with_reducible apply Below.drew) | apply bel_alloc | apply Below.drew | refine bel_set ?_ (by simp; try omega) _)⟩
theorem c_place_n (w : World) : Ret 33 #[ov 0 0 ⟨#[]⟩ 0] w (.int .i64 1) := by
  go_enter Tryz.func33, Tryz.ntmps33
  go_wp2_with fail
  refine (c_truth_f _).mono ?_; rintro e w1 ⟨rfl, hbw1⟩; obtain ⟨hcw1, hfw1⟩ := bcell hbw1; have hzw1 := hbw1.size; (try simp [World.drew] at hzw1)
  go_wp2_with fail
  refine (c_null _).mono ?_; rintro e w2 ⟨rfl, hbw2⟩; obtain ⟨hcw2, hfw2⟩ := bcell hbw2; have hzw2 := hbw2.size; (try simp [World.drew] at hzw2)
  go_wp2_with fail
  go_ret
  exact ⟨rfl, by repeat (first | exact Below.refl _ _ | assumption | (refine bel_trans ?_ (by assumption)) | (with_reducible apply bel_alloc) | (with_reducible apply Below.drew) | apply bel_alloc | apply Below.drew | refine bel_set ?_ (by simp; try omega) _)⟩
theorem c_place_t (w : World) : Ret 33 #[ov 3 1 ⟨#[]⟩ 0] w (.int .i64 3) := by
  go_enter Tryz.func33, Tryz.ntmps33
  go_wp2_with fail
  refine (c_truth_f _).mono ?_; rintro e w1 ⟨rfl, hbw1⟩; obtain ⟨hcw1, hfw1⟩ := bcell hbw1; have hzw1 := hbw1.size; (try simp [World.drew] at hzw1)
  go_wp2_with fail
  refine (c_null _).mono ?_; rintro e w2 ⟨rfl, hbw2⟩; obtain ⟨hcw2, hfw2⟩ := bcell hbw2; have hzw2 := hbw2.size; (try simp [World.drew] at hzw2)
  go_wp2_with fail
  refine (c_truth_t _).mono ?_; rintro e w3 ⟨rfl, hbw3⟩; obtain ⟨hcw3, hfw3⟩ := bcell hbw3; have hzw3 := hbw3.size; (try simp [World.drew] at hzw3)
  go_wp2_with fail
  go_ret
  exact ⟨rfl, by repeat (first | exact Below.refl _ _ | assumption | (refine bel_trans ?_ (by assumption)) | (with_reducible apply bel_alloc) | (with_reducible apply Below.drew) | apply bel_alloc | apply Below.drew | refine bel_set ?_ (by simp; try omega) _)⟩
theorem c_place_e (e : Int) (he : (e == 0) = false) (w : World) : Ret 33 #[ov 0 0 ⟨#[]⟩ e] w (.int .i64 2) := by
  go_enter Tryz.func33, Tryz.ntmps33
  go_wp2_with fail
  refine (c_truth_f _).mono ?_; rintro e w1 ⟨rfl, hbw1⟩; obtain ⟨hcw1, hfw1⟩ := bcell hbw1; have hzw1 := hbw1.size; (try simp [World.drew] at hzw1)
  go_wp2_with fail
  refine (c_null _).mono ?_; rintro e w2 ⟨rfl, hbw2⟩; obtain ⟨hcw2, hfw2⟩ := bcell hbw2; have hzw2 := hbw2.size; (try simp [World.drew] at hzw2)
  go_wp2_with fail
  refine (c_truth_t _).mono ?_; rintro e w3 ⟨rfl, hbw3⟩; obtain ⟨hcw3, hfw3⟩ := bcell hbw3; have hzw3 := hbw3.size; (try simp [World.drew] at hzw3)
  go_wp2_with fail
  go_ret
  exact ⟨rfl, by repeat (first | exact Below.refl _ _ | assumption | (refine bel_trans ?_ (by assumption)) | (with_reducible apply bel_alloc) | (with_reducible apply Below.drew) | apply bel_alloc | apply Below.drew | refine bel_set ?_ (by simp; try omega) _)⟩
end Go.Proofs.YtdbhencjomnjhaaGreatDoor.K
namespace Go.Proofs.YtdbhencjomnjhaaGreatDoor.K
open Go.ChangeShapes Go.WideShapes Go.ChangeAt Go.RowKit Go.Proofs.YtdbhencjomnjhaaGreatDoor.V
/-- A slice reads as these outs. -/
structure Outs (W : World) (a : Option Addr) (n : Nat) (l : List Ot) : Prop where
  len : n = l.length
  at_ : ∀ k, k < n → ∃ g p o, a = some ⟨g, p, none⟩ ∧ l[k]? = some o ∧ g < W.heap.size ∧ W.cell? ⟨g, p + k * 4, none⟩ = some (.int .u8 o.k) ∧ W.cell? ⟨g, p + k * 4 + 1, none⟩ = some (.int .i64 o.n) ∧ W.cell? ⟨g, p + k * 4 + 2, none⟩ = some (.string o.s) ∧ W.cell? ⟨g, p + k * 4 + 3, none⟩ = some (.int .i64 o.e)
theorem Outs.below {w w' : World} {a : Option Addr} {n : Nat} {l : List Ot} (h : Outs w a n l) (hb : Below w.heap.size w w') : Outs w' a n l :=
  ⟨h.len, fun k hk => by
    obtain ⟨g, p, o, h1, h2, h3, h4, h5, h6, h7⟩ := h.at_ k hk
    exact ⟨g, p, o, h1, h2, Nat.lt_of_lt_of_le h3 hb.size, (hb.cell (p := ⟨g, _, none⟩) h3).trans h4, (hb.cell (p := ⟨g, _, none⟩) h3).trans h5, (hb.cell (p := ⟨g, _, none⟩) h3).trans h6, (hb.cell (p := ⟨g, _, none⟩) h3).trans h7⟩⟩
/-- The least error. -/
theorem errs_drop {l : List Ot} {k : Nat} {o : Ot} (h : l[k]? = some o) (e : Int) : errs e (l.drop k) = errs (lst e o.e) (l.drop (k + 1)) := by
  rw [List.drop_eq_getElem_cons (List.getElem?_eq_some_iff.1 h).1, errs, (List.getElem?_eq_some_iff.1 h).2]
theorem errs_end {l : List Ot} {k : Nat} (h : l.length ≤ k) (e : Int) : errs e (l.drop k) = e := by rw [List.drop_eq_nil_of_le h]; rfl
set_option maxHeartbeats 1000000 in
theorem c_least (a : Option Addr) (n c : Nat) (l : List Ot) (hn : n ≤ 9223372036854775807) (w : World) (h : Outs w a n l) : Ret 40 #[.slice a n c] w (.int .i64 (errs 0 l)) := by
  have HL := Lib.hid h
  clear h
  go_enter Tryz.func40, Tryz.ntmps40
  go_wp2
  go_loopw [3, 8] (fun s3 s8 wr => ∃ (k : Nat) (e : Int), k ≤ n ∧ s3 = .int .i64 e ∧ s8 = .int .i64 k ∧ Hid (errs e (l.drop k) = errs 0 l) ∧ Hid (Below w.heap.size w wr)) (fun _ s8 _ => n - (intOf s8).toNat)
  case atStart => exact ⟨0, 0, by omega, rfl, rfl, rfl, Below.refl _ _⟩
  case round =>
    obtain ⟨k, e, hk, rfl, rfl, HI, HB⟩ := hrel
    by_cases hlt : k < n
    · obtain ⟨g, p, o, rfl, hlk, hg, c0, c1, c2, c3⟩ := (HL.out.below HB.out).at_ k hlt
      have HI2 : Hid (errs (lst e o.e) (l.drop (k + 1)) = errs 0 l) := (errs_drop hlk e).symm.trans HI.out
      clear HI hlk
      go_wp2
      all_goals
        refine ⟨⟨k + 1, _, by omega, rfl, by go_num, ?_, bel_alloc HB.out _⟩, by simp [intOf]; omega⟩
        show errs _ _ = _
        rw [← HI2.out]
        congr 1
        unfold lst
        split <;> (simp_all; try omega)
    · have he : errs 0 l = e := by rw [← HI.out, errs_end (by have := HL.out.len; omega)]
      have HE := Lib.hid he
      clear he HI
      go_wp2
      go_ret
      exact ⟨ret_int HE.out.symm, HB.out⟩
/-- The first that a predicate takes. -/
def idx {α : Type} (p : α → Bool) : List α → Nat → Int
  | [], _ => -1
  | x :: t, k => if p x then k else idx p t (k + 1)
theorem idx_drop {α : Type} {p : α → Bool} {l : List α} {k : Nat} {o : α} (h : l[k]? = some o) (i : Nat) : idx p (l.drop k) i = if p o then (i : Int) else idx p (l.drop (k + 1)) (i + 1) := by
  rw [List.drop_eq_getElem_cons (List.getElem?_eq_some_iff.1 h).1, idx, (List.getElem?_eq_some_iff.1 h).2]
theorem idx_end {α : Type} {p : α → Bool} {l : List α} {k : Nat} (h : l.length ≤ k) (i : Nat) : idx p (l.drop k) i = -1 := by rw [List.drop_eq_nil_of_le h]; rfl
theorem idx_any {α : Type} {p : α → Bool} : ∀ (l : List α) (k : Nat), decide (idx p l k ≥ 0) = l.any p
  | [], k => rfl
  | x :: t, k => by
    rw [idx, List.any_cons]
    cases p x with
    | true => simp
    | false => simpa using idx_any t (k + 1)
/-- A function value is entered. -/
abbrev EntersF (F : Nat) : Prop := ∀ (args : Array Value) (w : World), (callFunc F args).run Tryz.prog w = .ok (.enter F args) w
set_option maxHeartbeats 1000000 in
theorem l_IndexOut (F : Nat) (ca : Array Value) (HE : EntersF F) (p : Ot → Bool) (a : Option Addr) (n c : Nat) (l : List Ot) (hn : n ≤ 9223372036854775807) (w : World) (h : Outs w a n l)
    (hF : ∀ o ∈ l, ∀ w', Below w.heap.size w w' → Ret F (#[enc o] ++ ca) w' (.bool (p o))) : Ret 38 #[.slice a n c, .func (.func F) #[] ca] w (.int .i64 (idx p l 0)) := by
  have HL := Lib.hid h
  have HP := Lib.hid hF
  clear h hF
  go_enter Tryz.func38, Tryz.ntmps38
  go_wp2
  go_loopw [8] (fun s8 wr => ∃ (k : Nat), k ≤ n ∧ s8 = .int .i64 k ∧ Hid (idx p (l.drop k) k = idx p l 0) ∧ Hid (Below w.heap.size w wr)) (fun s8 _ => n - (intOf s8).toNat)
  case atStart => exact ⟨0, by omega, rfl, rfl, Below.refl _ _⟩
  case round =>
    obtain ⟨k, hk, rfl, HI, HB⟩ := hrel
    by_cases hlt : k < n
    · obtain ⟨g, q, o, rfl, hlk, hg, c0, c1, c2, c3⟩ := (HL.out.below HB.out).at_ k hlt
      have HI2 := Lib.hid ((idx_drop hlk k).symm.trans HI.out)
      have hx := HP.out o (List.mem_of_getElem? hlk)
      clear HI hlk
      go_wp2_with fail
      refine (hx _ HB.out).mono ?_
      rintro e w1 ⟨rfl, hb1⟩
      have HB1 := Lib.hid (bel_trans HB.out hb1)
      clear hb1 hx
      cases hp : p o with
      | true =>
        rw [hp, if_pos rfl] at HI2
        clear hp
        go_wp2
        go_ret
        exact ⟨ret_int HI2.out, HB1.out⟩
      | false =>
        rw [hp, if_neg (by simp)] at HI2
        clear hp
        go_wp2
        refine ⟨⟨k + 1, by omega, by go_num, HI2.out, HB1.out⟩, by simp [intOf]; omega⟩
    · have he : idx p l 0 = -1 := by rw [← HI.out, idx_end (by have := HL.out.len; omega)]
      have HE := Lib.hid he
      clear he HI
      go_wp2
      go_ret
      exact ⟨ret_int HE.out.symm, HB.out⟩
end Go.Proofs.YtdbhencjomnjhaaGreatDoor.K
