/- Patterns, as the document says them, and why two cursors decide them: plain lists, no program. -/
import Derived.Lib.Hide
namespace Go.Proofs.YtefelelhgepkeaaGreatDoor.M
/-- The pieces: a percent sign takes any piece, a low line any byte, any other byte itself. -/
def mt : List UInt8 → List UInt8 → Bool
  | t, [] => t.isEmpty
  | [], d :: p => if d = 37 then mt [] p else false
  | c :: t, d :: p => if d = 37 then mt (c :: t) p || mt t (d :: p) else if d = 95 ∨ d = c then mt t p else false
termination_by t p => t.length + p.length
theorem mt_nil (t : List UInt8) : mt t [] = t.isEmpty := by rw [mt]
theorem mt_end (d : UInt8) (p : List UInt8) : mt [] (d :: p) = if d = 37 then mt [] p else false := by rw [mt]
theorem mt_star (c : UInt8) (t p : List UInt8) : mt (c :: t) (37 :: p) = (mt (c :: t) p || mt t (37 :: p)) := by rw [mt, if_pos rfl]
theorem mt_char (c d : UInt8) (t p : List UInt8) (h : d ≠ 37) : mt (c :: t) (d :: p) = if d = 95 ∨ d = c then mt t p else false := by rw [mt, if_neg h]
theorem star_iff (q : List UInt8) : ∀ t : List UInt8, mt t (37 :: q) = true ↔ ∃ k, k ≤ t.length ∧ mt (t.drop k) q = true
  | [] => by
    rw [mt_end, if_pos rfl]
    exact ⟨fun h => ⟨0, by simp, h⟩, fun ⟨k, hk, h⟩ => by simpa using h⟩
  | c :: t => by
    rw [mt_star, Bool.or_eq_true, star_iff q t]
    constructor
    · rintro (h | ⟨k, hk, h⟩)
      · exact ⟨0, by simp, h⟩
      · exact ⟨k + 1, by simpa using hk, by simpa using h⟩
    · rintro ⟨k, hk, h⟩
      cases k with
      | zero => exact .inl (by simpa using h)
      | succ k => exact .inr ⟨k, by simpa using hk, by simpa using h⟩
/-- The first j bytes of the pattern stand for themselves, or for any byte. -/
def lit : Nat → List UInt8 → Prop
  | 0, _ => True
  | _ + 1, [] => False
  | j + 1, d :: p => d ≠ 37 ∧ lit j p
/-- .. and the text's first j bytes fit them. -/
def pre : Nat → List UInt8 → List UInt8 → Prop
  | 0, _, _ => True
  | j + 1, c :: t, d :: p => d ≠ 37 ∧ (d = 95 ∨ d = c) ∧ pre j t p
  | _ + 1, _, _ => False
theorem pre_lit : ∀ {j : Nat} {t p : List UInt8}, pre j t p → lit j p
  | 0, _, _, _ => trivial
  | j + 1, [], _, h => by simp [pre] at h
  | j + 1, _ :: _, [], h => by simp [pre] at h
  | j + 1, c :: t, d :: p, h => ⟨h.1, pre_lit h.2.2⟩
theorem pre_mt : ∀ {j : Nat} {t p : List UInt8}, pre j t p → mt t p = mt (t.drop j) (p.drop j)
  | 0, _, _, _ => by simp
  | j + 1, [], _, h => by simp [pre] at h
  | j + 1, _ :: _, [], h => by simp [pre] at h
  | j + 1, c :: t, d :: p, h => by rw [mt_char c d t p h.1, if_pos h.2.1, pre_mt h.2.2]; simp
theorem lit_mt : ∀ {j : Nat} {t p : List UInt8}, lit j p → mt t p = true → j ≤ t.length ∧ mt (t.drop j) (p.drop j) = true
  | 0, _, _, _, h => by simpa using h
  | j + 1, _, [], h, _ => by simp [lit] at h
  | j + 1, [], d :: p, h, hm => by rw [mt_end, if_neg h.1] at hm; cases hm
  | j + 1, c :: t, d :: p, h, hm => by
    rw [mt_char c d t p h.1] at hm
    split at hm
    · obtain ⟨h1, h2⟩ := lit_mt h.2 hm
      exact ⟨by simpa using h1, by simpa using h2⟩
    · cases hm
theorem pre_snoc : ∀ {j : Nat} {t p t' p' : List UInt8} {c d : UInt8}, pre j t p → t.drop j = c :: t' → p.drop j = d :: p' → d ≠ 37 → (d = 95 ∨ d = c) → pre (j + 1) t p
  | 0, t, p, t', p', c, d, _, ht, hp, h1, h2 => by
    simp only [List.drop_zero] at ht hp
    subst ht hp
    exact ⟨h1, h2, trivial⟩
  | j + 1, [], _, _, _, _, _, h, _, _, _, _ => by simp [pre] at h
  | j + 1, _ :: _, [], _, _, _, _, h, _, _, _, _ => by simp [pre] at h
  | j + 1, c :: t, d :: p, t', p', c', d', h, ht, hp, h1, h2 => ⟨h.1, h.2.1, pre_snoc h.2.2 (by simpa using ht) (by simpa using hp) h1 h2⟩
/-- What the two cursors have done so far. -/
def Inv (T P : List UInt8) (at' place : Nat) (after : Int) (piece : Nat) : Prop :=
  at' ≤ T.length ∧ place ≤ P.length ∧ piece ≤ at' ∧ after ≤ place ∧
  ((after = -1 ∧ mt T P = mt (T.drop at') (P.drop place)) ∨
   (∃ a j : Nat, after = a ∧ piece + j = at' ∧ a + j = place ∧ mt T P = mt (T.drop piece) (37 :: P.drop a) ∧ pre j (T.drop piece) (P.drop a)))
theorem inv_start (T P : List UInt8) : Inv T P 0 0 (-1) 0 := ⟨by omega, by omega, by omega, by omega, .inl ⟨rfl, by simp⟩⟩
theorem inv_star {T P : List UInt8} {at' place piece : Nat} {after : Int} (h : Inv T P at' place after piece) {p' : List UInt8} (hp : P.drop place = 37 :: p') : Inv T P at' (place + 1) (place + 1) at' := by
  obtain ⟨h1, h2, h3, h4, h5⟩ := h
  have hlt : place < P.length := by
    have := congrArg List.length hp
    simp at this
    omega
  have hd : P.drop (place + 1) = p' := by rw [← List.drop_drop, hp]; simp
  refine ⟨h1, hlt, Nat.le_refl _, by omega, .inr ⟨place + 1, 0, by omega, by omega, by omega, ?_, trivial⟩⟩
  rw [hd]
  rcases h5 with ⟨_, h5⟩ | ⟨a, j, _, hj, hpl, h5, hpre⟩
  · rw [h5, hp]
  · rw [h5]
    have hQ : (P.drop a).drop j = 37 :: p' := by rw [List.drop_drop, hpl]; exact hp
    have hT : (T.drop piece).drop j = T.drop at' := by rw [List.drop_drop, hj]
    rw [Bool.eq_iff_iff, star_iff]
    constructor
    · rintro ⟨k, hk, hm⟩
      obtain ⟨e1, e2⟩ := lit_mt (pre_lit hpre) hm
      rw [hQ, star_iff] at e2
      obtain ⟨k', hk', hm'⟩ := e2
      rw [star_iff]
      simp only [List.drop_drop, List.length_drop] at *
      refine ⟨k + k', by omega, ?_⟩
      rw [show at' + (k + k') = piece + k + j + k' by omega]
      exact hm'
    · intro hm
      refine ⟨0, by simp, ?_⟩
      rw [List.drop_zero, pre_mt hpre, hQ, hT]
      exact hm
theorem inv_char {T P : List UInt8} {at' place piece : Nat} {after : Int} (h : Inv T P at' place after piece) {c d : UInt8} {t' p' : List UInt8} (ht : T.drop at' = c :: t') (hp : P.drop place = d :: p')
    (h37 : d ≠ 37) (hcd : d = 95 ∨ d = c) : Inv T P (at' + 1) (place + 1) after piece := by
  obtain ⟨h1, h2, h3, h4, h5⟩ := h
  have hlt : place < P.length := by have := congrArg List.length hp; simp at this; omega
  have hlt' : at' < T.length := by have := congrArg List.length ht; simp at this; omega
  have hd : P.drop (place + 1) = p' := by rw [← List.drop_drop, hp]; simp
  have hd' : T.drop (at' + 1) = t' := by rw [← List.drop_drop, ht]; simp
  refine ⟨hlt', hlt, by omega, by omega, ?_⟩
  rcases h5 with ⟨ha, h5⟩ | ⟨a, j, ha, hj, hpl, h5, hpre⟩
  · refine .inl ⟨ha, ?_⟩
    rw [h5, ht, hp, mt_char c d t' p' h37, if_pos hcd, hd, hd']
  · exact .inr ⟨a, j + 1, ha, by omega, by omega, h5, pre_snoc hpre (by rw [List.drop_drop, hj]; exact ht) (by rw [List.drop_drop, hpl]; exact hp) h37 hcd⟩
/-- Where the cursors stand, nothing fits. -/
def Miss (T P : List UInt8) (at' place : Nat) : Prop := mt (T.drop at') (P.drop place) = false
theorem miss_char {T P : List UInt8} {at' place : Nat} {c d : UInt8} {t' p' : List UInt8} (ht : T.drop at' = c :: t') (hp : P.drop place = d :: p') (h1 : d ≠ 37) (h2 : d ≠ 95) (h3 : d ≠ c) : Miss T P at' place := by
  unfold Miss
  rw [ht, hp, mt_char c d t' p' h1, if_neg (by simp [h2, h3])]
theorem miss_end {T P : List UInt8} {at' place : Nat} (ht : at' < T.length) (hp : P.length ≤ place) : Miss T P at' place := by
  unfold Miss
  rw [List.drop_eq_nil_of_le hp, mt_nil, List.drop_eq_getElem_cons ht]
  rfl
theorem inv_back {T P : List UInt8} {at' place piece : Nat} {after : Int} (h : Inv T P at' place after piece) (hat : at' < T.length) (hm : Miss T P at' place) (ha : 0 ≤ after) :
    Inv T P (piece + 1) after.toNat after (piece + 1) := by
  obtain ⟨h1, h2, h3, h4, h5⟩ := h
  rcases h5 with ⟨ha', _⟩ | ⟨a, j, rfl, hj, hpl, h5, hpre⟩
  · omega
  · refine ⟨by omega, by omega, Nat.le_refl _, by omega, .inr ⟨a, 0, rfl, by omega, by omega, ?_, trivial⟩⟩
    rw [h5]
    have hlt : piece < T.length := by omega
    have hf : mt (T.drop piece) (P.drop a) = false := by
      rw [pre_mt hpre, List.drop_drop, List.drop_drop, hj, hpl]; exact hm
    rw [List.drop_eq_getElem_cons hlt] at hf ⊢
    rw [mt_star, hf, Bool.false_or]
theorem inv_fail {T P : List UInt8} {at' place piece : Nat} {after : Int} (h : Inv T P at' place after piece) (hm : Miss T P at' place) (ha : after < 0) : mt T P = false := by
  obtain ⟨h1, h2, h3, h4, h5⟩ := h
  rcases h5 with ⟨_, h5⟩ | ⟨a, j, rfl, _⟩
  · rw [h5]; exact hm
  · omega
theorem mt_stars : ∀ p : List UInt8, mt [] p = p.all (· == 37)
  | [] => by rw [mt_nil]; rfl
  | d :: p => by
    rw [mt_end, List.all_cons, mt_stars p]
    by_cases h : d = 37 <;> simp [h]
theorem inv_end {T P : List UInt8} {at' place piece : Nat} {after : Int} (h : Inv T P at' place after piece) (hat : T.length ≤ at') : mt T P = (P.drop place).all (· == 37) := by
  obtain ⟨h1, h2, h3, h4, h5⟩ := h
  rw [← mt_stars]
  have he : T.drop at' = [] := List.drop_eq_nil_of_le hat
  rcases h5 with ⟨_, h5⟩ | ⟨a, j, rfl, hj, hpl, h5, hpre⟩
  · rw [h5, he]
  · rw [h5]
    have hpm : mt (T.drop piece) (P.drop a) = mt [] (P.drop place) := by rw [pre_mt hpre, List.drop_drop, List.drop_drop, hj, hpl, he]
    rw [Bool.eq_iff_iff, star_iff]
    constructor
    · rintro ⟨k, hk, hm⟩
      obtain ⟨e1, _⟩ := lit_mt (pre_lit hpre) hm
      simp only [List.length_drop] at *
      have hk0 : k = 0 := by omega
      subst hk0
      rw [← hpm]
      simpa using hm
    · intro hm
      exact ⟨0, by simp, by rw [List.drop_zero, hpm]; exact hm⟩
end Go.Proofs.YtefelelhgepkeaaGreatDoor.M
