/- Tokens written and read again, on plain lists of bytes. -/
import Derived.Test.YtdcanjfdgfpdfaaGreatDoorRp
import Derived.Test.YtdcanjfdgfpdfaaGreatDoorNu
namespace Go.Proofs.YtdcanjfdgfpdfaaGreatDoor.Lx
open Go.Lib
theorem rep_dbl : ∀ l : List UInt8, replaceAll l [39] [39, 39] = dbl l
  | [] => rep_nil (by decide) (by decide)
  | c :: l => by
    by_cases hc : c = 39
    · subst hc
      rw [rep_hit (by decide) (by decide) (by simp), dbl, if_pos rfl]
      simp [rep_dbl l]
    · rw [rep_skip (by decide) (by decide) (npre c _ _ hc), dbl, if_neg hc, rep_dbl l]
abbrev Key := Int × Bs
/-- How a token is written. -/
def wr (t : Key) : Bs := if t.1 = 4 then 39 :: (dbl t.2 ++ [39]) else t.2
def valid (t : Key) : Bool := if t.1 = 1 then isKw t.2 else if t.1 = 2 then isName t.2 else if t.1 = 3 then decide (t.2.length ≤ 4000) && isNum t.2 else if t.1 = 4 then decide (t.2.length ≤ 100) else if t.1 = 5 then marks.contains t.2 else false
def gl (t : Key) : Bool := decide (t.1 = 5) && [[40], [46]].contains t.2
def gr (t : Key) : Bool := decide (t.1 = 5) && [[44], [41], [46], [59]].contains t.2
def nearK (a b : Key) : Bool := gl a || gr b
def jn : Option Key → List Key → Bs
  | _, [] => []
  | none, t :: l => wr t ++ jn (some t) l
  | some p, t :: l => (if nearK p t then [] else [32]) ++ (wr t ++ jn (some t) l)
/-- What may stand behind a token. -/
def stop (b : UInt8) : Bool := b == 32 || b == 44 || b == 41 || b == 46 || b == 59
theorem stop_cases {b : UInt8} (h : stop b = true) : b = 32 ∨ b = 44 ∨ b = 41 ∨ b = 46 ∨ b = 59 := by
  simp only [stop, Bool.or_eq_true, beq_iff_eq] at h
  rcases h with (((h | h) | h) | h) | h
  · exact .inl h
  · exact .inr (.inl h)
  · exact .inr (.inr (.inl h))
  · exact .inr (.inr (.inr (.inl h)))
  · exact .inr (.inr (.inr (.inr h)))
theorem stop_word {b : UInt8} (h : stop b = true) : wordB b = false := by
  rcases stop_cases h with rfl | rfl | rfl | rfl | rfl <;> decide
theorem stop_let {b : UInt8} (h : stop b = true) : letter b = false := by
  rcases stop_cases h with rfl | rfl | rfl | rfl | rfl <;> decide
theorem stop_dig {b : UInt8} (h : stop b = true) : digit b = false := by
  rcases stop_cases h with rfl | rfl | rfl | rfl | rfl <;> decide
theorem stop_39 {b : UInt8} (h : stop b = true) : b ≠ 39 := by
  rcases stop_cases h with rfl | rfl | rfl | rfl | rfl <;> decide
def Stops (r : Bs) : Prop := ∀ b t, r = b :: t → stop b = true
theorem Stops.head {r : Bs} (h : Stops r) {p : UInt8 → Bool} (hp : ∀ b, stop b = true → p b = false) : r.head?.any p = false := by
  cases r with
  | nil => rfl
  | cons b t => simpa using hp b (h b t rfl)
theorem tw_app {p : UInt8 → Bool} : ∀ {l r : Bs}, (∀ b ∈ l, p b = true) → r.head?.any p = false → (l ++ r).takeWhile p = l
  | [], r, _, h => by
    cases r with
    | nil => rfl
    | cons b t => rw [List.nil_append, List.takeWhile_cons_of_neg (by simpa using h)]
  | b :: t, r, hl, h => by rw [List.cons_append, List.takeWhile_cons_of_pos (hl b (by simp)), tw_app (fun c hc => hl c (by simp [hc])) h]
theorem words_big : ∀ w ∈ words, w ≠ [] ∧ w.all cap = true := by decide
theorem up_cap {b : UInt8} (h : cap b = true) : up b = b := by
  rw [up, if_neg]
  simp only [cap, small, Bool.and_eq_true, decide_eq_true_eq] at h ⊢
  omega
theorem map_id_of {f : UInt8 → UInt8} {l : Bs} (h : ∀ b ∈ l, f b = b) : l.map f = l := by
  conv => rhs; rw [← List.map_id l]
  exact List.map_congr_left h
theorem tok_kw {s r : Bs} (h : isKw s = true) (hr : Stops r) : tok (s ++ r) = .ok 1 s s.length := by
  obtain ⟨h0, hc⟩ := words_big s (List.contains_iff_mem.1 h)
  rw [List.all_eq_true] at hc
  have hw : (s ++ r).takeWhile wordB = s := tw_app (fun b hb => by simp [wordB, letter, hc b hb]) (hr.head fun b => stop_word)
  have hu : s.map up = s := map_id_of fun b hb => up_cap (hc b hb)
  cases s with
  | nil => exact absurd rfl h0
  | cons b t =>
    have hb : letter b = true := by simp [letter, hc b (by simp)]
    rw [List.cons_append, tok, if_pos hb, ← List.cons_append, word]
    rw [hw, hu, if_pos h]
theorem name_parts {s : Bs} (h : isName s = true) : s ≠ [] ∧ s.length ≤ 20 ∧ s.head?.any digit = false ∧ (∀ b ∈ s, small b = true ∨ b = 95 ∨ digit b = true) ∧ isKw (s.map up) = false := by
  simp only [isName, Bool.and_eq_true, decide_eq_true_eq, Bool.not_eq_true'] at h
  obtain ⟨⟨⟨⟨h0, h1⟩, h2⟩, h3⟩, h4⟩ := h
  refine ⟨h0, h1, h2, fun b hb => ?_, h4⟩
  rw [List.all_eq_true] at h3
  have := h3 b hb
  simp only [Bool.or_eq_true, beq_iff_eq] at this
  rcases this with (h | h) | h
  · exact .inl h
  · exact .inr (.inl h)
  · exact .inr (.inr h)
theorem low_id {b : UInt8} (h : small b = true ∨ b = 95 ∨ digit b = true) : low b = b := by
  rw [low, if_neg]
  simp only [cap, small, digit, Bool.and_eq_true, decide_eq_true_eq] at h ⊢
  rcases h with h | h | h
  · omega
  · subst h; decide
  · omega
theorem tok_name {s r : Bs} (h : isName s = true) (hr : Stops r) : tok (s ++ r) = .ok 2 s s.length := by
  obtain ⟨h0, h1, h2, h3, h4⟩ := name_parts h
  have hw : (s ++ r).takeWhile wordB = s := tw_app (fun b hb => by
    rcases h3 b hb with h | h | h
    · simp [wordB, letter, h]
    · simp [wordB, letter, h]
    · simp [wordB, h]) (hr.head fun b => stop_word)
  have hl : s.map low = s := map_id_of fun b hb => low_id (h3 b hb)
  cases s with
  | nil => exact absurd rfl h0
  | cons b t =>
    have hb : letter b = true := by
      rcases h3 b (by simp) with h | h | h
      · simp [letter, h]
      · simp [letter, h]
      · simp [h] at h2
    rw [List.cons_append, tok, if_pos hb, ← List.cons_append, word]
    rw [hw, if_neg (by rw [h4]; decide), if_neg (by omega), hl]
theorem dig_let {b : UInt8} (h : digit b = true) : letter b = false := by
  simp only [letter, small, cap, digit, Bool.and_eq_true, decide_eq_true_eq, Bool.or_eq_false_iff, Bool.and_eq_false_iff, decide_eq_false_iff_not, beq_eq_false_iff_ne] at h ⊢
  refine ⟨⟨by omega, by omega⟩, ?_⟩
  rintro rfl
  revert h; decide
theorem dw_app {p : UInt8 → Bool} {l r : Bs} (hl : ∀ b ∈ l, p b = true) (h : r.head?.any p = false) : (l ++ r).dropWhile p = r := by
  rw [dw_drop, tw_app hl h]; simp
theorem tok_num {s r : Bs} (h : isNum s = true) (hr : Stops r) : tok (s ++ r) = .ok 3 s s.length := by
  simp only [isNum, Bool.and_eq_true, decide_eq_true_eq] at h
  obtain ⟨⟨h0, h1⟩, h2⟩ := h
  rw [List.all_eq_true] at h1
  have hw : (s ++ r).takeWhile digit = s := tw_app h1 (hr.head fun b => stop_dig)
  have hd : (s ++ r).dropWhile digit = r := dw_app h1 (hr.head fun b => stop_dig)
  cases s with
  | nil => exact absurd rfl h0
  | cons b t =>
    have hb := h1 b (by simp)
    rw [List.cons_append, tok, if_neg (by rw [dig_let hb]; decide), if_pos hb, ← List.cons_append, number, hw, hd]
    rw [small63, decide_eq_true_eq] at h2
    rw [if_neg (by omega), if_neg (by rw [hr.head fun b => stop_let]; decide)]
theorem body_more : ∀ {s r : Bs}, (∀ b t, r = b :: t → b ≠ 39) → body (dbl s ++ 39 :: r) = some (s, (dbl s).length + 1)
  | [], r, h => by
    rw [dbl, List.nil_append, body_cons, if_pos rfl]
    cases r with
    | nil => rfl
    | cons b t => dsimp only; rw [if_neg (h b t rfl)]; rfl
  | c :: s, r, h => by
    rw [dbl]
    by_cases hc : c = 39
    · rw [if_pos hc, List.cons_append, List.cons_append, body_cons, if_pos rfl]
      simp only [if_pos]
      rw [body_more h, hc]
      simp
    · rw [if_neg hc, List.cons_append, body_cons, if_neg hc, body_more h]
      simp
theorem tok_text {s r : Bs} (h : s.length ≤ 100) (hr : Stops r) : tok (39 :: (dbl s ++ [39]) ++ r) = .ok 4 s (39 :: (dbl s ++ [39])).length := by
  rw [List.cons_append, tok, if_neg (by decide), if_neg (by decide), if_pos rfl, text, List.tail_cons, List.append_assoc, List.singleton_append, body_more (fun b t e => stop_39 (hr b t e))]
  dsimp only
  rw [if_neg (by omega)]
  simp
theorem find_len (n : Nat) (l : Bs) : ∀ ms : List Bs, (∀ m ∈ ms, m.length = n) → ms.find? (fun m => m.isPrefixOf l) = if l.take n ∈ ms then some (l.take n) else none
  | [], _ => rfl
  | m :: ms, h => by
    have hm := h m (by simp)
    have ih := find_len n l ms (fun y hy => h y (by simp [hy]))
    by_cases hp : m.isPrefixOf l = true
    · have e : l.take n = m := by
        obtain ⟨t, ht⟩ := List.isPrefixOf_iff_prefix.1 hp
        rw [← ht, ← hm]; simp
      rw [List.find?_cons_of_pos (p := fun m : Bs => m.isPrefixOf l) hp, if_pos (by rw [e]; simp), e]
    · have e : l.take n ≠ m := fun e => hp (List.isPrefixOf_iff_prefix.2 (e ▸ List.take_prefix n l))
      rw [List.find?_cons_of_neg (p := fun m : Bs => m.isPrefixOf l) hp, ih]
      simp only [List.mem_cons, e, false_or]
def two : List Bs := [[60, 62], [60, 61], [62, 61], [124, 124]]
def one : List Bs := [[40], [41], [44], [46], [59], [42], [43], [45], [47], [37], [61], [60], [62]]
theorem marks_two : marks = two ++ one := rfl
theorem two_len : ∀ m ∈ two, m.length = 2 := by decide
theorem one_len : ∀ m ∈ one, m.length = 1 := by decide
theorem mark_is (l : Bs) : mark l = if l.take 2 ∈ two then .ok 5 (l.take 2) 2 else if l.take 1 ∈ one then .ok 5 (l.take 1) 1 else .err 20 := by
  rw [mark, marks_two, List.find?_append, find_len 2 l two two_len, find_len 1 l one one_len]
  by_cases h2 : l.take 2 ∈ two
  · rw [if_pos h2, if_pos h2, Option.some_or]
    dsimp only
    rw [two_len _ h2]
  · rw [if_neg h2, if_neg h2, Option.none_or]
    by_cases h1 : l.take 1 ∈ one
    · rw [if_pos h1, if_pos h1]
      dsimp only
      rw [one_len _ h1]
    · rw [if_neg h1, if_neg h1]
theorem mark_head : ∀ m ∈ marks, ∃ b t, m = b :: t ∧ letter b = false ∧ digit b = false ∧ b ≠ 39 ∧ blank b = false := by
  intro m hm
  simp only [marks, List.mem_cons, List.not_mem_nil, or_false] at hm
  rcases hm with rfl | rfl | rfl | rfl | rfl | rfl | rfl | rfl | rfl | rfl | rfl | rfl | rfl | rfl | rfl | rfl | rfl
  all_goals exact ⟨_, _, rfl, by decide⟩
theorem two_second : ∀ m ∈ two, ∀ a b, m = [a, b] → stop b = false ∧ a ≠ 40 ∧ a ≠ 46 := by
  intro m hm a b e
  simp only [two, List.mem_cons, List.not_mem_nil, or_false] at hm
  rcases hm with rfl | rfl | rfl | rfl
  all_goals
    obtain ⟨e1, e2⟩ := List.cons.inj e
    obtain ⟨e3, _⟩ := List.cons.inj e2
    subst e1
    subst e3
    decide
/-- Behind "(" and "." anything may stand. -/
def Behind (t : Key) (r : Bs) : Prop := gl t = true ∨ Stops r
theorem tok_mark {s r : Bs} (h : marks.contains s = true) (hr : Behind (5, s) r) : tok (s ++ r) = .ok 5 s s.length := by
  have hm := List.contains_iff_mem.1 h
  obtain ⟨b, t, rfl, h1, h2, h3, -⟩ := mark_head s hm
  rw [List.cons_append, tok, if_neg (by rw [h1]; decide), if_neg (by rw [h2]; decide), if_neg h3, ← List.cons_append, mark_is]
  rw [marks_two, List.mem_append] at hm
  rcases hm with hm | hm
  · have hl := two_len _ hm
    have e : ((b :: t) ++ r).take 2 = b :: t := by rw [← hl]; simp
    rw [e, if_pos hm, hl]
  · have hl := one_len _ hm
    have ht : t = [] := by
      cases t with
      | nil => rfl
      | cons c u => simp at hl
    subst ht
    have e1 : ([b] ++ r).take 1 = [b] := rfl
    have e2 : ([b] ++ r).take 2 ∉ two := by
      intro hx
      cases r with
      | nil => have := two_len _ hx; simp at this
      | cons c u =>
        have hs := two_second _ hx b c rfl
        rcases hr with hr | hr
        · simp only [gl, decide_true, Bool.true_and, List.contains_cons, List.contains_nil, Bool.or_false, Bool.or_eq_true, beq_iff_eq] at hr
          rcases hr with hr | hr
          · exact hs.2.1 (List.cons.inj hr).1
          · exact hs.2.2 (List.cons.inj hr).1
        · rw [hr c u rfl] at hs; exact absurd hs.1 (by decide)
    rw [if_neg e2, e1, if_pos hm]
    rfl
theorem gl_five {t : Key} (h : gl t = true) : t.1 = 5 := by
  simp only [gl, Bool.and_eq_true, decide_eq_true_eq] at h
  exact h.1
theorem tok_wr {t : Key} {r : Bs} (hv : valid t = true) (hr : Behind t r) : tok (wr t ++ r) = .ok t.1 t.2 (wr t).length := by
  obtain ⟨k, s⟩ := t
  have hs : k ≠ 5 → Stops r := fun hk => hr.elim (fun h => absurd (gl_five h) hk) id
  simp only [valid] at hv
  simp only [wr]
  by_cases h1 : k = 1
  · subst h1
    exact tok_kw hv (hs (by decide))
  rw [if_neg h1] at hv
  by_cases h2 : k = 2
  · subst h2
    exact tok_name hv (hs (by decide))
  rw [if_neg h2] at hv
  by_cases h3 : k = 3
  · subst h3
    rw [if_pos rfl, Bool.and_eq_true] at hv
    exact tok_num hv.2 (hs (by decide))
  rw [if_neg h3] at hv
  by_cases h4 : k = 4
  · subst h4
    rw [if_pos rfl, decide_eq_true_eq] at hv
    rw [if_pos rfl]
    exact tok_text hv (hs (by decide))
  rw [if_neg h4] at hv
  by_cases h5 : k = 5
  · subst h5
    rw [if_neg h4]
    exact tok_mark hv hr
  · rw [if_neg h5] at hv; cases hv
theorem skip_head {b : UInt8} {t : Bs} (h : blank b = false) (h2 : b ≠ 45) : skip false (b :: t) = 0 := by
  rw [skip, if_neg (by rw [h]; decide), if_neg (by simp [h2])]
theorem word_head {b : UInt8} (h : wordB b = true) : blank b = false ∧ b ≠ 45 := by
  have hx : ∀ c : UInt8, wordB c = false → b ≠ c := fun c hc e => by rw [e, hc] at h; cases h
  refine ⟨?_, hx 45 (by decide)⟩
  simp only [blank, Bool.or_eq_false_iff, beq_eq_false_iff_ne]
  exact ⟨⟨⟨hx 32 (by decide), hx 9 (by decide)⟩, hx 10 (by decide)⟩, hx 13 (by decide)⟩
theorem skip_word {s r : Bs} (h0 : s ≠ []) (h : ∀ b ∈ s, wordB b = true) : skip false (s ++ r) = 0 := by
  cases s with
  | nil => exact absurd rfl h0
  | cons b t =>
    have := word_head (h b (by simp))
    exact skip_head this.1 this.2
theorem skip_wr {t : Key} {r : Bs} (hv : valid t = true) (hr : Behind t r) : skip false (wr t ++ r) = 0 ∧ wr t ≠ [] := by
  obtain ⟨k, s⟩ := t
  simp only [valid] at hv
  simp only [wr]
  by_cases h1 : k = 1
  · subst h1
    obtain ⟨h0, hc⟩ := words_big s (List.contains_iff_mem.1 hv)
    rw [List.all_eq_true] at hc
    exact ⟨skip_word h0 fun b hb => by simp [wordB, letter, hc b hb], h0⟩
  rw [if_neg h1] at hv
  by_cases h2 : k = 2
  · subst h2
    obtain ⟨h0, -, -, h3, -⟩ := name_parts hv
    refine ⟨skip_word h0 fun b hb => ?_, h0⟩
    rcases h3 b hb with h | h | h
    · simp [wordB, letter, h]
    · simp [wordB, letter, h]
    · simp [wordB, h]
  rw [if_neg h2] at hv
  by_cases h3 : k = 3
  · subst h3
    rw [if_pos rfl, Bool.and_eq_true] at hv
    have hn := hv.2
    simp only [isNum, Bool.and_eq_true, decide_eq_true_eq, List.all_eq_true] at hn
    exact ⟨skip_word hn.1.1 fun b hb => by simp [wordB, hn.1.2 b hb], hn.1.1⟩
  rw [if_neg h3] at hv
  by_cases h4 : k = 4
  · subst h4
    rw [if_pos rfl]
    exact ⟨skip_head (by decide) (by decide), by simp⟩
  rw [if_neg h4] at hv
  by_cases h5 : k = 5
  · subst h5
    rw [if_neg h4]
    have hm := List.contains_iff_mem.1 hv
    obtain ⟨b, t, rfl, h1', h2', h3', h6⟩ := mark_head s hm
    refine ⟨?_, by simp⟩
    by_cases h45 : b = 45
    · subst h45
      have ht : t = [] := by
        rw [marks_two, List.mem_append] at hm
        rcases hm with hm | hm
        · simp only [two, List.mem_cons, List.cons.injEq, List.not_mem_nil, or_false] at hm
          rcases hm with hm | hm | hm | hm <;> exact absurd hm.1 (by decide)
        · have := one_len _ hm
          cases t with
          | nil => rfl
          | cons c u => simp at this
      subst ht
      have hs : Stops r := hr.elim (fun h => by
        simp only [gl, decide_true, Bool.true_and] at h
        exact absurd h (by decide)) id
      cases r with
      | nil => decide
      | cons c u =>
        have hc := hs c u rfl
        have h45 : c ≠ 45 := by rintro rfl; exact absurd hc (by decide)
        rw [List.singleton_append, skip, if_neg (by decide), if_neg (by simp [h45])]
    · exact skip_head h6 h45
  · rw [if_neg h5] at hv; cases hv
theorem gr_head {t : Key} (h : gr t = true) : ∃ b, wr t = [b] ∧ stop b = true := by
  obtain ⟨k, s⟩ := t
  simp only [gr, Bool.and_eq_true, decide_eq_true_eq, List.contains_cons, List.contains_nil, Bool.or_false, Bool.or_eq_true, beq_iff_eq] at h
  obtain ⟨rfl, h⟩ := h
  rcases h with rfl | rfl | rfl | rfl
  · exact ⟨44, rfl, by decide⟩
  · exact ⟨41, rfl, by decide⟩
  · exact ⟨46, rfl, by decide⟩
  · exact ⟨59, rfl, by decide⟩
theorem behind_jn (t : Key) (l : List Key) : Behind t (jn (some t) l) := by
  cases hg : gl t with
  | true => exact .inl hg
  | false =>
    refine .inr ?_
    cases l with
    | nil => intro b r e; cases e
    | cons u l =>
      intro b r e
      rw [jn, nearK, hg, Bool.false_or] at e
      cases hr : gr u with
      | true =>
        rw [hr, if_pos rfl, List.nil_append] at e
        obtain ⟨c, hc, hs⟩ := gr_head hr
        rw [hc, List.singleton_append] at e
        exact (List.cons.inj e).1 ▸ hs
      | false =>
        rw [hr, if_neg (by decide), List.singleton_append] at e
        exact (List.cons.inj e).1 ▸ (by decide)
def keyT (t : Tok) : Key := (t.k, t.s)
theorem run_jn : ∀ (l : List Key) (u : Key) (f p : Nat), (∀ t ∈ u :: l, valid t = true) → (wr u ++ jn (some u) l).length < f →
    (run f p (wr u ++ jn (some u) l)).e = 0 ∧ (run f p (wr u ++ jn (some u) l)).l.map keyT = u :: l
  | l, u, 0, p, _, h => absurd h (Nat.not_lt_zero _)
  | l, u, f + 1, p, hv, h => by
    have hu := hv u (by simp)
    have hb := behind_jn u l
    obtain ⟨hs, hne⟩ := skip_wr hu hb
    have htok := tok_wr hu hb
    have hJ : wr u ++ jn (some u) l ≠ [] := by simp [hne]
    rw [run, if_neg hJ, htok]
    dsimp only
    rw [List.drop_left, show (wr u ++ jn (some u) l).drop ((wr u).length + skip false (jn (some u) l)) = (jn (some u) l).drop (skip false (jn (some u) l)) by rw [← List.drop_drop, List.drop_left]]
    have hw : 1 ≤ (wr u).length := by
      cases hx : wr u with
      | nil => exact absurd hx hne
      | cons => simp
    cases l with
    | nil =>
      rw [show jn (some u) [] = [] by rw [jn], List.drop_nil, run_nil]
      simp [keyT]
    | cons v l =>
      have hv2 : ∀ t ∈ v :: l, valid t = true := fun t ht => hv t (by simp only [List.mem_cons] at ht ⊢; exact .inr ht)
      have hsv := (skip_wr (hv2 v (by simp)) (behind_jn v l)).1
      have hd : (jn (some u) (v :: l)).drop (skip false (jn (some u) (v :: l))) = wr v ++ jn (some v) l := by
        rw [jn]
        cases hn : nearK u v with
        | true => rw [if_pos rfl, List.nil_append, hsv, List.drop_zero]
        | false =>
          rw [if_neg (by decide), List.singleton_append, skip, if_pos (by decide), hsv]
          rfl
      have hlen : (wr v ++ jn (some v) l).length < f := by
        have e : (jn (some u) (v :: l)).length = (if nearK u v then [] else [(32 : UInt8)]).length + (wr v ++ jn (some v) l).length := by rw [jn, List.length_append]
        rw [List.length_append, e] at h
        omega
      have ih := run_jn l v f (p + (wr u).length + skip false (jn (some u) (v :: l))) hv2 hlen
      rw [hd]
      rw [if_pos ih.1]
      exact ⟨rfl, by rw [List.map_cons, ih.2]; rfl⟩
/-- The tokens of what Join writes are the tokens. -/
theorem toks_jn (l : List Key) (hv : ∀ t ∈ l, valid t = true) (hl : (jn none l).length ≤ 4000) : (toks (jn none l)).e = 0 ∧ (toks (jn none l)).l.map keyT = l := by
  rw [toks, if_neg (by omega)]
  cases l with
  | nil => exact ⟨rfl, rfl⟩
  | cons u l =>
    have hu := hv u (by simp)
    have e : jn none (u :: l) = wr u ++ jn (some u) l := by rw [jn]
    rw [e, (skip_wr hu (behind_jn u l)).1, List.drop_zero]
    exact run_jn l u _ 0 hv (Nat.lt_succ_self _)
end Go.Proofs.YtdcanjfdgfpdfaaGreatDoor.Lx
