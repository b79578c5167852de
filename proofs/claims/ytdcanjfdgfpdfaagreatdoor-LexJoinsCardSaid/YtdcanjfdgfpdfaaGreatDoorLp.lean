/- Sources moved, cut and quoted: what their tokens are, on plain lists of bytes. -/
import Derived.Test.YtdcanjfdgfpdfaaGreatDoorLx
namespace Go.Proofs.YtdcanjfdgfpdfaaGreatDoor.Lx
theorem run_fuel : ∀ (f g p : Nat) (l : Bs), l.length < f → l.length < g → run f p l = run g p l
  | 0, _, _, _, h, _ => absurd h (Nat.not_lt_zero _)
  | _ + 1, 0, _, _, _, h => absurd h (Nat.not_lt_zero _)
  | f + 1, g + 1, p, l, hf, hg => by
    rw [run, run]
    split
    · rfl
    · cases ht : tok l with
      | err e => rfl
      | ok k s n =>
        dsimp only
        have h1 := tok_ok ht
        rw [run_fuel f g _ _ (by simp; omega) (by simp; omega)]
/-- Later by so many bytes. -/
def Tok.later (d : Nat) (t : Tok) : Tok := ⟨t.k, t.s, t.p + d⟩
def Out.later (d : Nat) (o : Out) : Out := ⟨o.l.map (Tok.later d), if o.e = 0 then 0 else o.p + d, o.e⟩
theorem run_ok : ∀ (f p : Nat) (l : Bs), (run f p l).e = 0 → (run f p l).p = 0
  | 0, _, _, _ => rfl
  | f + 1, p, l, h => by
    rw [run] at h ⊢
    split
    · rfl
    · rename_i hl
      rw [if_neg hl] at h
      cases ht : tok l with
      | err e => rw [ht] at h; exact absurd h (tok_err ht)
      | ok k s n =>
        rw [ht] at h
        dsimp only at h ⊢
        split
        · rfl
        · rename_i hn
          rw [if_neg hn] at h
          exact absurd h hn
theorem run_bad : ∀ (f p : Nat) (l : Bs), (run f p l).e ≠ 0 → (run f p l).l = []
  | 0, _, _, _ => rfl
  | f + 1, p, l, h => by
    rw [run] at h ⊢
    split
    · rfl
    · rename_i hl
      rw [if_neg hl] at h
      cases ht : tok l with
      | err e => rfl
      | ok k s n =>
        rw [ht] at h
        dsimp only at h ⊢
        split
        · rename_i hn
          rw [if_pos hn] at h
          exact absurd rfl h
        · exact run_bad f _ _ (by assumption)
theorem run_later : ∀ (f p d : Nat) (l : Bs), run f (p + d) l = (run f p l).later d
  | 0, _, _, _ => rfl
  | f + 1, p, d, l => by
    rw [run, run]
    split
    · rfl
    · cases ht : tok l with
      | err e => simp [Out.later, tok_err ht]
      | ok k s n =>
        dsimp only
        have ih := run_later f (p + n + skip false (l.drop n)) d (l.drop (n + skip false (l.drop n)))
        rw [show p + d + n + skip false (l.drop n) = p + n + skip false (l.drop n) + d by omega, ih]
        have e : ((run f (p + n + skip false (l.drop n)) (l.drop (n + skip false (l.drop n)))).later d).e = (run f (p + n + skip false (l.drop n)) (l.drop (n + skip false (l.drop n)))).e := rfl
        rw [e]
        split
        · simp [Out.later, Tok.later]
        · rfl
/-! ### In front of a source -/
/-- Blanks, and perhaps a remark on a line of its own. -/
theorem skip_front (bl rm : Bs) (src : Bs) (hb : bl.all blank = true) (hr : rm = [] ∨ ∃ ws, (10 : UInt8) ∉ ws ∧ rm = 45 :: 45 :: (ws ++ [10])) : skip false (bl ++ rm ++ src) = (bl ++ rm).length + skip false src := by
  have h1 : ∀ (bl : Bs), bl.all blank = true → ∀ t, skip false (bl ++ t) = bl.length + skip false t := by
    intro bl
    induction bl with
    | nil => intro _ t; simp
    | cons b bl ih =>
      intro h t
      simp only [List.all_cons, Bool.and_eq_true] at h
      rw [List.cons_append, skip, if_pos h.1, ih h.2, List.length_cons]; omega
  have h2 : ∀ (ws : Bs), (10 : UInt8) ∉ ws → ∀ t, skip true (ws ++ 10 :: t) = ws.length + 1 + skip false t := by
    intro ws
    induction ws with
    | nil => intro _ t; rw [List.nil_append, skip, if_pos (by decide)]; simp
    | cons b ws ih =>
      intro h t
      simp only [List.mem_cons, not_or] at h
      rw [List.cons_append, skip, if_neg (by simpa using Ne.symm h.1), ih h.2, List.length_cons]; omega
  rw [List.append_assoc, h1 bl hb]
  rcases hr with rfl | ⟨ws, hw, rfl⟩
  · simp
  · have e : (45 :: 45 :: (ws ++ [10])) ++ src = 45 :: 45 :: (ws ++ 10 :: src) := by simp
    rw [e, skip, if_neg (by decide), if_pos (by simp), skip, if_neg (by decide), h2 ws hw]
    simp; omega
theorem moves (bl rm src : Bs) (hb : bl.all blank = true) (hr : rm = [] ∨ ∃ ws, (10 : UInt8) ∉ ws ∧ rm = 45 :: 45 :: (ws ++ [10])) (hl : (bl ++ rm).length + src.length ≤ 4000) :
    toks (bl ++ rm ++ src) = (toks src).later (bl ++ rm).length := by
  have e1 : ¬ 4000 < (bl ++ rm ++ src).length := by rw [List.length_append]; omega
  have e2 : ¬ 4000 < src.length := by omega
  rw [toks, toks, if_neg e1, if_neg e2, skip_front bl rm src hb hr]
  have e3 : (bl ++ rm ++ src).drop ((bl ++ rm).length + skip false src) = src.drop (skip false src) := by
    rw [← List.drop_drop, List.drop_left]
  rw [e3, ← run_later, Nat.add_comm (bl ++ rm).length]
  have := skip_le false src
  exact run_fuel _ _ _ _ (by simp; omega) (by simp; omega)
/-! ### A source that ends before a token -/
theorem tw_take (p : UInt8 → Bool) : ∀ (l : Bs) (m : Nat), (l.takeWhile p).length ≤ m → (l.take m).takeWhile p = l.takeWhile p
  | [], m, _ => by simp
  | b :: t, m, h => by
    by_cases hb : p b = true
    · rw [List.takeWhile_cons_of_pos hb, List.length_cons] at h
      cases m with
      | zero => omega
      | succ m => rw [List.take_succ_cons, List.takeWhile_cons_of_pos hb, List.takeWhile_cons_of_pos hb, tw_take p t m (by omega)]
    · rw [List.takeWhile_cons_of_neg hb]
      cases m with
      | zero => rfl
      | succ m => rw [List.take_succ_cons, List.takeWhile_cons_of_neg hb]
theorem dw_drop (p : UInt8 → Bool) : ∀ (l : Bs), l.dropWhile p = l.drop (l.takeWhile p).length
  | [] => by simp
  | b :: t => by
    by_cases hb : p b = true
    · rw [List.takeWhile_cons_of_pos hb, List.dropWhile_cons_of_pos hb, List.length_cons, List.drop_succ_cons, dw_drop p t]
    · rw [List.takeWhile_cons_of_neg hb, List.dropWhile_cons_of_neg hb]; rfl
theorem body_take : ∀ {l : Bs} {s : Bs} {n : Nat} (m : Nat), body l = some (s, n) → n ≤ m → body (l.take m) = some (s, n)
  | [], _, _, _, h, _ => by simp [body] at h
  | _ :: _, _, _, 0, h, hm => by have := body_some h; omega
  | [b], s, n, m + 1, h, hm => by rw [List.take_succ_cons, List.take_nil]; exact h
  | b :: c :: u, s, n, m + 1, h, hm => by
    rw [List.take_succ_cons]
    rw [body_cons] at h
    rw [body_cons]
    by_cases hb : b = 39
    · rw [if_pos hb] at h
      rw [if_pos hb]
      by_cases hc : c = 39
      · simp only [if_pos hc, Option.map_eq_some_iff] at h
        obtain ⟨⟨s', n'⟩, h', e⟩ := h
        have hn := (Prod.mk.inj e).2
        cases m with
        | zero => dsimp only at hn; omega
        | succ m =>
          rw [List.take_succ_cons]
          simp only [if_pos hc]
          dsimp only at hn
          rw [body_take m h' (by omega)]
          exact congrArg some e
      · simp only [if_neg hc] at h
        cases m with
        | zero => exact h
        | succ m => rw [List.take_succ_cons]; simp only [if_neg hc]; exact h
    · rw [if_neg hb, Option.map_eq_some_iff] at h
      rw [if_neg hb]
      obtain ⟨⟨s', n'⟩, h', e⟩ := h
      have hn := (Prod.mk.inj e).2
      dsimp only at hn
      rw [body_take m h' (by omega)]
      exact congrArg some e
theorem find_take (l : Bs) (m : Nat) : ∀ (ms : List Bs) (x : Bs), ms.find? (fun y => y.isPrefixOf l) = some x → x.length ≤ m → ms.find? (fun y => y.isPrefixOf (l.take m)) = some x
  | [], _, h, _ => by simp at h
  | y :: ms, x, h, hm => by
    rw [List.find?_cons] at h
    rw [List.find?_cons]
    cases hy : y.isPrefixOf l with
    | true =>
      rw [hy] at h
      obtain rfl : y = x := Option.some.inj h
      have : y.isPrefixOf (l.take m) = true := by
        rw [List.isPrefixOf_iff_prefix] at hy ⊢
        exact List.prefix_take_iff.2 ⟨hy, hm⟩
      rw [this]
    | false =>
      rw [hy] at h
      have : y.isPrefixOf (l.take m) = false := by
        rw [Bool.eq_false_iff, ne_eq, List.isPrefixOf_iff_prefix] at hy ⊢
        exact fun e => hy (e.trans (List.take_prefix _ _))
      rw [this]
      exact find_take l m ms x h hm
theorem tok_take {l : Bs} {k : Int} {s : Bs} {n m : Nat} (h : tok l = .ok k s n) (hm : n ≤ m) : tok (l.take m) = .ok k s n := by
  have h0 := tok_ok h
  cases l with
  | nil => simp at h0; omega
  | cons b t =>
    cases m with
    | zero => omega
    | succ m =>
      rw [List.take_succ_cons]
      rw [tok] at h ⊢
      by_cases h1 : letter b = true
      · rw [if_pos h1] at h ⊢
        have e : ((b :: t).takeWhile wordB).length = n := by
          unfold word at h
          dsimp only at h
          split at h
          · injection h
          · split at h
            · cases h
            · injection h
        have e2 := tw_take wordB (b :: t) (m + 1) (by omega)
        rw [List.take_succ_cons] at e2
        unfold word at h ⊢
        rw [e2]
        exact h
      · rw [if_neg h1] at h ⊢
        by_cases h2 : digit b = true
        · rw [if_pos h2] at h ⊢
          have e : ((b :: t).takeWhile digit).length = n := by
            unfold number at h
            dsimp only at h
            split at h
            · cases h
            · split at h
              · cases h
              · injection h
          have e2 := tw_take digit (b :: t) (m + 1) (by omega)
          have e3 : (((b :: t).take (m + 1)).dropWhile digit).head?.any letter = true → ((b :: t).dropWhile digit).head?.any letter = true := by
            rw [dw_drop, dw_drop, e2, List.drop_take]
            intro q
            cases hq : (m + 1 - ((b :: t).takeWhile digit).length) with
            | zero => rw [hq] at q; simp at q
            | succ j =>
              rw [hq] at q
              cases hx : (b :: t).drop ((b :: t).takeWhile digit).length with
              | nil => rw [hx] at q; simp at q
              | cons x y => rw [hx, List.take_succ_cons] at q; simpa using q
          rw [List.take_succ_cons] at e2 e3
          unfold number at h ⊢
          rw [e2]
          dsimp only at h ⊢
          split at h
          · cases h
          · rename_i g1
            rw [if_neg g1]
            split at h
            · cases h
            · rename_i g2
              rw [if_neg (fun q => g2 (e3 q))]
              exact h
        · rw [if_neg h2] at h ⊢
          by_cases h3 : b = 39
          · rw [if_pos h3] at h ⊢
            unfold text at h ⊢
            rw [List.tail_cons] at h ⊢
            cases hx : body t with
            | none => rw [hx] at h; cases h
            | some x =>
              rw [hx] at h
              dsimp only at h
              split at h
              · cases h
              · rename_i g
                have hn : x.2 + 1 = n := by injection h
                rw [body_take (s := x.1) (n := x.2) m hx (by omega)]
                dsimp only
                rw [if_neg g]
                exact h
          · rw [if_neg h3] at h ⊢
            unfold mark at h ⊢
            cases hx : marks.find? (fun y => y.isPrefixOf (b :: t)) with
            | none => rw [hx] at h; cases h
            | some x =>
              rw [hx] at h
              have hn : x.length = n := by injection h
              have := find_take (b :: t) (m + 1) marks x hx (by omega)
              rw [List.take_succ_cons] at this
              rw [this]
              exact h
theorem run_nil (f p : Nat) : run f p [] = ⟨[], 0, 0⟩ := by cases f <;> simp [run]
theorem run_pos : ∀ (f p : Nat) (l : Bs) (k : Nat), (run f p l).e = 0 → (h : k < (run f p l).l.length) → p ≤ ((run f p l).l[k]).p ∧ ((run f p l).l[k]).p < p + l.length
  | 0, _, _, k, _, h => by simp [run] at h
  | f + 1, p, l, k, he, h => by
    have hu : run (f + 1) p l = run (f + 1) p l := rfl
    conv at hu => rhs; rw [run]
    by_cases hl : l = []
    · rw [if_pos hl] at hu; simp [hu] at h
    · rw [if_neg hl] at hu
      cases ht : tok l with
      | err e => rw [ht] at hu; simp [hu] at h
      | ok k' s n =>
        have t0 := tok_ok ht
        rw [ht] at hu
        dsimp only at hu
        have hs := skip_le false (l.drop n)
        rw [List.length_drop] at hs
        split at hu
        · rename_i hr
          simp only [hu] at h ⊢
          cases k with
          | zero => simp; omega
          | succ k =>
            have := run_pos f _ (l.drop (n + skip false (l.drop n))) k hr (by simpa using h)
            simp only [List.length_drop] at this
            simp only [List.getElem_cons_succ]
            omega
        · rename_i hr
          rw [hu] at he
          exact absurd he hr
theorem run_cut : ∀ (f g p : Nat) (l : Bs) (k : Nat), (run f p l).e = 0 → (h : k < (run f p l).l.length) → l.length < g →
    run g p (l.take (((run f p l).l[k]).p - p)) = ⟨(run f p l).l.take k, 0, 0⟩
  | 0, _, _, _, k, _, h, _ => by simp [run] at h
  | _ + 1, 0, _, _, _, _, _, h => absurd h (Nat.not_lt_zero _)
  | f + 1, g + 1, p, l, k, he, h, hg => by
    have hu : run (f + 1) p l = run (f + 1) p l := rfl
    conv at hu => rhs; rw [run]
    by_cases hl : l = []
    · rw [if_pos hl] at hu; simp [hu] at h
    · rw [if_neg hl] at hu
      cases ht : tok l with
      | err e => rw [ht] at hu; simp [hu] at h
      | ok k' s n =>
        have t0 := tok_ok ht
        rw [ht] at hu
        dsimp only at hu
        have hs := skip_le false (l.drop n)
        rw [List.length_drop] at hs
        split at hu
        · rename_i hr
          simp only [hu] at h ⊢
          cases k with
          | zero => simp [run_nil]
          | succ k =>
            have hk : k < (run f (p + n + skip false (l.drop n)) (l.drop (n + skip false (l.drop n)))).l.length := by simpa using h
            have hp := run_pos f _ (l.drop (n + skip false (l.drop n))) k hr hk
            simp only [List.length_drop] at hp
            have ih := run_cut f g (p + n + skip false (l.drop n)) (l.drop (n + skip false (l.drop n))) k hr hk (by simp; omega)
            simp only [List.getElem_cons_succ]
            generalize hq : ((run f (p + n + skip false (l.drop n)) (l.drop (n + skip false (l.drop n)))).l[k]).p = q at *
            rw [run, if_neg (by
              intro e
              have := congrArg List.length e
              simp at this
              rcases this with e | e
              · omega
              · exact hl e), tok_take ht (by omega)]
            dsimp only
            have hst : skip false ((l.take (q - p)).drop n) = skip false (l.drop n) := by
              rw [List.drop_take]
              exact skip_take false _ _ (by omega)
            rw [hst, List.drop_take, show q - p - (n + skip false (l.drop n)) = q - (p + n + skip false (l.drop n)) by omega, ih]
            simp
        · rename_i hr
          rw [hu] at he
          exact absurd he hr
theorem cuts (l : Bs) (k : Nat) (he : (toks l).e = 0) (h : k < (toks l).l.length) : ((toks l).l[k]).p ≤ l.length ∧ toks (l.take ((toks l).l[k]).p) = ⟨(toks l).l.take k, 0, 0⟩ := by
  have hL : ¬ 4000 < l.length := fun e => by rw [toks, if_pos e] at he; exact absurd he (by decide)
  have hu : toks l = run (l.length + 1) (skip false l) (l.drop (skip false l)) := by rw [toks, if_neg hL]
  have hs := skip_le false l
  rw [hu] at he
  simp only [hu] at h ⊢
  have hp := run_pos _ _ _ k he h
  have hc := run_cut _ ((l.drop (skip false l)).length + 1) _ _ k he h (by omega)
  simp only [List.length_drop] at hp
  generalize hq : ((run (l.length + 1) (skip false l) (l.drop (skip false l))).l[k]).p = q at *
  refine ⟨by omega, ?_⟩
  have h2 : skip false (l.take q) = skip false l := skip_take false _ _ (by omega)
  rw [toks, if_neg (by rw [List.length_take]; omega), h2, List.drop_take, ← hc]
  exact run_fuel _ _ _ _ (by simp; omega) (by simp; omega)
/-! ### A text between two bytes ' -/
def dbl : Bs → Bs
  | [] => []
  | c :: l => if c = 39 then 39 :: 39 :: dbl l else c :: dbl l
theorem body_dbl : ∀ s : Bs, body (dbl s ++ [39]) = some (s, (dbl s).length + 1)
  | [] => by simp [dbl, body]
  | c :: s => by
    rw [dbl]
    by_cases hc : c = 39
    · rw [if_pos hc, List.cons_append, List.cons_append, body_cons, if_pos rfl]
      simp only [if_pos]
      rw [body_dbl s, hc]
      simp
    · rw [if_neg hc, List.cons_append, body_cons, if_neg hc, body_dbl s]
      simp
theorem texts (s : Bs) (h : (dbl s).length + 2 ≤ 4000) : toks (39 :: (dbl s ++ [39])) = if 100 < s.length then ⟨[], 0, 5⟩ else ⟨[⟨4, s, 0⟩], 0, 0⟩ := by
  have e1 : ¬ 4000 < (39 :: (dbl s ++ [39])).length := by simp; omega
  rw [toks, if_neg e1]
  have e2 : skip false (39 :: (dbl s ++ [39])) = 0 := by rw [skip, if_neg (by decide), if_neg (by simp)]
  rw [e2, List.drop_zero, run, if_neg (by simp), tok, if_neg (by decide), if_neg (by decide), if_pos rfl, text, List.tail_cons, body_dbl]
  dsimp only
  by_cases h100 : 100 < s.length
  · rw [if_pos h100, if_pos h100]
  · rw [if_neg h100, if_neg h100]
    have : (39 :: (dbl s ++ [39])).drop ((dbl s).length + 1 + 1) = [] := List.drop_of_length_le (by simp)
    dsimp only
    rw [this]
    simp [skip, run_nil]
/-! ### A name -/
theorem tw_self {p : UInt8 → Bool} : ∀ {l : Bs}, (∀ b ∈ l, p b = true) → l.takeWhile p = l
  | [], _ => rfl
  | b :: t, h => by rw [List.takeWhile_cons_of_pos (h b (by simp)), tw_self (fun c hc => h c (by simp [hc]))]
def isName (s : Bs) : Bool := decide (s ≠ []) && decide (s.length ≤ 20) && !(s.head?.any digit) && s.all (fun b => small b || b == 95 || digit b) && !isKw (s.map up)
theorem names {s : Bs} (h : isName s = true) : toks s = ⟨[⟨2, s, 0⟩], 0, 0⟩ := by
  simp only [isName, Bool.and_eq_true, decide_eq_true_eq, Bool.not_eq_true'] at h
  obtain ⟨⟨⟨⟨h0, h1⟩, h2⟩, h3⟩, h4⟩ := h
  have hw : s.takeWhile wordB = s := by
    rw [List.all_eq_true] at h3
    refine tw_self ?_
    intro b hb
    have := h3 b hb
    simp only [wordB, letter, Bool.or_eq_true] at this ⊢
    rcases this with (h | h) | h
    · exact .inl (.inl (.inl h))
    · exact .inl (.inr h)
    · exact .inr h
  have hlow : s.map low = s := by
    rw [List.all_eq_true] at h3
    conv => rhs; rw [← List.map_id s]
    apply List.map_congr_left
    intro b hb
    have := h3 b hb
    unfold low
    rw [if_neg]
    · rfl
    · simp only [cap, small, digit, Bool.or_eq_true, Bool.and_eq_true, decide_eq_true_eq, beq_iff_eq] at this ⊢
      rcases this with (h | h) | h
      · omega
      · subst h; decide
      · omega
  cases s with
  | nil => exact absurd rfl h0
  | cons b t =>
    have hb : letter b = true := by
      simp only [List.all_cons, Bool.and_eq_true, Bool.or_eq_true] at h3
      simp only [List.head?_cons, Option.any_some] at h2
      simp only [letter, Bool.or_eq_true]
      rcases h3.1 with (h | h) | h
      · exact .inl (.inl h)
      · exact .inr h
      · rw [h2] at h; cases h
    have hnb : blank b = false ∧ b ≠ 45 := by
      simp only [letter, small, cap, Bool.or_eq_true, Bool.and_eq_true, decide_eq_true_eq, beq_iff_eq] at hb
      have hx : ∀ c : UInt8, c.toNat < 65 → b ≠ c := by
        rintro c hc rfl
        rcases hb with (hb | hb) | hb
        · omega
        · omega
        · subst hb; revert hc; decide
      refine ⟨?_, hx 45 (by decide)⟩
      simp only [blank, Bool.or_eq_false_iff, beq_eq_false_iff_ne]
      exact ⟨⟨⟨hx 32 (by decide), hx 9 (by decide)⟩, hx 10 (by decide)⟩, hx 13 (by decide)⟩
    have e2 : skip false (b :: t) = 0 := by rw [skip, if_neg (by simp [hnb.1]), if_neg (by simp [hnb.2])]
    rw [toks, if_neg (by omega), e2, List.drop_zero, run, if_neg (by simp), tok, if_pos hb, word]
    dsimp only
    rw [hw, if_neg (by rw [h4]; decide), if_neg (by omega), hlow]
    have : (b :: t).drop (b :: t).length = [] := List.drop_of_length_le (Nat.le_refl _)
    dsimp only
    rw [this]
    simp [skip, run_nil]
end Go.Proofs.YtdcanjfdgfpdfaaGreatDoor.Lx
