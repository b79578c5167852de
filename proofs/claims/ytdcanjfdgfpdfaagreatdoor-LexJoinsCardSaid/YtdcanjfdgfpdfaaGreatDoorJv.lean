/- The tokens of any source can be written; what Join writes grows token by token. -/
import Derived.Test.YtdcanjfdgfpdfaaGreatDoorJn
namespace Go.Proofs.YtdcanjfdgfpdfaaGreatDoor.Lx
theorem low_toNat {c : UInt8} (h : cap c = true) : (low c).toNat = c.toNat + 32 := by
  rw [low, if_pos h, UInt8.toNat_add]
  simp only [cap, Bool.and_eq_true, decide_eq_true_eq] at h
  have e : (32 : UInt8).toNat = 32 := rfl
  rw [e]; omega
theorem up_low (c : UInt8) : up (low c) = up c := by
  by_cases h : cap c = true
  · have hn := low_toNat h
    rw [up_cap h]
    have hs : small (low c) = true := by
      simp only [cap, small, Bool.and_eq_true, decide_eq_true_eq] at h ⊢
      omega
    rw [up, if_pos hs]
    refine UInt8.toNat_inj.1 ?_
    have e : (32 : UInt8).toNat = 32 := rfl
    rw [UInt8.toNat_sub, hn, e]
    have := c.toNat_lt
    omega
  · rw [low, if_neg h]
theorem low_name {c : UInt8} (h : wordB c = true) : (small (low c) || low c == 95 || digit (low c)) = true := by
  by_cases hc : cap c = true
  · have hn := low_toNat hc
    have hs : small (low c) = true := by
      simp only [cap, small, Bool.and_eq_true, decide_eq_true_eq] at hc ⊢
      omega
    rw [hs]; rfl
  · rw [low, if_neg hc]
    have hc' : cap c = false := by simpa using hc
    simp only [wordB, letter, hc', Bool.or_false] at h
    exact h
theorem low_let {c : UInt8} (h : letter c = true) : digit (low c) = false := by
  by_cases hc : cap c = true
  · have hn := low_toNat hc
    simp only [cap, digit, Bool.and_eq_true, decide_eq_true_eq, Bool.and_eq_false_iff, decide_eq_false_iff_not] at hc ⊢
    omega
  · rw [low, if_neg hc]
    cases hd : digit c with
    | false => rfl
    | true => rw [dig_let hd] at h; cases h
theorem tok_valid {l : Bs} {k : Int} {s : Bs} {n : Nat} (h : tok l = .ok k s n) (hl : l.length ≤ 4000) : valid (k, s) = true := by
  cases l with
  | nil => simp [tok] at h
  | cons b t =>
    rw [tok] at h
    by_cases h1 : letter b = true
    · rw [if_pos h1, word] at h
      obtain ⟨w, hw⟩ : ∃ w, (b :: t).takeWhile wordB = w := ⟨_, rfl⟩
      have hb : wordB b = true := by simp [wordB, h1]
      have hm : ∀ c ∈ w, wordB c = true := fun c hc => tw_mem (hw ▸ hc)
      obtain ⟨u, hu⟩ : ∃ u, w = b :: u := by
        rw [List.takeWhile_cons_of_pos hb] at hw
        exact ⟨_, hw.symm⟩
      rw [hw] at h
      by_cases hk : isKw (w.map up) = true
      · rw [if_pos hk] at h
        injection h with e1 e2 e3
        subst e1; subst e2
        exact hk
      · rw [if_neg hk] at h
        by_cases h20 : 20 < w.length
        · rw [if_pos h20] at h; cases h
        · rw [if_neg h20] at h
          injection h with e1 e2 e3
          subst e1; subst e2
          show isName (w.map low) = true
          have a1 : (w.map low).all (fun b => small b || b == 95 || digit b) = true := by
            rw [List.all_eq_true]
            intro c hc
            obtain ⟨d, hd, rfl⟩ := List.mem_map.1 hc
            exact low_name (hm d hd)
          have a2 : (w.map low).map up = w.map up := by
            rw [List.map_map]
            exact List.map_congr_left fun c _ => up_low c
          have a3 : (w.map low).head?.any digit = false := by rw [hu]; exact low_let h1
          have a4 : w.map low ≠ [] := by rw [hu]; simp
          have a5 : (w.map low).length ≤ 20 := by rw [List.length_map]; omega
          rw [isName, a1, a2, a3, decide_eq_true a4, decide_eq_true a5]
          simpa using hk
    · rw [if_neg h1] at h
      by_cases h2 : digit b = true
      · rw [if_pos h2, number_is (by simpa using h2)] at h
        by_cases hn : isNum ((b :: t).takeWhile digit) = false
        · rw [if_pos hn] at h; cases h
        · rw [if_neg hn] at h
          split at h
          · cases h
          · injection h with e1 e2 e3
            subst e1; subst e2
            have := tw_le digit (b :: t)
            show (decide (((b :: t).takeWhile digit).length ≤ 4000) && isNum ((b :: t).takeWhile digit)) = true
            rw [decide_eq_true (by omega)]
            simpa using hn
      · rw [if_neg h2] at h
        by_cases h3 : b = 39
        · rw [if_pos h3, text] at h
          split at h
          · cases h
          · split at h
            · cases h
            · rename_i x _ hx
              injection h with e1 e2 e3
              subst e1; subst e2
              show decide (x.1.length ≤ 100) = true
              rw [decide_eq_true_eq]; omega
        · rw [if_neg h3, mark] at h
          split at h
          · rename_i m hm
            injection h with e1 e2 e3
            subst e1; subst e2
            exact List.contains_iff_mem.2 (List.mem_of_find?_eq_some hm)
          · cases h
theorem run_valid : ∀ (f p : Nat) (l : Bs), l.length ≤ 4000 → ∀ t ∈ (run f p l).l, valid (keyT t) = true
  | 0, _, _, _, t, h => by simp [run] at h
  | f + 1, p, l, hl, t, h => by
    rw [run] at h
    split at h
    · simp at h
    · split at h
      · simp at h
      · rename_i k s n htok
        dsimp only at h
        split at h
        · rcases List.mem_cons.1 h with rfl | h
          · exact tok_valid htok hl
          · exact run_valid f _ _ (by rw [List.length_drop]; omega) t h
        · exact run_valid f _ _ (by rw [List.length_drop]; omega) t h
theorem toks_valid {l : Bs} {t : Tok} (h : t ∈ (toks l).l) : valid (keyT t) = true := by
  unfold toks at h
  split at h
  · simp at h
  · exact run_valid _ _ _ (by rw [List.length_drop]; omega) t h
/-- What stands between a token and the next one. -/
def gap (o : Option Key) (t : Key) : Bs := match o with
  | none => []
  | some p => if nearK p t then [] else [32]
theorem jn_snoc : ∀ (l : List Key) (o : Option Key) (u : Key), jn o (l ++ [u]) = jn o l ++ (gap (l.getLast?.or o) u ++ wr u)
  | [], none, u => by simp [jn, gap]
  | [], some p, u => by simp [jn, gap]
  | t :: l, none, u => by
    have e : (t :: l).getLast?.or none = l.getLast?.or (some t) := by rw [List.getLast?_cons]; cases l.getLast? <;> simp
    rw [List.cons_append, jn, jn, jn_snoc l, e, List.append_assoc]
  | t :: l, some p, u => by
    have e : (t :: l).getLast?.or (some p) = l.getLast?.or (some t) := by rw [List.getLast?_cons]; cases l.getLast? <;> simp
    rw [List.cons_append, jn, jn, jn_snoc l, e]
    simp only [List.append_assoc]
theorem jn_take (l : List Key) (k : Nat) (u : Key) (hu : l[k]? = some u) : jn none (l.take (k + 1)) = jn none (l.take k) ++ (gap ((l.take k).getLast?) u ++ wr u) := by
  rw [List.take_add_one, hu, Option.toList_some, jn_snoc]
  simp
theorem jn_mono (l : List Key) (k : Nat) : (jn none (l.take k)).length ≤ (jn none l).length := by
  have h : ∀ (o : Option Key) (a b : List Key), (jn o a).length ≤ (jn o (a ++ b)).length := by
    intro o a
    induction a generalizing o with
    | nil => intro b; simp [jn]
    | cons t a ih =>
      intro b
      cases o with
      | none =>
        rw [List.cons_append, jn, jn, List.length_append, List.length_append]
        have := ih (some t) b
        omega
      | some p =>
        rw [List.cons_append, jn, jn, List.length_append, List.length_append, List.length_append, List.length_append]
        have := ih (some t) b
        omega
  have := h none (l.take k) (l.drop k)
  rwa [List.take_append_drop] at this
end Go.Proofs.YtdcanjfdgfpdfaaGreatDoor.Lx
