/- Layer 5 as plain functions: chains, drops, lazy operators, comparisons and IN, as the laws ask them. -/
import Derived.Test.YtefelelhgepkeaaGreatDoorKb
namespace Go.Proofs.YtefelelhgepkeaaGreatDoor.K
open Go.Proofs.YtefelelhgepkeaaGreatDoor.V
/-! ### Chains -/
theorem all_ok_of_tr {l : List Ot} (h : l.all tr = true) : l.all Ot.ok = true := by
  rw [List.all_eq_true] at h ⊢
  intro o ho
  have := h o ho
  unfold tr at this
  rw [Bool.and_eq_true] at this
  exact this.1
theorem tr_kind {o : Ot} (h : tr o = true) : o.k = 0 ∨ o.k = 3 := by
  rcases tr_cases h with rfl | rfl | rfl | ⟨e, _, rfl⟩ <;> simp
theorem kinds_tr {l : List Ot} (h : l.all tr = true) : allAg (l.map (·.k)) 3 = true ∧ (l.map (·.k)).all (fun k => decide (k ≤ 3)) = true := by
  rw [List.all_eq_true] at h
  constructor
  · unfold allAg
    rw [List.all_eq_true]
    intro x hx
    obtain ⟨o, ho, rfl⟩ := List.mem_map.1 hx
    have := tr_kind (h o ho)
    rw [agree_iff]; omega
  · rw [List.all_eq_true]
    intro x hx
    obtain ⟨o, ho, rfl⟩ := List.mem_map.1 hx
    have := tr_kind (h o ho)
    simp; omega
theorem fits_chain {op : Int} (ho : op = 23 ∨ op = 24) {l : List Ot} (h : l.all tr = true) : fits op l = true := by
  obtain ⟨h1, h2⟩ := kinds_tr h
  have hs : sortOf op = (8, -1) := by rcases ho with rfl | rfl <;> rfl
  unfold fits kind takes
  rw [all_ok_of_tr h, hs]
  simp only [h2, kindOf, h1]
  rfl
theorem node_and {l : List Ot} (h : l.all tr = true) : node 23 l = dec false (mr false l) := by
  unfold node
  rw [if_pos (fits_chain (.inl rfl) h), if_pos rfl, chain_is false h]
theorem node_or {l : List Ot} (h : l.all tr = true) : node 24 l = dec true (mr true l) := by
  unfold node
  rw [if_pos (fits_chain (.inr rfl) h), if_neg (by decide), if_pos rfl, chain_is true h]
theorem all_one {o : Ot} (h : tr o = true) : [o].all tr = true := by simp [h]
theorem fits_not {o : Ot} (h : tr o = true) : fits 22 [o] = true := by
  obtain ⟨h1, h2⟩ := kinds_tr (all_one h)
  unfold fits kind takes
  rw [all_ok_of_tr (all_one h)]
  simp only [h2, show sortOf 22 = (7, 1) from rfl, kindOf, h1]
  rfl
theorem node_not {o : Ot} (h : tr o = true) : node 22 [o] = neg o := by
  unfold node
  rw [if_pos (fits_not h)]
  simp only [show ¬ (22 : Int) = 23 by decide, show ¬ (22 : Int) = 24 by decide, show ¬ (22 : Int) = 25 by decide, show ¬ (22 : Int) = 26 by decide, if_false]
  rcases tr_cases h with rfl | rfl | rfl | ⟨e, he, rfl⟩
  · simp [strictR, errs, lst, isN, neg]
  · simp [strictR, errs, lst, isN, neg, strictO, frst, isT]
  · simp [strictR, errs, lst, isN, neg, strictO, frst, isT]
  · have : e ≠ 0 := by have := err_cases he; omega
    simp [strictR, errs, lst, this, neg]
theorem tr_and {l : List Ot} (h : l.all tr = true) : tr (node 23 l) = true := by rw [node_and h]; exact tr_dec (mr_is h)
theorem tr_or {l : List Ot} (h : l.all tr = true) : tr (node 24 l) = true := by rw [node_or h]; exact tr_dec (mr_is h)
theorem all_app {a b : List Ot} (ha : a.all tr = true) (hb : b.all tr = true) : (a ++ b).all tr = true := by rw [List.all_append, ha, hb]; rfl
theorem all_two {a b : Ot} (ha : tr a = true) (hb : tr b = true) : [a, b].all tr = true := by simp [ha, hb]
theorem all_rev {a : List Ot} (ha : a.all tr = true) : a.reverse.all tr = true := by rw [List.all_reverse]; exact ha
theorem mr_nine (d : Bool) {l : List Ot} (h : l.all tr = true) : mr d l ≤ 9 := by have := mr_is (d := d) h; unfold isRk at this; omega
theorem mr_two (d : Bool) (a b : Ot) (ha : tr a = true) (hb : tr b = true) : mr d [a, b] = min (rk d a) (rk d b) := by
  have h1 := rk_is (d := d) ha; have h2 := rk_is (d := d) hb
  unfold isRk at h1 h2
  rw [mr, mr, mr]; omega
theorem law_nested {a b : List Ot} (ha : a.all tr = true) (hb : b.all tr = true) : node 23 [node 23 b, node 23 a] = node 23 (a ++ b) := by
  rw [node_and (all_two (tr_and hb) (tr_and ha)), node_and (all_app ha hb), mr_two _ _ _ (tr_and hb) (tr_and ha), node_and ha, node_and hb, rk_dec (mr_is ha), rk_dec (mr_is hb), mr_append]
  congr 1; omega
theorem law_either {a b : List Ot} (ha : a.all tr = true) (hb : b.all tr = true) : node 24 [node 24 b, node 24 a] = node 24 (a ++ b) := by
  rw [node_or (all_two (tr_or hb) (tr_or ha)), node_or (all_app ha hb), mr_two _ _ _ (tr_or hb) (tr_or ha), node_or ha, node_or hb, rk_dec (mr_is ha), rk_dec (mr_is hb), mr_append]
  congr 1; omega
theorem law_turned {l : List Ot} (h : l.all tr = true) : node 23 l.reverse = node 23 l ∧ node 24 l.reverse = node 24 l := by
  rw [node_and (all_rev h), node_and h, node_or (all_rev h), node_or h, mr_reverse, mr_reverse]; exact ⟨rfl, rfl⟩
theorem law_nots {l : List Ot} (h : l.all tr = true) : node 22 [node 23 l] = node 24 (l.map neg) ∧ node 22 [node 24 l] = node 23 (l.map neg) := by
  rw [node_not (tr_and h), node_not (tr_or h), node_or (all_neg h), node_and (all_neg h), mr_neg h, mr_neg h, node_and h, node_or h, neg_dec (mr_is h), neg_dec (mr_is h)]
  exact ⟨rfl, rfl⟩
/-! ### Drops -/
theorem mr_total : ∀ {l : List Ot}, l.all tr = true → (∀ o ∈ l, o.e = 0) → mr false l = 0 ∨ mr false l = 1 ∨ mr false l = 9
  | [], _, _ => by simp [mr]
  | o :: t, h, he => by
    rw [List.all_cons, Bool.and_eq_true] at h
    have h1 := mr_total h.2 (fun x hx => he x (by simp [hx]))
    have h2 := he o (by simp)
    have : rk false o = 0 ∨ rk false o = 1 ∨ rk false o = 9 := by
      unfold rk
      rw [if_neg (by omega)]
      split
      · omega
      · split <;> omega
    rw [mr]; omega
theorem law_drops {a b : List Ot} (ha : a.all tr = true) (hb : b.all tr = true) (he : ∀ o ∈ a, o.e = 0) :
    (node 23 a = bo true ∧ node 23 (a ++ b) = node 23 b) ∨ (node 23 a = bo false ∧ node 23 (a ++ b) = bo false) ∨ (node 23 a = nul ∧ (node 23 (a ++ b) = nul ∨ node 23 (a ++ b) = bo false)) := by
  have hm := mr_is (d := false) hb
  rw [node_and ha, node_and hb, node_and (all_app ha hb), mr_append]
  rcases mr_total ha he with h | h | h <;> rw [h]
  · refine .inr (.inl ⟨rfl, ?_⟩)
    have : min 0 (mr false b) = 0 := by unfold isRk at hm; omega
    rw [this]; rfl
  · refine .inr (.inr ⟨rfl, ?_⟩)
    by_cases h0 : mr false b = 0
    · rw [h0]; exact .inr rfl
    · have : min 1 (mr false b) = 1 := by unfold isRk at hm; omega
      rw [this]; exact .inl rfl
  · refine .inl ⟨rfl, ?_⟩
    have := mr_nine false hb
    rw [Int.min_eq_right this]
/-! ### Lazy operators -/
theorem first_append : ∀ {a : List Ot} (b : List Ot), isN (first a) = false → first (a ++ b) = first a
  | [], _, h => by cases h
  | o :: t, b, h => by
    rw [first] at h
    rw [List.cons_append, first, first]
    split
    · rename_i ho
      rw [if_pos ho] at h
      exact first_append b h
    · rfl
theorem node_err {op : Int} {l : List Ot} (h : (node op l).e ≠ 1) : fits op l = true := by
  cases hf : fits op l with
  | true => rfl
  | false => unfold node at h; rw [hf] at h; simp at h
theorem node_26 {l : List Ot} (h : fits 26 l = true) : node 26 l = first l := by
  unfold node; rw [if_pos h, if_neg (by decide), if_neg (by decide), if_neg (by decide), if_pos rfl]
theorem node_25 {l : List Ot} (h : fits 25 l = true) : node 25 l = choose l := by
  unfold node; rw [if_pos h, if_neg (by decide), if_neg (by decide), if_pos rfl]
theorem law_coalesce {a b : List Ot} (ha : (node 26 a).e ≠ 1) (hb : (node 26 (a ++ b)).e ≠ 1) (hk : (node 26 a).e ≠ 0 ∨ (node 26 a).k ≠ 0) : node 26 (a ++ b) = node 26 a := by
  rw [node_26 (node_err hb), node_26 (node_err ha)]
  rw [node_26 (node_err ha)] at hk
  refine first_append b ?_
  simp only [isN, Bool.and_eq_false_iff, beq_eq_false_iff_ne]
  exact hk
theorem choose_append (v : Ot) : ∀ (p r : List Ot), p.length % 2 = 0 → choose (p ++ bo true :: v :: r) = choose (p ++ [bo true, v])
  | [], r, _ => by simp [choose, isT]
  | [o], _, h => by simp at h
  | c :: w :: p, r, h => by
    have hl : p.length % 2 = 0 := by simp at h; omega
    have := choose_append v p r hl
    simp only [List.cons_append, choose, this]
theorem law_case {p r : List Ot} (v : Ot) (hp : p.length % 2 = 0) (ha : (node 25 (p ++ [bo true, v])).e ≠ 1) (hb : (node 25 (p ++ [bo true, v] ++ r)).e ≠ 1) : node 25 (p ++ [bo true, v] ++ r) = node 25 (p ++ [bo true, v]) := by
  rw [node_25 (node_err hb), node_25 (node_err ha), List.append_assoc]
  exact choose_append v p r hp
/-! ### Comparisons -/
theorem cmpI_3 (a b : Int) : cmpI a b = -1 ∧ a < b ∨ cmpI a b = 0 ∧ a = b ∨ cmpI a b = 1 ∧ b < a := by unfold cmpI; split <;> (try split) <;> omega
theorem cb_zero : ∀ l m : List UInt8, Lib.compareBytes l m = 0 ↔ l = m
  | [], [] => by simp [Lib.compareBytes]
  | [], _ :: _ => by simp [Lib.compareBytes]
  | _ :: _, [] => by simp [Lib.compareBytes]
  | a :: l, b :: m => by
    have h := cb_zero l m
    simp only [Lib.compareBytes]
    by_cases h1 : a < b
    · rw [if_pos h1]
      constructor
      · intro h; cases h
      · intro e
        obtain ⟨rfl, -⟩ := List.cons.inj e
        rw [UInt8.lt_iff_toNat_lt] at h1; omega
    · by_cases h2 : b < a
      · rw [if_neg h1, if_pos h2]
        constructor
        · intro h; cases h
        · intro e
          obtain ⟨rfl, -⟩ := List.cons.inj e
          rw [UInt8.lt_iff_toNat_lt] at h2; omega
      · rw [if_neg h1, if_neg h2, h]
        have : a = b := UInt8.toNat.inj (by rw [UInt8.lt_iff_toNat_lt] at *; omega)
        simp [this]
theorem cb_3 (l m : List UInt8) : Lib.compareBytes l m = -1 ∨ Lib.compareBytes l m = 0 ∨ Lib.compareBytes l m = 1 := by
  induction l generalizing m with
  | nil => cases m <;> simp [Lib.compareBytes]
  | cons a l ih =>
    cases m with
    | nil => simp [Lib.compareBytes]
    | cons b m =>
      simp only [Lib.compareBytes]
      split
      · exact .inl rfl
      · split
        · exact .inr (.inr rfl)
        · exact ih m
theorem ba_inj {s t : ByteArray} : s.toList = t.toList ↔ s = t := by
  refine ⟨fun h => ?_, fun h => h ▸ rfl⟩
  rw [ByteArray.toList_eq, ByteArray.toList_eq] at h
  obtain ⟨s⟩ := s
  obtain ⟨t⟩ := t
  simp only at h
  rw [Array.toList_inj.1 h]
theorem same_iff {k n : Int} {s : ByteArray} {k' n' : Int} {s' : ByteArray} : same k n s k' n' s' = true ↔ k = k' ∧ n = n' ∧ s = s' := by simp [same, ba_inj, and_assoc]
theorem same_refl (o : Ot) : same o.k o.n o.s o.k o.n o.s = true := same_iff.2 ⟨rfl, rfl, rfl⟩
/-- Two valid values of one kind are before, the same, or after. -/
theorem cmpV_3 {k n : Int} {s : ByteArray} {n' : Int} {s' : ByteArray} (h1 : vd k n s = true) (h2 : vd k n' s' = true) :
    (cmpV k n s k n' s' = -1 ∨ cmpV k n s k n' s' = 0 ∨ cmpV k n s k n' s' = 1) ∧ (cmpV k n s k n' s' = 0 ↔ same k n s k n' s' = true) := by
  have e0 : cmpV k n s k n' s' = if k = 0 then 0 else if k = 1 ∨ k = 3 then cmpI n n' else if k = 2 then cmpT s s' else if cmpI n n' ≠ 0 then cmpI n n' else cmpT s s' := by
    unfold cmpV; rw [if_neg (by simp)]
  rw [e0, same_iff]
  unfold vd at h1 h2
  rcases vd_kind (k := k) (n := n) (s := s) (by unfold vd; exact h1) with rfl | rfl | rfl | rfl
  · simp at h1 h2
    simp [h1.1, h2.1, ba_nil h1.2, ba_nil h2.2]
  · simp at h1 h2
    have := cmpI_3 n n'
    simp [ba_nil h1, ba_nil h2]
    omega
  · simp at h1 h2
    have := cb_3 s.data.toList s'.data.toList
    have e := cb_zero s.data.toList s'.data.toList
    rw [← ByteArray.toList_eq, ← ByteArray.toList_eq, ba_inj] at e
    simp [h1.1, h2.1, cmpT]
    rw [ByteArray.toList_eq, ByteArray.toList_eq] at e
    exact ⟨this, e⟩
  · simp at h1 h2
    have := cmpI_3 n n'
    simp [ba_nil h1.2, ba_nil h2.2]
    omega
/-- Two values that a comparison takes. -/
def pairOk (a b : Ot) : Prop := a.e = 0 ∧ b.e = 0 ∧ a.ok = true ∧ b.ok = true ∧ agree a.k b.k = true
theorem fits_cmp {op : Int} (h1 : 12 ≤ op) (h2 : op ≤ 18) {a b : Ot} (h : pairOk a b) : fits op [a, b] = true := by
  obtain ⟨ha, hb, oa, ob, hk⟩ := h
  have ka := ok_kind oa; have kb := ok_kind ob
  have hs : sortOf op = (4, 2) := by
    unfold sortOf
    rw [if_neg (by omega), if_neg (by omega), if_neg (by omega), if_neg (by omega), if_pos (by omega)]
  unfold fits kind takes
  have e1 : decide (a.k ≤ 3) = true := by simp; omega
  have e2 : decide (b.k ≤ 3) = true := by simp; omega
  simp only [List.all_cons, List.all_nil, oa, ob, hs, List.map_cons, List.map_nil, List.length_cons, List.length_nil, kindOf, List.getD_cons_zero, List.getD_cons_succ, hk, e1, e2]
  rfl
theorem node_cmp {op : Int} (h1 : 12 ≤ op) (h2 : op ≤ 17) {a b : Ot} (h : pairOk a b) : node op [a, b] = if isN a || isN b then nul else cmpO op (cmpV a.k a.n a.s b.k b.n b.s) := by
  have hf := fits_cmp (op := op) h1 (by omega) h
  obtain ⟨ha, hb, _, _, _⟩ := h
  unfold node
  rw [if_pos hf, if_neg (by omega), if_neg (by omega), if_neg (by omega), if_neg (by omega)]
  have e : errs 0 [a, b] = 0 := by simp [errs, lst, ha, hb]
  unfold strictR strictO
  rw [e, if_neg (by simp), if_neg (by omega), if_neg (by omega), if_neg (by omega)]
  simp only [List.any_cons, List.any_nil, Bool.or_false, frst, scnd, List.headD_cons]
  cases isN a || isN b with
  | true => rfl
  | false =>
    simp only [Bool.false_eq_true, if_false]
    rw [if_neg (by omega), if_neg (by omega), if_neg (by omega), if_neg (by omega), if_neg (by omega)]
theorem node_same {a b : Ot} (h : pairOk a b) : node 18 [a, b] = bo (same a.k a.n a.s b.k b.n b.s) := by
  have hf := fits_cmp (op := 18) (by decide) (by decide) h
  obtain ⟨ha, hb, _, _, _⟩ := h
  unfold node
  rw [if_pos hf, if_neg (by decide), if_neg (by decide), if_neg (by decide), if_neg (by decide)]
  have e : errs 0 [a, b] = 0 := by simp [errs, lst, ha, hb]
  unfold strictR
  rw [e, if_neg (by simp), if_pos rfl]
  rfl
/-! ### IN -/
abbrev Vl := Int × Int × ByteArray
def ofV (v : Vl) : Ot := ⟨v.1, v.2.1, v.2.2, 0⟩
def vOk (v : Vl) : Bool := vd v.1 v.2.1 v.2.2
theorem ofV_ok {v : Vl} (h : vOk v = true) : (ofV v).ok = true := by unfold Ot.ok; exact h
/-- The loop of the reference's In: whether null may be, and the value. -/
def inL (x : Ot) : Bool → List Vl → Ot
  | nl, [] => if nl then nul else bo false
  | nl, v :: t => if isN x || v.1 == 0 then inL x true t else if same x.k x.n x.s v.1 v.2.1 v.2.2 then bo true else inL x nl t
theorem chain_one (nl : Bool) (t : List Ot) : chain true nl 0 (bo true :: t) = bo true := by rw [chain, if_pos (by simp [isT])]
theorem law_in (x : Vl) (hx : vOk x = true) : ∀ (l : List Vl) (nl : Bool), (∀ v ∈ l, vOk v = true ∧ agree x.1 v.1 = true) →
    inL (ofV x) nl l = chain true nl 0 (l.map fun v => node 12 [ofV x, ofV v])
  | [], nl, _ => by cases nl <;> rfl
  | v :: t, nl, h => by
    obtain ⟨hv, ha⟩ := h v (by simp)
    have ih := fun b => law_in x hx t b (fun u hu => h u (by simp [hu]))
    have hp : pairOk (ofV x) (ofV v) := ⟨rfl, rfl, ofV_ok hx, ofV_ok hv, ha⟩
    rw [inL, List.map_cons, node_cmp (by decide) (by decide) hp]
    have hn : isN (ofV v) = (v.1 == 0) := by simp [isN, ofV]
    rw [hn]
    cases hc : (isN (ofV x) || v.1 == 0) with
    | true =>
      rw [if_pos rfl, if_pos rfl, chain, if_neg (by simp), ih true]
      simp [isN, lst]
    | false =>
      rw [if_neg (by simp)]
      have hk : (ofV x).k = (ofV v).k := by
        rw [agree_iff] at ha
        simp [isN, ofV] at hc
        simp [ofV]; omega
      have h1 : vd (ofV x).k (ofV x).n (ofV x).s = true := hx
      have h2 : vd (ofV x).k (ofV v).n (ofV v).s = true := by rw [hk]; exact hv
      have h3 := (cmpV_3 h1 h2).2
      have e : cmpO 12 (cmpV (ofV x).k (ofV x).n (ofV x).s (ofV v).k (ofV v).n (ofV v).s) = bo (same (ofV x).k (ofV x).n (ofV x).s (ofV v).k (ofV v).n (ofV v).s) := by
        rw [← hk]
        have : (cmpV (ofV x).k (ofV x).n (ofV x).s (ofV x).k (ofV v).n (ofV v).s == 0) = same (ofV x).k (ofV x).n (ofV x).s (ofV x).k (ofV v).n (ofV v).s := by
          rw [Bool.eq_iff_iff, beq_iff_eq]; exact h3
        simp only [cmpO, if_true, this]
      rw [e]
      show (if same (ofV x).k (ofV x).n (ofV x).s (ofV v).k (ofV v).n (ofV v).s = true then bo true else inL (ofV x) nl t) = chain true nl 0 (bo (same (ofV x).k (ofV x).n (ofV x).s (ofV v).k (ofV v).n (ofV v).s) :: _)
      cases same (ofV x).k (ofV x).n (ofV x).s (ofV v).k (ofV v).n (ofV v).s with
      | true => rw [if_pos rfl, chain_one]
      | false =>
        rw [if_neg (by simp), chain, if_neg (by simp [isT]), ih nl]
        simp [isN, lst]
end Go.Proofs.YtefelelhgepkeaaGreatDoor.K
