/- Layer 5 as plain functions: chains, drops, lazy operators, comparisons and IN, as the laws ask them. -/
import Derived.Test.YtdipalinddfekaaGreatDoorGab
import Derived.Test.YtdipalinddfekaaGreatDoorGaa
import Derived.LoopTactic
import Derived.Deep.LoopGhost
import Derived.IntWalk
namespace Go.Proofs.YtdipalinddfekaaGreatDoor.K
open Go.Proofs.YtdipalinddfekaaGreatDoor.V
/-! ### Chains -/
theorem all_ok_of_tr {l : List Ot} (h : l.all tr = true) : l.all Ot.ok = true := by
  rw [List.all_eq_true] at h ⊢
  intro o ho
  have := h o ho
  unfold tr at this
  rw [Bool.and_eq_true] at this
  exact this.1
theorem tr_kind {o : Ot} (h : tr o = true) : o.k = 0 ∨ o.k = 3 := by
  rcases tr_cases h with rfl | rfl | rfl | ⟨e, _, rfl⟩ <;> simp
theorem kinds_tr {l : List Ot} (h : l.all tr = true) : allAg (l.map (·.k)) 3 = true ∧ (l.map (·.k)).all (fun k => decide (k ≤ 3)) = true := by
  rw [List.all_eq_true] at h
  constructor
  · unfold allAg
    rw [List.all_eq_true]
    intro x hx
    obtain ⟨o, ho, rfl⟩ := List.mem_map.1 hx
    have := tr_kind (h o ho)
    rw [agree_iff]; omega
  · rw [List.all_eq_true]
    intro x hx
    obtain ⟨o, ho, rfl⟩ := List.mem_map.1 hx
    have := tr_kind (h o ho)
    simp; omega
theorem fits_chain {op : Int} (ho : op = 23 ∨ op = 24) {l : List Ot} (h : l.all tr = true) : fits op l = true := by
  obtain ⟨h1, h2⟩ := kinds_tr h
  have hs : sortOf op = (8, -1) := by rcases ho with rfl | rfl <;> rfl
  unfold fits kind takes
  rw [all_ok_of_tr h, hs]
  simp only [h2, kindOf, h1]
  rfl
theorem node_and {l : List Ot} (h : l.all tr = true) : node 23 l = dec false (mr false l) := by
  unfold node
  rw [if_pos (fits_chain (.inl rfl) h), if_pos rfl, chain_is false h]
theorem node_or {l : List Ot} (h : l.all tr = true) : node 24 l = dec true (mr true l) := by
  unfold node
  rw [if_pos (fits_chain (.inr rfl) h), if_neg (by decide), if_pos rfl, chain_is true h]
theorem all_one {o : Ot} (h : tr o = true) : [o].all tr = true := by simp [h]
theorem fits_not {o : Ot} (h : tr o = true) : fits 22 [o] = true := by
  obtain ⟨h1, h2⟩ := kinds_tr (all_one h)
  unfold fits kind takes
  rw [all_ok_of_tr (all_one h)]
  simp only [h2, show sortOf 22 = (7, 1) from rfl, kindOf, h1]
  rfl
theorem node_not {o : Ot} (h : tr o = true) : node 22 [o] = neg o := by
  unfold node
  rw [if_pos (fits_not h)]
  simp only [show ¬ (22 : Int) = 23 by decide, show ¬ (22 : Int) = 24 by decide, show ¬ (22 : Int) = 25 by decide, show ¬ (22 : Int) = 26 by decide, if_false]
  rcases tr_cases h with rfl | rfl | rfl | ⟨e, he, rfl⟩
  · simp [strictR, errs, lst, isN, neg]
  · simp [strictR, errs, lst, isN, neg, strictO, frst, isT]
  · simp [strictR, errs, lst, isN, neg, strictO, frst, isT]
  · have : e ≠ 0 := by have := err_cases he; omega
    simp [strictR, errs, lst, this, neg]
theorem tr_and {l : List Ot} (h : l.all tr = true) : tr (node 23 l) = true := by rw [node_and h]; exact tr_dec (mr_is h)
theorem tr_or {l : List Ot} (h : l.all tr = true) : tr (node 24 l) = true := by rw [node_or h]; exact tr_dec (mr_is h)
theorem all_app {a b : List Ot} (ha : a.all tr = true) (hb : b.all tr = true) : (a ++ b).all tr = true := by rw [List.all_append, ha, hb]; rfl
theorem all_two {a b : Ot} (ha : tr a = true) (hb : tr b = true) : [a, b].all tr = true := by simp [ha, hb]
theorem all_rev {a : List Ot} (ha : a.all tr = true) : a.reverse.all tr = true := by rw [List.all_reverse]; exact ha
theorem mr_nine (d : Bool) {l : List Ot} (h : l.all tr = true) : mr d l ≤ 9 := by have := mr_is (d := d) h; unfold isRk at this; omega
theorem mr_two (d : Bool) (a b : Ot) (ha : tr a = true) (hb : tr b = true) : mr d [a, b] = min (rk d a) (rk d b) := by
  have h1 := rk_is (d := d) ha; have h2 := rk_is (d := d) hb
  unfold isRk at h1 h2
  rw [mr, mr, mr]; omega
theorem law_nested {a b : List Ot} (ha : a.all tr = true) (hb : b.all tr = true) : node 23 [node 23 b, node 23 a] = node 23 (a ++ b) := by
  rw [node_and (all_two (tr_and hb) (tr_and ha)), node_and (all_app ha hb), mr_two _ _ _ (tr_and hb) (tr_and ha), node_and ha, node_and hb, rk_dec (mr_is ha), rk_dec (mr_is hb), mr_append]
  congr 1; omega
theorem law_either {a b : List Ot} (ha : a.all tr = true) (hb : b.all tr = true) : node 24 [node 24 b, node 24 a] = node 24 (a ++ b) := by
  rw [node_or (all_two (tr_or hb) (tr_or ha)), node_or (all_app ha hb), mr_two _ _ _ (tr_or hb) (tr_or ha), node_or ha, node_or hb, rk_dec (mr_is ha), rk_dec (mr_is hb), mr_append]
  congr 1; omega
theorem law_turned {l : List Ot} (h : l.all tr = true) : node 23 l.reverse = node 23 l ∧ node 24 l.reverse = node 24 l := by
  rw [node_and (all_rev h), node_and h, node_or (all_rev h), node_or h, mr_reverse, mr_reverse]; exact ⟨rfl, rfl⟩
theorem law_nots {l : List Ot} (h : l.all tr = true) : node 22 [node 23 l] = node 24 (l.map neg) ∧ node 22 [node 24 l] = node 23 (l.map neg) := by
  rw [node_not (tr_and h), node_not (tr_or h), node_or (all_neg h), node_and (all_neg h), mr_neg h, mr_neg h, node_and h, node_or h, neg_dec (mr_is h), neg_dec (mr_is h)]
  exact ⟨rfl, rfl⟩
/-! ### Drops -/
theorem mr_total : ∀ {l : List Ot}, l.all tr = true → (∀ o ∈ l, o.e = 0) → mr false l = 0 ∨ mr false l = 1 ∨ mr false l = 9
  | [], _, _ => by simp [mr]
  | o :: t, h, he => by
    rw [List.all_cons, Bool.and_eq_true] at h
    have h1 := mr_total h.2 (fun x hx => he x (by simp [hx]))
    have h2 := he o (by simp)
    have : rk false o = 0 ∨ rk false o = 1 ∨ rk false o = 9 := by
      unfold rk
      rw [if_neg (by omega)]
      split
      · omega
      · split <;> omega
    rw [mr]; omega
theorem law_drops {a b : List Ot} (ha : a.all tr = true) (hb : b.all tr = true) (he : ∀ o ∈ a, o.e = 0) :
    (node 23 a = bo true ∧ node 23 (a ++ b) = node 23 b) ∨ (node 23 a = bo false ∧ node 23 (a ++ b) = bo false) ∨ (node 23 a = nul ∧ (node 23 (a ++ b) = nul ∨ node 23 (a ++ b) = bo false)) := by
  have hm := mr_is (d := false) hb
  rw [node_and ha, node_and hb, node_and (all_app ha hb), mr_append]
  rcases mr_total ha he with h | h | h <;> rw [h]
  · refine .inr (.inl ⟨rfl, ?_⟩)
    have : min 0 (mr false b) = 0 := by unfold isRk at hm; omega
    rw [this]; rfl
  · refine .inr (.inr ⟨rfl, ?_⟩)
    by_cases h0 : mr false b = 0
    · rw [h0]; exact .inr rfl
    · have : min 1 (mr false b) = 1 := by unfold isRk at hm; omega
      rw [this]; exact .inl rfl
  · refine .inl ⟨rfl, ?_⟩
    have := mr_nine false hb
    rw [Int.min_eq_right this]
/-! ### Lazy operators -/
theorem first_append : ∀ {a : List Ot} (b : List Ot), isN (first a) = false → first (a ++ b) = first a
  | [], _, h => by cases h
  | o :: t, b, h => by
    rw [first] at h
    rw [List.cons_append, first, first]
    split
    · rename_i ho
      rw [if_pos ho] at h
      exact first_append b h
    · rfl
theorem node_err {op : Int} {l : List Ot} (h : (node op l).e ≠ 1) : fits op l = true := by
  cases hf : fits op l with
  | true => rfl
  | false => unfold node at h; rw [hf] at h; simp at h
theorem node_26 {l : List Ot} (h : fits 26 l = true) : node 26 l = first l := by
  unfold node; rw [if_pos h, if_neg (by decide), if_neg (by decide), if_neg (by decide), if_pos rfl]
theorem node_25 {l : List Ot} (h : fits 25 l = true) : node 25 l = choose l := by
  unfold node; rw [if_pos h, if_neg (by decide), if_neg (by decide), if_pos rfl]
theorem law_coalesce {a b : List Ot} (ha : (node 26 a).e ≠ 1) (hb : (node 26 (a ++ b)).e ≠ 1) (hk : (node 26 a).e ≠ 0 ∨ (node 26 a).k ≠ 0) : node 26 (a ++ b) = node 26 a := by
  rw [node_26 (node_err hb), node_26 (node_err ha)]
  rw [node_26 (node_err ha)] at hk
  refine first_append b ?_
  simp only [isN, Bool.and_eq_false_iff, beq_eq_false_iff_ne]
  exact hk
theorem choose_append (v : Ot) : ∀ (p r : List Ot), p.length % 2 = 0 → choose (p ++ bo true :: v :: r) = choose (p ++ [bo true, v])
  | [], r, _ => by simp [choose, isT]
  | [o], _, h => by simp at h
  | c :: w :: p, r, h => by
    have hl : p.length % 2 = 0 := by simp at h; omega
    have := choose_append v p r hl
    simp only [List.cons_append, choose, this]
theorem law_case {p r : List Ot} (v : Ot) (hp : p.length % 2 = 0) (ha : (node 25 (p ++ [bo true, v])).e ≠ 1) (hb : (node 25 (p ++ [bo true, v] ++ r)).e ≠ 1) : node 25 (p ++ [bo true, v] ++ r) = node 25 (p ++ [bo true, v]) := by
  rw [node_25 (node_err hb), node_25 (node_err ha), List.append_assoc]
  exact choose_append v p r hp
/-! ### Comparisons -/
theorem cmpI_3 (a b : Int) : cmpI a b = -1 ∧ a < b ∨ cmpI a b = 0 ∧ a = b ∨ cmpI a b = 1 ∧ b < a := by unfold cmpI; split <;> (try split) <;> omega
theorem cb_zero : ∀ l m : List UInt8, Lib.compareBytes l m = 0 ↔ l = m
  | [], [] => by simp [Lib.compareBytes]
  | [], _ :: _ => by simp [Lib.compareBytes]
  | _ :: _, [] => by simp [Lib.compareBytes]
  | a :: l, b :: m => by
    have h := cb_zero l m
    simp only [Lib.compareBytes]
    by_cases h1 : a < b
    · rw [if_pos h1]
      constructor
      · intro h; cases h
      · intro e
        obtain ⟨rfl, -⟩ := List.cons.inj e
        rw [UInt8.lt_iff_toNat_lt] at h1; omega
    · by_cases h2 : b < a
      · rw [if_neg h1, if_pos h2]
        constructor
        · intro h; cases h
        · intro e
          obtain ⟨rfl, -⟩ := List.cons.inj e
          rw [UInt8.lt_iff_toNat_lt] at h2; omega
      · rw [if_neg h1, if_neg h2, h]
        have : a = b := UInt8.toNat.inj (by rw [UInt8.lt_iff_toNat_lt] at *; omega)
        simp [this]
theorem cb_3 (l m : List UInt8) : Lib.compareBytes l m = -1 ∨ Lib.compareBytes l m = 0 ∨ Lib.compareBytes l m = 1 := by
  induction l generalizing m with
  | nil => cases m <;> simp [Lib.compareBytes]
  | cons a l ih =>
    cases m with
    | nil => simp [Lib.compareBytes]
    | cons b m =>
      simp only [Lib.compareBytes]
      split
      · exact .inl rfl
      · split
        · exact .inr (.inr rfl)
        · exact ih m
theorem ba_inj {s t : ByteArray} : s.toList = t.toList ↔ s = t := by
  refine ⟨fun h => ?_, fun h => h ▸ rfl⟩
  rw [ByteArray.toList_eq, ByteArray.toList_eq] at h
  obtain ⟨s⟩ := s
  obtain ⟨t⟩ := t
  simp only at h
  rw [Array.toList_inj.1 h]
theorem same_iff {k n : Int} {s : ByteArray} {k' n' : Int} {s' : ByteArray} : same k n s k' n' s' = true ↔ k = k' ∧ n = n' ∧ s = s' := by simp [same, ba_inj, and_assoc]
theorem same_refl (o : Ot) : same o.k o.n o.s o.k o.n o.s = true := same_iff.2 ⟨rfl, rfl, rfl⟩
/-- Two valid values of one kind are before, the same, or after. -/
theorem cmpV_3 {k n : Int} {s : ByteArray} {n' : Int} {s' : ByteArray} (h1 : vd k n s = true) (h2 : vd k n' s' = true) :
    (cmpV k n s k n' s' = -1 ∨ cmpV k n s k n' s' = 0 ∨ cmpV k n s k n' s' = 1) ∧ (cmpV k n s k n' s' = 0 ↔ same k n s k n' s' = true) := by
  have e0 : cmpV k n s k n' s' = if k = 0 then 0 else if k = 1 ∨ k = 3 then cmpI n n' else if k = 2 then cmpT s s' else if cmpI n n' ≠ 0 then cmpI n n' else cmpT s s' := by
    unfold cmpV; rw [if_neg (by simp)]
  rw [e0, same_iff]
  unfold vd at h1 h2
  rcases vd_kind (k := k) (n := n) (s := s) (by unfold vd; exact h1) with rfl | rfl | rfl | rfl
  · simp at h1 h2
    simp [h1.1, h2.1, ba_nil h1.2, ba_nil h2.2]
  · simp at h1 h2
    have := cmpI_3 n n'
    simp [ba_nil h1, ba_nil h2]
    omega
  · simp at h1 h2
    have := cb_3 s.data.toList s'.data.toList
    have e := cb_zero s.data.toList s'.data.toList
    rw [← ByteArray.toList_eq, ← ByteArray.toList_eq, ba_inj] at e
    simp [h1.1, h2.1, cmpT]
    rw [ByteArray.toList_eq, ByteArray.toList_eq] at e
    exact ⟨this, e⟩
  · simp at h1 h2
    have := cmpI_3 n n'
    simp [ba_nil h1.2, ba_nil h2.2]
    omega
/-- Two values that a comparison takes. -/
def pairOk (a b : Ot) : Prop := a.e = 0 ∧ b.e = 0 ∧ a.ok = true ∧ b.ok = true ∧ agree a.k b.k = true
theorem fits_cmp {op : Int} (h1 : 12 ≤ op) (h2 : op ≤ 18) {a b : Ot} (h : pairOk a b) : fits op [a, b] = true := by
  obtain ⟨ha, hb, oa, ob, hk⟩ := h
  have ka := ok_kind oa; have kb := ok_kind ob
  have hs : sortOf op = (4, 2) := by
    unfold sortOf
    rw [if_neg (by omega), if_neg (by omega), if_neg (by omega), if_neg (by omega), if_pos (by omega)]
  unfold fits kind takes
  have e1 : decide (a.k ≤ 3) = true := by simp; omega
  have e2 : decide (b.k ≤ 3) = true := by simp; omega
  simp only [List.all_cons, List.all_nil, oa, ob, hs, List.map_cons, List.map_nil, List.length_cons, List.length_nil, kindOf, List.getD_cons_zero, List.getD_cons_succ, hk, e1, e2]
  rfl
theorem node_cmp {op : Int} (h1 : 12 ≤ op) (h2 : op ≤ 17) {a b : Ot} (h : pairOk a b) : node op [a, b] = if isN a || isN b then nul else cmpO op (cmpV a.k a.n a.s b.k b.n b.s) := by
  have hf := fits_cmp (op := op) h1 (by omega) h
  obtain ⟨ha, hb, _, _, _⟩ := h
  unfold node
  rw [if_pos hf, if_neg (by omega), if_neg (by omega), if_neg (by omega), if_neg (by omega)]
  have e : errs 0 [a, b] = 0 := by simp [errs, lst, ha, hb]
  unfold strictR strictO
  rw [e, if_neg (by simp), if_neg (by omega), if_neg (by omega), if_neg (by omega)]
  simp only [List.any_cons, List.any_nil, Bool.or_false, frst, scnd, List.headD_cons]
  cases isN a || isN b with
  | true => rfl
  | false =>
    simp only [Bool.false_eq_true, if_false]
    rw [if_neg (by omega), if_neg (by omega), if_neg (by omega), if_neg (by omega), if_neg (by omega)]
theorem node_same {a b : Ot} (h : pairOk a b) : node 18 [a, b] = bo (same a.k a.n a.s b.k b.n b.s) := by
  have hf := fits_cmp (op := 18) (by decide) (by decide) h
  obtain ⟨ha, hb, _, _, _⟩ := h
  unfold node
  rw [if_pos hf, if_neg (by decide), if_neg (by decide), if_neg (by decide), if_neg (by decide)]
  have e : errs 0 [a, b] = 0 := by simp [errs, lst, ha, hb]
  unfold strictR
  rw [e, if_neg (by simp), if_pos rfl]
  rfl
/-! ### IN -/
abbrev Vl := Int × Int × ByteArray
def ofV (v : Vl) : Ot := ⟨v.1, v.2.1, v.2.2, 0⟩
def vOk (v : Vl) : Bool := vd v.1 v.2.1 v.2.2
theorem ofV_ok {v : Vl} (h : vOk v = true) : (ofV v).ok = true := by unfold Ot.ok; exact h
/-- The loop of the reference's In: whether null may be, and the value. -/
def inL (x : Ot) : Bool → List Vl → Ot
  | nl, [] => if nl then nul else bo false
  | nl, v :: t => if isN x || v.1 == 0 then inL x true t else if same x.k x.n x.s v.1 v.2.1 v.2.2 then bo true else inL x nl t
theorem chain_one (nl : Bool) (t : List Ot) : chain true nl 0 (bo true :: t) = bo true := by rw [chain, if_pos (by simp [isT])]
theorem law_in (x : Vl) (hx : vOk x = true) : ∀ (l : List Vl) (nl : Bool), (∀ v ∈ l, vOk v = true ∧ agree x.1 v.1 = true) →
    inL (ofV x) nl l = chain true nl 0 (l.map fun v => node 12 [ofV x, ofV v])
  | [], nl, _ => by cases nl <;> rfl
  | v :: t, nl, h => by
    obtain ⟨hv, ha⟩ := h v (by simp)
    have ih := fun b => law_in x hx t b (fun u hu => h u (by simp [hu]))
    have hp : pairOk (ofV x) (ofV v) := ⟨rfl, rfl, ofV_ok hx, ofV_ok hv, ha⟩
    rw [inL, List.map_cons, node_cmp (by decide) (by decide) hp]
    have hn : isN (ofV v) = (v.1 == 0) := by simp [isN, ofV]
    rw [hn]
    cases hc : (isN (ofV x) || v.1 == 0) with
    | true =>
      rw [if_pos rfl, if_pos rfl, chain, if_neg (by simp), ih true]
      simp [isN, lst]
    | false =>
      rw [if_neg (by simp)]
      have hk : (ofV x).k = (ofV v).k := by
        rw [agree_iff] at ha
        simp [isN, ofV] at hc
        simp [ofV]; omega
      have h1 : vd (ofV x).k (ofV x).n (ofV x).s = true := hx
      have h2 : vd (ofV x).k (ofV v).n (ofV v).s = true := by rw [hk]; exact hv
      have h3 := (cmpV_3 h1 h2).2
      have e : cmpO 12 (cmpV (ofV x).k (ofV x).n (ofV x).s (ofV v).k (ofV v).n (ofV v).s) = bo (same (ofV x).k (ofV x).n (ofV x).s (ofV v).k (ofV v).n (ofV v).s) := by
        rw [← hk]
        have : (cmpV (ofV x).k (ofV x).n (ofV x).s (ofV x).k (ofV v).n (ofV v).s == 0) = same (ofV x).k (ofV x).n (ofV x).s (ofV x).k (ofV v).n (ofV v).s := by
          rw [Bool.eq_iff_iff, beq_iff_eq]; exact h3
        simp only [cmpO, if_true, this]
      rw [e]
      show (if same (ofV x).k (ofV x).n (ofV x).s (ofV v).k (ofV v).n (ofV v).s = true then bo true else inL (ofV x) nl t) = chain true nl 0 (bo (same (ofV x).k (ofV x).n (ofV x).s (ofV v).k (ofV v).n (ofV v).s) :: _)
      cases same (ofV x).k (ofV x).n (ofV x).s (ofV v).k (ofV v).n (ofV v).s with
      | true => rw [if_pos rfl, chain_one]
      | false =>
        rw [if_neg (by simp), chain, if_neg (by simp [isT]), ih nl]
        simp [isN, lst]
end Go.Proofs.YtdipalinddfekaaGreatDoor.K
namespace Go.Proofs.YtdipalinddfekaaGreatDoor.K
open Go.ChangeShapes Go.WideShapes Go.ChangeAt Go.RowKit Go.Proofs.YtdipalinddfekaaGreatDoor.V
/-- A call that hands back this value, and writes into nothing that was there. -/
abbrev Ret (f : FuncId) (args : Array Value) (w : World) (v : Value) : Prop := Calls Tryz.prog f args w fun e w' => e = .returned v ∧ Below w.heap.size w w'
/-- An out, as the walk carries it. -/
abbrev ov (k n : Int) (s : ByteArray) (e : Int) : Value := .agg #[.int .u8 k, .int .i64 n, .string s, .int .i64 e]
abbrev enc (o : Ot) : Value := ov o.k o.n o.s o.e
theorem valid_is : valid = vd := rfl
theorem ret_v {a b : Value} (h : a = b) : Ending.returned a = .returned b := by rw [h]
theorem c_null (w : World) : Ret 54 #[] w (ov 0 0 ⟨#[]⟩ 0) := by
  go_enter Tryz.func54, Tryz.ntmps54
  go_wp2
  exact bodyPost_ret (v := ov 0 0 ⟨#[]⟩ 0) (by simp [results, Tryz.results54, go_sem, *]) rfl ⟨rfl, by repeat (first | exact Below.refl _ _ | assumption | (refine bel_trans ?_ (by assumption)) | (with_reducible apply bel_alloc) | (with_reducible apply Below.drew) | apply bel_alloc | apply Below.drew | refine bel_set ?_ (by simp; try omega) _)⟩
theorem c_truth (b : Bool) (w : World) : Ret 47 #[.bool b] w (ov 3 (if b then 1 else 0) ⟨#[]⟩ 0) := by
  cases b
  · go_enter Tryz.func47, Tryz.ntmps47
    go_wp2_with fail
    refine (c_Bool_f _).mono ?_; rintro e w1 ⟨rfl, hbw1⟩; obtain ⟨hcw1, hfw1⟩ := bcell hbw1; have hzw1 := hbw1.size; (try simp [World.drew] at hzw1)
    go_wp2
    exact bodyPost_ret (v := ov 3 0 ⟨#[]⟩ 0) (by simp [results, Tryz.results47, go_sem, *]) rfl ⟨rfl, by repeat (first | exact Below.refl _ _ | assumption | (refine bel_trans ?_ (by assumption)) | (with_reducible apply bel_alloc) | (with_reducible apply Below.drew) | apply bel_alloc | apply Below.drew | refine bel_set ?_ (by simp; try omega) _)⟩
  · go_enter Tryz.func47, Tryz.ntmps47
    go_wp2_with fail
    refine (c_Bool_t _).mono ?_; rintro e w1 ⟨rfl, hbw1⟩; obtain ⟨hcw1, hfw1⟩ := bcell hbw1; have hzw1 := hbw1.size; (try simp [World.drew] at hzw1)
    go_wp2
    exact bodyPost_ret (v := ov 3 1 ⟨#[]⟩ 0) (by simp [results, Tryz.results47, go_sem, *]) rfl ⟨rfl, by repeat (first | exact Below.refl _ _ | assumption | (refine bel_trans ?_ (by assumption)) | (with_reducible apply bel_alloc) | (with_reducible apply Below.drew) | apply bel_alloc | apply Below.drew | refine bel_set ?_ (by simp; try omega) _)⟩
theorem c_failing (e : Int) (w : World) : Ret 24 #[.int .i64 e] w (ov 0 0 ⟨#[]⟩ e) := by
  go_enter Tryz.func24, Tryz.ntmps24
  go_wp2
  exact bodyPost_ret (v := ov 0 0 ⟨#[]⟩ e) (by simp [results, Tryz.results24, go_sem, *]) rfl ⟨rfl, by repeat (first | exact Below.refl _ _ | assumption | (refine bel_trans ?_ (by assumption)) | (with_reducible apply bel_alloc) | (with_reducible apply Below.drew) | apply bel_alloc | apply Below.drew | refine bel_set ?_ (by simp; try omega) _)⟩
theorem r_Fail (e : Int) (w : World) : Ret 11 #[.int .i64 e] w (ov 0 0 ⟨#[]⟩ e) := by
  go_enter Tryz.func11, Tryz.ntmps11
  go_wp2
  exact bodyPost_ret (v := ov 0 0 ⟨#[]⟩ e) (by simp [results, Tryz.results11, go_sem, *]) rfl ⟨rfl, by repeat (first | exact Below.refl _ _ | assumption | (refine bel_trans ?_ (by assumption)) | (with_reducible apply bel_alloc) | (with_reducible apply Below.drew) | apply bel_alloc | apply Below.drew | refine bel_set ?_ (by simp; try omega) _)⟩
theorem r_Bool5 (b : Bool) (w : World) : Ret 17 #[.bool b] w (ov 3 (if b then 1 else 0) ⟨#[]⟩ 0) := by
  cases b
  · go_enter Tryz.func17, Tryz.ntmps17
    go_wp2_with fail
    refine (r_Bool false _).mono ?_; rintro e w1 ⟨rfl, hbw1⟩; obtain ⟨hcw1, hfw1⟩ := bcell hbw1; have hzw1 := hbw1.size; (try simp [World.drew] at hzw1)
    go_wp2
    exact bodyPost_ret (v := ov 3 0 ⟨#[]⟩ 0) (by simp [results, Tryz.results17, go_sem, *]) rfl ⟨rfl, by repeat (first | exact Below.refl _ _ | assumption | (refine bel_trans ?_ (by assumption)) | (with_reducible apply bel_alloc) | (with_reducible apply Below.drew) | apply bel_alloc | apply Below.drew | refine bel_set ?_ (by simp; try omega) _)⟩
  · go_enter Tryz.func17, Tryz.ntmps17
    go_wp2_with fail
    refine (r_Bool true _).mono ?_; rintro e w1 ⟨rfl, hbw1⟩; obtain ⟨hcw1, hfw1⟩ := bcell hbw1; have hzw1 := hbw1.size; (try simp [World.drew] at hzw1)
    go_wp2
    exact bodyPost_ret (v := ov 3 1 ⟨#[]⟩ 0) (by simp [results, Tryz.results17, go_sem, *]) rfl ⟨rfl, by repeat (first | exact Below.refl _ _ | assumption | (refine bel_trans ?_ (by assumption)) | (with_reducible apply bel_alloc) | (with_reducible apply Below.drew) | apply bel_alloc | apply Below.drew | refine bel_set ?_ (by simp; try omega) _)⟩
theorem r_IsError (e : Int) (w : World) : Ret 66 #[.int .i64 e] w (.bool (isErr e)) := by
  go_enter Tryz.func66, Tryz.ntmps66
  go_wp2
  all_goals (go_ret; exact ⟨ret_bool (by unfold isErr; simp [*]), by repeat (first | exact Below.refl _ _ | assumption | (refine bel_trans ?_ (by assumption)) | (with_reducible apply bel_alloc) | (with_reducible apply Below.drew) | apply bel_alloc | apply Below.drew | refine bel_set ?_ (by simp; try omega) _)⟩)
theorem r_Least (a b : Int) (w : World) : Ret 15 #[.int .i64 a, .int .i64 b] w (.int .i64 (lst a b)) := by
  go_enter Tryz.func15, Tryz.ntmps15
  go_wp2
  all_goals (go_ret; exact ⟨ret_int (by unfold lst; split <;> (simp_all; try omega)), by repeat (first | exact Below.refl _ _ | assumption | (refine bel_trans ?_ (by assumption)) | (with_reducible apply bel_alloc) | (with_reducible apply Below.drew) | apply bel_alloc | apply Below.drew | refine bel_set ?_ (by simp; try omega) _)⟩)
theorem r_Agree (a b : Int) (w : World) : Ret 92 #[.int .u8 a, .int .u8 b] w (.bool (agree a b)) := by
  go_enter Tryz.func92, Tryz.ntmps92
  go_wp2
  all_goals (go_ret; exact ⟨ret_bool (by first | rfl | simp [agree, *, Bool.or_assoc] | simp [agree, Bool.or_assoc]), by repeat (first | exact Below.refl _ _ | assumption | (refine bel_trans ?_ (by assumption)) | (with_reducible apply bel_alloc) | (with_reducible apply Below.drew) | apply bel_alloc | apply Below.drew | refine bel_set ?_ (by simp; try omega) _)⟩)
theorem r_isTrue (o : Ot) (w : World) : Ret 19 #[enc o] w (.bool (isT o)) := by
  go_enter Tryz.func19, Tryz.ntmps19
  go_wp2
  all_goals (go_ret; exact ⟨ret_bool (by unfold isT; simp_all), by repeat (first | exact Below.refl _ _ | assumption | (refine bel_trans ?_ (by assumption)) | (with_reducible apply bel_alloc) | (with_reducible apply Below.drew) | apply bel_alloc | apply Below.drew | refine bel_set ?_ (by simp; try omega) _)⟩)
theorem r_isNull (o : Ot) (w : World) : Ret 16 #[enc o] w (.bool (isN o)) := by
  go_enter Tryz.func16, Tryz.ntmps16
  go_wp2
  all_goals (go_ret; exact ⟨ret_bool (by unfold isN; simp_all), by repeat (first | exact Below.refl _ _ | assumption | (refine bel_trans ?_ (by assumption)) | (with_reducible apply bel_alloc) | (with_reducible apply Below.drew) | apply bel_alloc | apply Below.drew | refine bel_set ?_ (by simp; try omega) _)⟩)
theorem r_Same5 (a b : Ot) (w : World) : Ret 8 #[enc a, enc b] w (.bool (sameO a b)) := by
  have hs := fun w => r_Same a.k a.n a.s b.k b.n b.s w
  go_enter Tryz.func8, Tryz.ntmps8
  go_wp2_with (go_at_call 18; refine (hs _).mono ?_; rintro e w1 ⟨rfl, hbw1⟩; obtain ⟨hcw1, hfw1⟩ := bcell hbw1; have hzw1 := hbw1.size; (try simp [World.drew] at hzw1))
  all_goals (go_ret; exact ⟨ret_bool (by unfold sameO; simp [*]), by repeat (first | exact Below.refl _ _ | assumption | (refine bel_trans ?_ (by assumption)) | (with_reducible apply bel_alloc) | (with_reducible apply Below.drew) | apply bel_alloc | apply Below.drew | refine bel_set ?_ (by simp; try omega) _)⟩)
/-- A box of an out, and the world behind it. -/
abbrev box (W : World) (k n : Int) (s : ByteArray) (e : Int) : World := W.alloc (.cells #[.int .u8 k, .int .i64 n, .string s, .int .i64 e] 29)
end Go.Proofs.YtdipalinddfekaaGreatDoor.K
namespace Go.Proofs.YtdipalinddfekaaGreatDoor.K
open Go.ChangeShapes Go.WideShapes Go.ChangeAt Go.RowKit Go.Proofs.YtdipalinddfekaaGreatDoor.V
theorem c_truth_t (w : World) : Ret 47 #[.bool true] w (ov 3 1 ⟨#[]⟩ 0) := c_truth true w
theorem c_truth_f (w : World) : Ret 47 #[.bool false] w (ov 3 0 ⟨#[]⟩ 0) := c_truth false w
set_option maxHeartbeats 1000000 in
theorem c_not_b (n : Int) (hn : n = 0 ∨ n = 1) (w : World) : Ret 52 #[ov 3 n ⟨#[]⟩ 0] w (ov 3 (if n = 0 then 1 else 0) ⟨#[]⟩ 0) := by
  rcases hn with rfl | rfl
  · go_enter Tryz.func52, Tryz.ntmps52
    go_wp2
    go_region_held3 (fun w' => w'.cell? ⟨w.heap.size, 0, none⟩ = some (.int .u8 3) ∧ w'.cell? ⟨w.heap.size, 1, none⟩ = some (.int .i64 0) ∧ w'.cell? ⟨w.heap.size, 2, none⟩ = some (.string ⟨#[]⟩) ∧ (w'.cell? ⟨w.heap.size + 1, 0, none⟩).isSome = true ∧ (w'.cell? ⟨w.heap.size + 1, 1, none⟩).isSome = true ∧ (w'.cell? ⟨w.heap.size + 1, 2, none⟩).isSome = true ∧ (w'.cell? ⟨w.heap.size + 1, 3, none⟩).isSome = true ∧ w'.frozen? ⟨w.heap.size + 1, 0, none⟩ = false ∧ w'.frozen? ⟨w.heap.size + 1, 1, none⟩ = false ∧ w'.frozen? ⟨w.heap.size + 1, 2, none⟩ = false ∧ w'.frozen? ⟨w.heap.size + 1, 3, none⟩ = false) (simp [*, go_sem, World.cell?_alloc_past]) (first | (go_at_call 58; refine (c_Bool_f _).mono ?_; rintro e w1 ⟨rfl, hbw1⟩; obtain ⟨hcw1, hfw1⟩ := bcell hbw1; have hzw1 := hbw1.size; (try simp [World.drew] at hzw1); have hk0w1 : w.heap.size < w1.heap.size := (by omega); have hk1w1 : w.heap.size + 1 < w1.heap.size := (by omega)) | (go_at_call 47; refine (c_truth_t _).mono ?_; rintro e w2 ⟨rfl, hbw2⟩; obtain ⟨hcw2, hfw2⟩ := bcell hbw2; have hzw2 := hbw2.size; (try simp [World.drew] at hzw2); have hk0w2 : w.heap.size < w2.heap.size := (by omega); have hk1w2 : w.heap.size + 1 < w2.heap.size := (by omega)))
    go_wp2
    exact bodyPost_ret (v := ov 3 1 ⟨#[]⟩ 0) (by simp [results, Tryz.results52, go_sem, *]) rfl ⟨rfl, by repeat (first | exact Below.refl _ _ | assumption | (refine bel_trans ?_ (by assumption)) | (with_reducible apply bel_alloc) | (with_reducible apply Below.drew) | apply bel_alloc | apply Below.drew | refine bel_set ?_ (by simp; try omega) _)⟩
  · go_enter Tryz.func52, Tryz.ntmps52
    go_wp2
    go_region_held3 (fun w' => w'.cell? ⟨w.heap.size, 0, none⟩ = some (.int .u8 3) ∧ w'.cell? ⟨w.heap.size, 1, none⟩ = some (.int .i64 1) ∧ w'.cell? ⟨w.heap.size, 2, none⟩ = some (.string ⟨#[]⟩) ∧ (w'.cell? ⟨w.heap.size + 1, 0, none⟩).isSome = true ∧ (w'.cell? ⟨w.heap.size + 1, 1, none⟩).isSome = true ∧ (w'.cell? ⟨w.heap.size + 1, 2, none⟩).isSome = true ∧ (w'.cell? ⟨w.heap.size + 1, 3, none⟩).isSome = true ∧ w'.frozen? ⟨w.heap.size + 1, 0, none⟩ = false ∧ w'.frozen? ⟨w.heap.size + 1, 1, none⟩ = false ∧ w'.frozen? ⟨w.heap.size + 1, 2, none⟩ = false ∧ w'.frozen? ⟨w.heap.size + 1, 3, none⟩ = false) (simp [*, go_sem, World.cell?_alloc_past]) (first | (go_at_call 58; refine (c_Bool_f _).mono ?_; rintro e w1 ⟨rfl, hbw1⟩; obtain ⟨hcw1, hfw1⟩ := bcell hbw1; have hzw1 := hbw1.size; (try simp [World.drew] at hzw1); have hk0w1 : w.heap.size < w1.heap.size := (by omega); have hk1w1 : w.heap.size + 1 < w1.heap.size := (by omega)) | (go_at_call 47; refine (c_truth_f _).mono ?_; rintro e w2 ⟨rfl, hbw2⟩; obtain ⟨hcw2, hfw2⟩ := bcell hbw2; have hzw2 := hbw2.size; (try simp [World.drew] at hzw2); have hk0w2 : w.heap.size < w2.heap.size := (by omega); have hk1w2 : w.heap.size + 1 < w2.heap.size := (by omega)))
    go_wp2
    exact bodyPost_ret (v := ov 3 0 ⟨#[]⟩ 0) (by simp [results, Tryz.results52, go_sem, *]) rfl ⟨rfl, by repeat (first | exact Below.refl _ _ | assumption | (refine bel_trans ?_ (by assumption)) | (with_reducible apply bel_alloc) | (with_reducible apply Below.drew) | apply bel_alloc | apply Below.drew | refine bel_set ?_ (by simp; try omega) _)⟩
theorem c_not_n (k n : Int) (s : ByteArray) (e : Int) (hk : (k != 3) = true) (w : World) : Ret 52 #[ov k n s e] w (ov k n s e) := by
  go_enter Tryz.func52, Tryz.ntmps52
  go_wp2
  exact bodyPost_ret (v := ov k n s e) (by simp [results, Tryz.results52, go_sem, *]) rfl ⟨rfl, by repeat (first | exact Below.refl _ _ | assumption | (refine bel_trans ?_ (by assumption)) | (with_reducible apply bel_alloc) | (with_reducible apply Below.drew) | apply bel_alloc | apply Below.drew | refine bel_set ?_ (by simp; try omega) _)⟩
theorem c_place_f (w : World) : Ret 50 #[ov 3 0 ⟨#[]⟩ 0] w (.int .i64 0) := by
  go_enter Tryz.func50, Tryz.ntmps50
  go_wp2_with fail
  refine (c_truth_f _).mono ?_; rintro e w1 ⟨rfl, hbw1⟩; obtain ⟨hcw1, hfw1⟩ := bcell hbw1; have hzw1 := hbw1.size; (try simp [World.drew] at hzw1)
  go_wp2_with fail
  go_ret
  exact ⟨rfl, by repeat (first | exact Below.refl _ _ | assumption | (refine bel_trans ?_ (by assumption)) | (with_reducible apply bel_alloc) | (with_reducible apply Below.drew) | apply bel_alloc | apply Below.drew | refine bel_set ?_ (by simp; try omega) _)⟩
theorem c_place_n (w : World) : Ret 50 #[ov 0 0 ⟨#[]⟩ 0] w (.int .i64 1) := by
  go_enter Tryz.func50, Tryz.ntmps50
  go_wp2_with fail
  refine (c_truth_f _).mono ?_; rintro e w1 ⟨rfl, hbw1⟩; obtain ⟨hcw1, hfw1⟩ := bcell hbw1; have hzw1 := hbw1.size; (try simp [World.drew] at hzw1)
  go_wp2_with fail
  refine (c_null _).mono ?_; rintro e w2 ⟨rfl, hbw2⟩; obtain ⟨hcw2, hfw2⟩ := bcell hbw2; have hzw2 := hbw2.size; (try simp [World.drew] at hzw2)
  go_wp2_with fail
  go_ret
  exact ⟨rfl, by repeat (first | exact Below.refl _ _ | assumption | (refine bel_trans ?_ (by assumption)) | (with_reducible apply bel_alloc) | (with_reducible apply Below.drew) | apply bel_alloc | apply Below.drew | refine bel_set ?_ (by simp; try omega) _)⟩
theorem c_place_t (w : World) : Ret 50 #[ov 3 1 ⟨#[]⟩ 0] w (.int .i64 3) := by
  go_enter Tryz.func50, Tryz.ntmps50
  go_wp2_with fail
  refine (c_truth_f _).mono ?_; rintro e w1 ⟨rfl, hbw1⟩; obtain ⟨hcw1, hfw1⟩ := bcell hbw1; have hzw1 := hbw1.size; (try simp [World.drew] at hzw1)
  go_wp2_with fail
  refine (c_null _).mono ?_; rintro e w2 ⟨rfl, hbw2⟩; obtain ⟨hcw2, hfw2⟩ := bcell hbw2; have hzw2 := hbw2.size; (try simp [World.drew] at hzw2)
  go_wp2_with fail
  refine (c_truth_t _).mono ?_; rintro e w3 ⟨rfl, hbw3⟩; obtain ⟨hcw3, hfw3⟩ := bcell hbw3; have hzw3 := hbw3.size; (try simp [World.drew] at hzw3)
  go_wp2_with fail
  go_ret
  exact ⟨rfl, by repeat (first | exact Below.refl _ _ | assumption | (refine bel_trans ?_ (by assumption)) | (with_reducible apply bel_alloc) | (with_reducible apply Below.drew) | apply bel_alloc | apply Below.drew | refine bel_set ?_ (by simp; try omega) _)⟩
theorem c_place_e (e : Int) (he : (e == 0) = false) (w : World) : Ret 50 #[ov 0 0 ⟨#[]⟩ e] w (.int .i64 2) := by
  go_enter Tryz.func50, Tryz.ntmps50
  go_wp2_with fail
  refine (c_truth_f _).mono ?_; rintro e w1 ⟨rfl, hbw1⟩; obtain ⟨hcw1, hfw1⟩ := bcell hbw1; have hzw1 := hbw1.size; (try simp [World.drew] at hzw1)
  go_wp2_with fail
  refine (c_null _).mono ?_; rintro e w2 ⟨rfl, hbw2⟩; obtain ⟨hcw2, hfw2⟩ := bcell hbw2; have hzw2 := hbw2.size; (try simp [World.drew] at hzw2)
  go_wp2_with fail
  refine (c_truth_t _).mono ?_; rintro e w3 ⟨rfl, hbw3⟩; obtain ⟨hcw3, hfw3⟩ := bcell hbw3; have hzw3 := hbw3.size; (try simp [World.drew] at hzw3)
  go_wp2_with fail
  go_ret
  exact ⟨rfl, by repeat (first | exact Below.refl _ _ | assumption | (refine bel_trans ?_ (by assumption)) | (with_reducible apply bel_alloc) | (with_reducible apply Below.drew) | apply bel_alloc | apply Below.drew | refine bel_set ?_ (by simp; try omega) _)⟩
end Go.Proofs.YtdipalinddfekaaGreatDoor.K
namespace Go.Proofs.YtdipalinddfekaaGreatDoor.K
open Go.ChangeShapes Go.WideShapes Go.ChangeAt Go.RowKit Go.Proofs.YtdipalinddfekaaGreatDoor.V
/-- A slice reads as these outs. -/
structure Outs (W : World) (a : Option Addr) (n : Nat) (l : List Ot) : Prop where
  len : n = l.length
  at_ : ∀ k, k < n → ∃ g p o, a = some ⟨g, p, none⟩ ∧ l[k]? = some o ∧ g < W.heap.size ∧ W.cell? ⟨g, p + k * 4, none⟩ = some (.int .u8 o.k) ∧ W.cell? ⟨g, p + k * 4 + 1, none⟩ = some (.int .i64 o.n) ∧ W.cell? ⟨g, p + k * 4 + 2, none⟩ = some (.string o.s) ∧ W.cell? ⟨g, p + k * 4 + 3, none⟩ = some (.int .i64 o.e)
theorem Outs.below {w w' : World} {a : Option Addr} {n : Nat} {l : List Ot} (h : Outs w a n l) (hb : Below w.heap.size w w') : Outs w' a n l :=
  ⟨h.len, fun k hk => by
    obtain ⟨g, p, o, h1, h2, h3, h4, h5, h6, h7⟩ := h.at_ k hk
    exact ⟨g, p, o, h1, h2, Nat.lt_of_lt_of_le h3 hb.size, (hb.cell (p := ⟨g, _, none⟩) h3).trans h4, (hb.cell (p := ⟨g, _, none⟩) h3).trans h5, (hb.cell (p := ⟨g, _, none⟩) h3).trans h6, (hb.cell (p := ⟨g, _, none⟩) h3).trans h7⟩⟩
/-- The least error. -/
theorem errs_drop {l : List Ot} {k : Nat} {o : Ot} (h : l[k]? = some o) (e : Int) : errs e (l.drop k) = errs (lst e o.e) (l.drop (k + 1)) := by
  rw [List.drop_eq_getElem_cons (List.getElem?_eq_some_iff.1 h).1, errs, (List.getElem?_eq_some_iff.1 h).2]
theorem errs_end {l : List Ot} {k : Nat} (h : l.length ≤ k) (e : Int) : errs e (l.drop k) = e := by rw [List.drop_eq_nil_of_le h]; rfl
set_option maxHeartbeats 1000000 in
theorem c_least (a : Option Addr) (n c : Nat) (l : List Ot) (hn : n ≤ 9223372036854775807) (w : World) (h : Outs w a n l) : Ret 57 #[.slice a n c] w (.int .i64 (errs 0 l)) := by
  have HL := Lib.hid h
  clear h
  go_enter Tryz.func57, Tryz.ntmps57
  go_wp2
  go_loopw [3, 8] (fun s3 s8 wr => ∃ (k : Nat) (e : Int), k ≤ n ∧ s3 = .int .i64 e ∧ s8 = .int .i64 k ∧ Hid (errs e (l.drop k) = errs 0 l) ∧ Hid (Below w.heap.size w wr)) (fun _ s8 _ => n - (intOf s8).toNat)
  case atStart => exact ⟨0, 0, by omega, rfl, rfl, rfl, Below.refl _ _⟩
  case round =>
    obtain ⟨k, e, hk, rfl, rfl, HI, HB⟩ := hrel
    by_cases hlt : k < n
    · obtain ⟨g, p, o, rfl, hlk, hg, c0, c1, c2, c3⟩ := (HL.out.below HB.out).at_ k hlt
      have HI2 : Hid (errs (lst e o.e) (l.drop (k + 1)) = errs 0 l) := (errs_drop hlk e).symm.trans HI.out
      clear HI hlk
      go_wp2
      all_goals
        refine ⟨⟨k + 1, _, by omega, rfl, by go_num, ?_, bel_alloc HB.out _⟩, by simp [intOf]; omega⟩
        show errs _ _ = _
        rw [← HI2.out]
        congr 1
        unfold lst
        split <;> (simp_all; try omega)
    · have he : errs 0 l = e := by rw [← HI.out, errs_end (by have := HL.out.len; omega)]
      have HE := Lib.hid he
      clear he HI
      go_wp2
      go_ret
      exact ⟨ret_int HE.out.symm, HB.out⟩
/-- The first that a predicate takes. -/
def idx {α : Type} (p : α → Bool) : List α → Nat → Int
  | [], _ => -1
  | x :: t, k => if p x then k else idx p t (k + 1)
theorem idx_drop {α : Type} {p : α → Bool} {l : List α} {k : Nat} {o : α} (h : l[k]? = some o) (i : Nat) : idx p (l.drop k) i = if p o then (i : Int) else idx p (l.drop (k + 1)) (i + 1) := by
  rw [List.drop_eq_getElem_cons (List.getElem?_eq_some_iff.1 h).1, idx, (List.getElem?_eq_some_iff.1 h).2]
theorem idx_end {α : Type} {p : α → Bool} {l : List α} {k : Nat} (h : l.length ≤ k) (i : Nat) : idx p (l.drop k) i = -1 := by rw [List.drop_eq_nil_of_le h]; rfl
theorem idx_any {α : Type} {p : α → Bool} : ∀ (l : List α) (k : Nat), decide (idx p l k ≥ 0) = l.any p
  | [], k => rfl
  | x :: t, k => by
    rw [idx, List.any_cons]
    cases p x with
    | true => simp
    | false => simpa using idx_any t (k + 1)
/-- A function value is entered. -/
abbrev EntersF (F : Nat) : Prop := ∀ (args : Array Value) (w : World), (callFunc F args).run Tryz.prog w = .ok (.enter F args) w
set_option maxHeartbeats 1000000 in
theorem l_IndexOut (F : Nat) (ca : Array Value) (HE : EntersF F) (p : Ot → Bool) (a : Option Addr) (n c : Nat) (l : List Ot) (hn : n ≤ 9223372036854775807) (w : World) (h : Outs w a n l)
    (hF : ∀ o ∈ l, ∀ w', Below w.heap.size w w' → Ret F (#[enc o] ++ ca) w' (.bool (p o))) : Ret 55 #[.slice a n c, .func (.func F) #[] ca] w (.int .i64 (idx p l 0)) := by
  have HL := Lib.hid h
  have HP := Lib.hid hF
  clear h hF
  go_enter Tryz.func55, Tryz.ntmps55
  go_wp2
  go_loopw [8] (fun s8 wr => ∃ (k : Nat), k ≤ n ∧ s8 = .int .i64 k ∧ Hid (idx p (l.drop k) k = idx p l 0) ∧ Hid (Below w.heap.size w wr)) (fun s8 _ => n - (intOf s8).toNat)
  case atStart => exact ⟨0, by omega, rfl, rfl, Below.refl _ _⟩
  case round =>
    obtain ⟨k, hk, rfl, HI, HB⟩ := hrel
    by_cases hlt : k < n
    · obtain ⟨g, q, o, rfl, hlk, hg, c0, c1, c2, c3⟩ := (HL.out.below HB.out).at_ k hlt
      have HI2 := Lib.hid ((idx_drop hlk k).symm.trans HI.out)
      have hx := HP.out o (List.mem_of_getElem? hlk)
      clear HI hlk
      go_wp2_with fail
      refine (hx _ HB.out).mono ?_
      rintro e w1 ⟨rfl, hb1⟩
      have HB1 := Lib.hid (bel_trans HB.out hb1)
      clear hb1 hx
      cases hp : p o with
      | true =>
        rw [hp, if_pos rfl] at HI2
        clear hp
        go_wp2
        go_ret
        exact ⟨ret_int HI2.out, HB1.out⟩
      | false =>
        rw [hp, if_neg (by simp)] at HI2
        clear hp
        go_wp2
        refine ⟨⟨k + 1, by omega, by go_num, HI2.out, HB1.out⟩, by simp [intOf]; omega⟩
    · have he : idx p l 0 = -1 := by rw [← HI.out, idx_end (by have := HL.out.len; omega)]
      have HE := Lib.hid he
      clear he HI
      go_wp2
      go_ret
      exact ⟨ret_int HE.out.symm, HB.out⟩
end Go.Proofs.YtdipalinddfekaaGreatDoor.K
namespace Go.Proofs.YtdipalinddfekaaGreatDoor.K
open Go.ChangeShapes Go.WideShapes Go.ChangeAt Go.RowKit Go.Proofs.YtdipalinddfekaaGreatDoor.V
/-- A slice of one cell an element reads as this list. -/
structure One {α : Type} (f : α → Value) (W : World) (a : Option Addr) (n : Nat) (l : List α) : Prop where
  len : n = l.length
  at_ : ∀ k, k < n → ∃ g p x, a = some ⟨g, p, none⟩ ∧ l[k]? = some x ∧ g < W.heap.size ∧ W.cell? ⟨g, p + k, none⟩ = some (f x)
theorem One.below {α : Type} {f : α → Value} {w w' : World} {a : Option Addr} {n : Nat} {l : List α} (h : One f w a n l) (hb : Below w.heap.size w w') : One f w' a n l :=
  ⟨h.len, fun k hk => by
    obtain ⟨g, p, o, h1, h2, h3, h4⟩ := h.at_ k hk
    exact ⟨g, p, o, h1, h2, Nat.lt_of_lt_of_le h3 hb.size, (hb.cell (p := ⟨g, _, none⟩) h3).trans h4⟩⟩
abbrev eI (e : Int) : Value := .int .i64 e
abbrev kI (e : Int) : Value := .int .u8 e
set_option maxHeartbeats 1000000 in
theorem l_IndexErr (x : Int) (a : Option Addr) (n c : Nat) (l : List Int) (hn : n ≤ 9223372036854775807) (w : World) (h : One eI w a n l) : Ret 113 #[.slice a n c, .int .i64 x] w (.int .i64 (idx (x == ·) l 0)) := by
  have HL := Lib.hid h
  clear h
  go_enter Tryz.func113, Tryz.ntmps113
  go_wp2
  go_loopw [8] (fun s8 wr => ∃ (k : Nat), k ≤ n ∧ s8 = .int .i64 k ∧ Hid (idx (x == ·) (l.drop k) k = idx (x == ·) l 0) ∧ Hid (Below w.heap.size w wr)) (fun s8 _ => n - (intOf s8).toNat)
  case atStart => exact ⟨0, by omega, rfl, rfl, Below.refl _ _⟩
  case round =>
    obtain ⟨k, hk, rfl, HI, HB⟩ := hrel
    by_cases hlt : k < n
    · obtain ⟨g, q, o, rfl, hlk, hg, c0⟩ := (HL.out.below HB.out).at_ k hlt
      have HI2 : Hid ((if (x == o) = true then (k : Int) else idx (x == ·) (l.drop (k + 1)) (k + 1)) = idx (x == ·) l 0) := (idx_drop hlk k).symm.trans HI.out
      clear HI hlk
      cases hp : (x == o) with
      | true =>
        rw [hp, if_pos rfl] at HI2
        go_wp2
        go_ret
        exact ⟨ret_int HI2.out, HB.out⟩
      | false =>
        rw [hp, if_neg (by simp)] at HI2
        go_wp2
        refine ⟨⟨k + 1, by omega, by go_num, HI2.out, HB.out⟩, by simp [intOf]; omega⟩
    · have he : idx (x == ·) l 0 = -1 := by rw [← HI.out, idx_end (by have := HL.out.len; omega)]
      have HE := Lib.hid he
      clear he HI
      go_wp2
      go_ret
      exact ⟨ret_int HE.out.symm, HB.out⟩
theorem l_ContainsErr (x : Int) (a : Option Addr) (n c : Nat) (l : List Int) (hn : n ≤ 9223372036854775807) (w : World) (h : One eI w a n l) : Ret 98 #[.slice a n c, .int .i64 x] w (.bool (l.any (x == ·))) := by
  have HI := Lib.hid (idx_any (p := (x == ·)) l 0)
  go_enter Tryz.func98, Tryz.ntmps98
  go_wp2_with fail
  refine (l_IndexErr x a n c l hn _ h).mono ?_; rintro e w1 ⟨rfl, hbw1⟩; obtain ⟨hcw1, hfw1⟩ := bcell hbw1; have hzw1 := hbw1.size; (try simp [World.drew] at hzw1)
  go_wp2
  go_ret
  exact ⟨ret_bool HI.out, by repeat (first | exact Below.refl _ _ | assumption | (refine bel_trans ?_ (by assumption)) | (with_reducible apply bel_alloc) | (with_reducible apply Below.drew) | apply bel_alloc | apply Below.drew | refine bel_set ?_ (by simp; try omega) _)⟩
theorem four_err (b : Nat) (W : World) (hb : b < W.heap.size) (h0 : W.cell? ⟨b, 0, none⟩ = some (.int .i64 3)) (h1 : W.cell? ⟨b, 1, none⟩ = some (.int .i64 4)) (h2 : W.cell? ⟨b, 2, none⟩ = some (.int .i64 5)) (h3 : W.cell? ⟨b, 3, none⟩ = some (.int .i64 6)) :
    One eI W (some ⟨b, 0, none⟩) 4 [3, 4, 5, 6] :=
  ⟨rfl, fun k hk => by
    have : k = 0 ∨ k = 1 ∨ k = 2 ∨ k = 3 := by omega
    rcases this with rfl | rfl | rfl | rfl
    · exact ⟨b, 0, 3, rfl, rfl, hb, h0⟩
    · exact ⟨b, 0, 4, rfl, rfl, hb, h1⟩
    · exact ⟨b, 0, 5, rfl, rfl, hb, h2⟩
    · exact ⟨b, 0, 6, rfl, rfl, hb, h3⟩⟩
theorem c_isFailure (e : Int) (w : World) : Ret 77 #[.int .i64 e] w (.bool (isErr e)) := by
  go_enter Tryz.func77, Tryz.ntmps77
  go_wp2_with fail
  refine (l_ContainsErr e _ _ _ [3, 4, 5, 6] (by decide) _ (four_err _ _ (by simp) (by simp [go_sem]) (by simp [go_sem]) (by simp [go_sem]) (by simp [go_sem]))).mono ?_; rintro e w1 ⟨rfl, hbw1⟩; obtain ⟨hcw1, hfw1⟩ := bcell hbw1; have hzw1 := hbw1.size; (try simp [World.drew] at hzw1)
  go_wp2
  go_ret
  exact ⟨ret_bool (by simp [isErr, Bool.or_assoc]), by repeat (first | exact Below.refl _ _ | assumption | (refine bel_trans ?_ (by assumption)) | (with_reducible apply bel_alloc) | (with_reducible apply Below.drew) | apply bel_alloc | apply Below.drew | refine bel_set ?_ (by simp; try omega) _)⟩
theorem c_isValid (o : Ot) (w : World) : Ret 46 #[enc o] w (.bool o.ok) := by
  cases he : isErr o.e with
  | true =>
    have hx : (o.e = 0) = False := by simp; intro h; rw [h] at he; cases he
    go_enter Tryz.func46, Tryz.ntmps46
    go_wp2_with fail
    refine (c_isFailure _ _).mono ?_; rintro e w1 ⟨rfl, hbw1⟩; obtain ⟨hcw1, hfw1⟩ := bcell hbw1; have hzw1 := hbw1.size; (try simp [World.drew] at hzw1)
    rw [he]
    go_wp2
    all_goals (go_ret; exact ⟨ret_bool (by simp [Ot.ok, hx, he, ba_nil', *]), by repeat (first | exact Below.refl _ _ | assumption | (refine bel_trans ?_ (by assumption)) | (with_reducible apply bel_alloc) | (with_reducible apply Below.drew) | apply bel_alloc | apply Below.drew | refine bel_set ?_ (by simp; try omega) _)⟩)
  | false =>
    by_cases h0 : o.e = 0
    · go_enter Tryz.func46, Tryz.ntmps46
      go_wp2_with fail
      refine (c_isFailure _ _).mono ?_; rintro e w1 ⟨rfl, hbw1⟩; obtain ⟨hcw1, hfw1⟩ := bcell hbw1; have hzw1 := hbw1.size; (try simp [World.drew] at hzw1)
      rw [show isErr 0 = false from rfl]
      go_wp2_with (go_at_call 78; refine (c_Valid _ _ _ _).mono ?_; rintro e w2 ⟨rfl, hbw2⟩; obtain ⟨hcw2, hfw2⟩ := bcell hbw2; have hzw2 := hbw2.size; (try simp [World.drew] at hzw2))
      all_goals (go_ret; exact ⟨ret_bool (by simp [Ot.ok, h0, valid_is]), by repeat (first | exact Below.refl _ _ | assumption | (refine bel_trans ?_ (by assumption)) | (with_reducible apply bel_alloc) | (with_reducible apply Below.drew) | apply bel_alloc | apply Below.drew | refine bel_set ?_ (by simp; try omega) _)⟩)
    · go_enter Tryz.func46, Tryz.ntmps46
      go_wp2_with fail
      refine (c_isFailure _ _).mono ?_; rintro e w1 ⟨rfl, hbw1⟩; obtain ⟨hcw1, hfw1⟩ := bcell hbw1; have hzw1 := hbw1.size; (try simp [World.drew] at hzw1)
      rw [he]
      go_wp2_with (go_at_call 78; refine (c_Valid _ _ _ _).mono ?_; rintro e w2 ⟨rfl, hbw2⟩; obtain ⟨hcw2, hfw2⟩ := bcell hbw2; have hzw2 := hbw2.size; (try simp [World.drew] at hzw2))
      all_goals (go_ret; exact ⟨ret_bool (by simp [Ot.ok, h0, he]), by repeat (first | exact Below.refl _ _ | assumption | (refine bel_trans ?_ (by assumption)) | (with_reducible apply bel_alloc) | (with_reducible apply Below.drew) | apply bel_alloc | apply Below.drew | refine bel_set ?_ (by simp; try omega) _)⟩)
theorem r_ValidO (o : Ot) (w : World) : Ret 31 #[enc o] w (.bool o.ok) := by
  by_cases h0 : o.e = 0
  · go_enter Tryz.func31, Tryz.ntmps31
    go_wp2_with (go_at_call 65; refine (r_Valid _ _ _ _).mono ?_; rintro e w2 ⟨rfl, hbw2⟩; obtain ⟨hcw2, hfw2⟩ := bcell hbw2; have hzw2 := hbw2.size; (try simp [World.drew] at hzw2))
    all_goals (go_ret; exact ⟨ret_bool (by simp [Ot.ok, h0, valid_is]), by repeat (first | exact Below.refl _ _ | assumption | (refine bel_trans ?_ (by assumption)) | (with_reducible apply bel_alloc) | (with_reducible apply Below.drew) | apply bel_alloc | apply Below.drew | refine bel_set ?_ (by simp; try omega) _)⟩)
  · go_enter Tryz.func31, Tryz.ntmps31
    go_wp2_with (first | (go_at_call 66; refine (r_IsError _ _).mono ?_; rintro e w2 ⟨rfl, hbw2⟩; obtain ⟨hcw2, hfw2⟩ := bcell hbw2; have hzw2 := hbw2.size; (try simp [World.drew] at hzw2)) | (go_at_call 18; refine (r_Same _ _ _ _ _ _ _).mono ?_; rintro e w3 ⟨rfl, hbw3⟩; obtain ⟨hcw3, hfw3⟩ := bcell hbw3; have hzw3 := hbw3.size; (try simp [World.drew] at hzw3)))
    all_goals (go_ret; exact ⟨ret_bool (by simp [Ot.ok, h0, same, *]), by repeat (first | exact Below.refl _ _ | assumption | (refine bel_trans ?_ (by assumption)) | (with_reducible apply bel_alloc) | (with_reducible apply Below.drew) | apply bel_alloc | apply Below.drew | refine bel_set ?_ (by simp; try omega) _)⟩)
end Go.Proofs.YtdipalinddfekaaGreatDoor.K
namespace Go.Proofs.YtdipalinddfekaaGreatDoor.K
open Go.ChangeShapes Go.WideShapes Go.ChangeAt Go.RowKit Go.Proofs.YtdipalinddfekaaGreatDoor.V
/-! ### The program's table -/
/-- The fewest and the most kids, the kind of the kids, that of the node. -/
def sg (op : Int) : Int × Int × Int × Int :=
  if op = 4 then (1, 1, 1, 1) else if 5 ≤ op ∧ op ≤ 9 then (2, 2, 1, 1) else if op = 10 then (2, 2, 2, 2) else if op = 11 then (1, 1, 2, 1) else if 12 ≤ op ∧ op ≤ 18 then (2, 2, 0, 3) else if op = 19 then (2, 2, 2, 3)
  else if op = 20 then (1, 1, 0, 3) else if op = 21 ∨ op = 22 then (1, 1, 3, 3) else if op = 23 ∨ op = 24 then (0, 9223372036854775807, 3, 3) else if op = 25 then (2, 9223372036854775807, 0, 0) else if op = 26 then (1, 9223372036854775807, 0, 0) else (0, 0, 0, 0)
def has (op : Int) : Bool := decide (4 ≤ op ∧ op ≤ 26)
def kindP (op : Int) (l : List Int) : Int × Int :=
  if !has op || decide ((l.length : Int) < (sg op).1) || decide ((l.length : Int) > (sg op).2.1) || l.any (fun k => decide (k > 3)) then (0, 1)
  else match com 3 (if op = 25 then (parts l).1 else []), com (sg op).2.2.1 (if op = 25 then (parts l).2 else l) with
    | some _, some k => (if (sg op).2.2.2 ≠ 0 then (sg op).2.2.2 else k, 0)
    | _, _ => (0, 50)
theorem any_gt (l : List Int) : l.any (fun k => decide (k > 3)) = !l.all (fun k => decide (k ≤ 3)) := by
  rw [Bool.eq_iff_iff]
  simp
theorem com3 : com 3 ([] : List Int) = some 3 := rfl
theorem ag3 : allAg [] 3 = true := rfl
theorem kindP_is {op : Int} {l : List Int} (hl : l.length ≤ 9223372036854775807) : kindP op l = kind op l := by
  unfold kindP kind takes
  rw [any_gt]
  cases ha : l.all (fun k => decide (k ≤ 3)) with
  | false => simp
  | true =>
    simp only [Bool.not_true, Bool.or_false, Bool.and_true]
    by_cases ho : 4 ≤ op ∧ op ≤ 26
    · have hh : has op = true := by simp [has, ho]
      rw [hh]
      simp only [Bool.not_true, Bool.false_or]
      have hone : ∀ {a b : Int}, (l.length : Int) = a → a = 1 → ∃ x, l = [x] := by
        intro a b h1 h2
        match l, h1, h2 with
        | [x], _, _ => exact ⟨x, rfl⟩
        | [], h1, h2 => simp at h1; omega
        | _ :: _ :: _, h1, h2 => simp at h1; omega
      by_cases g1 : op = 23 ∨ op = 24
      · have e1 : sg op = (0, 9223372036854775807, 3, 3) := by rcases g1 with rfl | rfl <;> rfl
        have e2 : sortOf op = (8, -1) := by rcases g1 with rfl | rfl <;> rfl
        have e3 : ¬ op = 25 := by omega
        rw [e1, e2]
        simp only [e3, if_false, com, com_all (show (3 : Int) ≠ 0 by decide), kindOf]
        have h1 : decide ((l.length : Int) < 0) = false := by simp
        have h2 : decide ((l.length : Int) > 9223372036854775807) = false := by simp; omega
        rw [h1, h2]
        cases allAg l 3 <;> simp [ag3]
      by_cases g2 : op = 25
      · subst g2
        have h2 : decide ((l.length : Int) > 9223372036854775807) = false := by simp; omega
        simp only [show sg 25 = (2, 9223372036854775807, 0, 0) from rfl, show sortOf 25 = (9, -1) from rfl, if_true, com_all (show (3 : Int) ≠ 0 by decide), kindOf, h2]
        by_cases hl2 : l.length < 2
        · have : (l.length : Int) < 2 := by omega
          simp [hl2, this]
        · have : ¬ (l.length : Int) < 2 := by omega
          simp only [hl2, this]
          cases allAg (parts l).1 3 <;> cases com 0 (parts l).2 <;> simp
      by_cases g3 : op = 26
      · subst g3
        have h2 : decide ((l.length : Int) > 9223372036854775807) = false := by simp; omega
        simp only [show sg 26 = (1, 9223372036854775807, 0, 0) from rfl, show sortOf 26 = (10, -1) from rfl, com, kindOf, h2]
        by_cases hl2 : l.length < 1
        · have : (l.length : Int) < 1 := by omega
          simp [hl2, this]
        · have : ¬ (l.length : Int) < 1 := by omega
          simp only [hl2, this]
          simp
          rw [com3]
          cases com 0 l <;> simp
      by_cases g4 : op = 4 ∨ op = 11 ∨ op = 20 ∨ op = 21 ∨ op = 22
      · by_cases hl1 : (l.length : Int) = 1
        · obtain ⟨x, rfl⟩ := hone (b := 0) hl1 rfl
          rcases g4 with rfl | rfl | rfl | rfl | rfl
          · simp [sg, sortOf, kindOf, com, com_all, allAg]
            cases agree x 1 <;> simp
          · simp [sg, sortOf, kindOf, com, com_all, allAg]
            cases agree x 2 <;> simp
          · simp [sg, sortOf, kindOf, com, agree]
          · simp [sg, sortOf, kindOf, com, com_all, allAg]
            cases agree x 3 <;> simp
          · simp [sg, sortOf, kindOf, com, com_all, allAg]
            cases agree x 3 <;> simp
        · have h3 : (l.length : Int) < 1 ∨ (l.length : Int) > 1 := by omega
          have h4 : (decide ((l.length : Int) < 1) || decide ((l.length : Int) > 1)) = true := by simp; omega
          rcases g4 with rfl | rfl | rfl | rfl | rfl <;> simp only [sg, sortOf] <;> simp [hl1] <;> (intro h5; omega)
      · have htwo : (l.length : Int) = 2 → ∃ x y, l = [x, y] := by
          intro h
          match l, h with
          | [x, y], _ => exact ⟨x, y, rfl⟩
          | [], h => simp at h
          | [_], h => simp at h
          | _ :: _ :: _ :: _, h => simp at h; omega
        by_cases g5 : 5 ≤ op ∧ op ≤ 9
        · have e1 : sg op = (2, 2, 1, 1) := by unfold sg; rw [if_neg (by omega), if_pos g5]
          have e2 : sortOf op = (1, 2) := by unfold sortOf; rw [if_neg (by omega), if_pos g5]
          rw [e1, e2]
          by_cases hl2 : (l.length : Int) = 2
          · simp only [hl2, com, com_all (show (1 : Int) ≠ 0 by decide), show ¬ op = 25 by omega, if_false, kindOf]
            cases allAg l 1 <;> simp
          · simp [hl2]; omega
        by_cases g6 : 12 ≤ op ∧ op ≤ 18
        · have e1 : sg op = (2, 2, 0, 3) := by unfold sg; rw [if_neg (by omega), if_neg (by omega), if_neg (by omega), if_neg (by omega), if_pos g6]
          have e2 : sortOf op = (4, 2) := by unfold sortOf; rw [if_neg (by omega), if_neg (by omega), if_neg (by omega), if_neg (by omega), if_pos g6]
          rw [e1, e2]
          by_cases hl2 : (l.length : Int) = 2
          · obtain ⟨x, y, rfl⟩ := htwo hl2
            have e3 : ¬ op = 25 := by omega
            have e4 : agree 0 x = true := by rw [agree_iff]; omega
            have e5 : com 0 [x, y] = if agree x y then some (if x = 0 then y else x) else none := by
              simp only [com, e4, if_true]
            simp only [e3, if_false, kindOf, com3, e5]
            simp
            cases agree x y <;> simp
          · simp [hl2]; omega
        by_cases g7 : op = 10
        · subst g7
          by_cases hl2 : (l.length : Int) = 2
          · simp only [show sg 10 = (2, 2, 2, 2) from rfl, show sortOf 10 = (2, 2) from rfl, hl2, com_all (show (2 : Int) ≠ 0 by decide), kindOf]
            cases hq : allAg l 2 <;> simp [com3, hq]
          · simp [sg, sortOf, hl2]; omega
        · have : op = 19 := by omega
          subst this
          by_cases hl2 : (l.length : Int) = 2
          · simp only [show sg 19 = (2, 2, 2, 3) from rfl, show sortOf 19 = (5, 2) from rfl, hl2, com_all (show (2 : Int) ≠ 0 by decide), kindOf]
            cases hq : allAg l 2 <;> simp [com3, hq]
          · simp [sg, sortOf, hl2]; omega
    · have hh : has op = false := by simp [has, ho]
      have hs : sortOf op = (0, 0) := by
        unfold sortOf
        repeat (rw [if_neg (by omega)])
      rw [hh, hs]; simp
end Go.Proofs.YtdipalinddfekaaGreatDoor.K
