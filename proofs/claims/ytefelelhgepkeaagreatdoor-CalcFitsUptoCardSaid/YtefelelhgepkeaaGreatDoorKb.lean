/- Layer 5 as plain functions: nodes, subqueries, and what the laws say of them. -/
import Derived.Test.YtefelelhgepkeaaGreatDoorKa
import Derived.Test.YtefelelhgepkeaaGreatDoorNum
import Derived.Test.YtefelelhgepkeaaGreatDoorCmp
import Derived.Test.YtefelelhgepkeaaGreatDoorMat
namespace Go.Proofs.YtefelelhgepkeaaGreatDoor.K
open Go.Proofs.YtefelelhgepkeaaGreatDoor.V
/-! ### Nodes -/
def ex (n : Int) : Int × Int := if Fits n then (n, 0) else (0, 4)
/-- A result of arithmetic, and its error. -/
def arith (op a b : Int) : Int × Int :=
  if op = 4 then ex (0 - b) else if op = 5 then ex (a + b) else if op = 6 then ex (a - b) else if op = 7 then ex (a * b)
  else if op = 8 then (if b = 0 then (0, 3) else ex (a.tdiv b)) else (if b = 0 then (0, 3) else (a.tmod b, 0))
def numO (op a b : Int) : Ot := if (arith op a b).2 ≠ 0 then fl (arith op a b).2 else ⟨1, (arith op a b).1, ⟨#[]⟩, 0⟩
def textO (s : ByteArray) : Ot := if 100 < s.size then fl 5 else ⟨2, 0, s, 0⟩
def cmpO (op c : Int) : Ot :=
  if op = 12 then bo (c == 0) else if op = 13 then bo (c != 0) else if op = 14 then bo (decide (c < 0)) else if op = 15 then bo (decide (c ≤ 0)) else if op = 16 then bo (decide (c > 0)) else bo (decide (c ≥ 0))
def matchO (s p : ByteArray) : Bool := M.mt s.data.toList p.data.toList
/-- A node whose kids are values that are not null. -/
def strictO (op : Int) (a b : Ot) : Ot :=
  if 4 ≤ op ∧ op ≤ 9 then numO op a.n b.n else if op = 10 then textO (a.s ++ b.s) else if op = 11 then ⟨1, (a.s.size : Int), ⟨#[]⟩, 0⟩
  else if op = 19 then bo (matchO a.s b.s) else if op = 22 then bo (!isT a) else cmpO op (cmpV a.k a.n a.s b.k b.n b.s)
def errs : Int → List Ot → Int
  | e, [] => e
  | e, o :: t => errs (lst e o.e) t
def choose : List Ot → Ot
  | [] => nul
  | [o] => o
  | c :: v :: t => if c.e ≠ 0 then c else if isT c then v else choose t
def first : List Ot → Ot
  | [] => nul
  | o :: t => if isN o then first t else o
def frst (l : List Ot) : Ot := l.headD nul
def scnd : List Ot → Ot
  | [] => nul
  | [o] => o
  | _ :: o :: _ => o
def fits (op : Int) (l : List Ot) : Bool := l.all Ot.ok && (kind op (l.map (·.k))).2 == 0
def sameO (a b : Ot) : Bool := a.e == b.e && same a.k a.n a.s b.k b.n b.s
/-- A node none of whose operators is lazy. -/
def strictR (op : Int) (l : List Ot) : Ot :=
  if errs 0 l ≠ 0 then fl (errs 0 l)
  else if op = 18 then bo (same (frst l).k (frst l).n (frst l).s (scnd l).k (scnd l).n (scnd l).s)
  else if op = 20 then bo (l.any isN)
  else if op = 21 then bo (isT (frst l))
  else if l.any isN then nul
  else strictO op (frst l) (scnd l)
/-- What a node comes to. -/
def node (op : Int) (l : List Ot) : Ot :=
  if fits op l then
    (if op = 23 then chain false false 0 l else if op = 24 then chain true false 0 l else if op = 25 then choose l else if op = 26 then first l else strictR op l)
  else fl 1
/-! ### Facts about kinds -/
theorem vd_kind {k n : Int} {s : ByteArray} (h : vd k n s = true) : k = 0 ∨ k = 1 ∨ k = 2 ∨ k = 3 := by
  unfold vd at h
  split at h
  · omega
  · split at h
    · omega
    · split at h
      · omega
      · split at h
        · omega
        · cases h
theorem ok_kind {o : Ot} (h : o.ok = true) : o.k = 0 ∨ o.k = 1 ∨ o.k = 2 ∨ o.k = 3 := by
  unfold Ot.ok at h
  split at h
  · exact vd_kind h
  · simp at h; omega
theorem ok_fails {o : Ot} (h : o.ok = true) (he : o.e ≠ 0) : isErr o.e = true ∧ o = fl o.e := by
  obtain ⟨k, n, s, e⟩ := o
  unfold Ot.ok at h
  rw [if_neg he, ba_nil'] at h
  simp at h
  obtain ⟨h, ⟨rfl, rfl⟩, hs⟩ := h
  exact ⟨h, by rw [ba_nil hs]⟩
theorem ok_null {o : Ot} (h : o.ok = true) (he : isN o = true) : o = nul := by
  obtain ⟨k, n, s, e⟩ := o
  simp [isN] at he
  obtain ⟨rfl, rfl⟩ := he
  simp [Ot.ok, vd] at h
  obtain ⟨rfl, hs⟩ := h
  rw [ba_nil hs]
theorem agree_iff {a b : Int} : agree a b = true ↔ a = b ∨ a = 0 ∨ b = 0 := by simp [agree]
theorem com_mem : ∀ {l : List Int} {o k : Int}, com o l = some k → (o = 0 ∨ o = k) ∧ ∀ x ∈ l, x = 0 ∨ x = k
  | [], o, k, h => by
    simp [com] at h
    exact ⟨.inr h, by simp⟩
  | y :: t, o, k, h => by
    rw [com] at h
    split at h
    · rename_i ha
      rw [agree_iff] at ha
      obtain ⟨h1, h2⟩ := com_mem h
      split at h1
      · rename_i h0
        subst h0
        refine ⟨.inl rfl, fun x hx => ?_⟩
        rcases List.mem_cons.1 hx with rfl | hx
        · exact h1
        · exact h2 x hx
      · rename_i h0
        have : o = k := by omega
        subst this
        refine ⟨.inr rfl, fun x hx => ?_⟩
        rcases List.mem_cons.1 hx with rfl | hx
        · omega
        · exact h2 x hx
    · cases h
theorem choose_mem : ∀ l : List Ot, (choose l).e ≠ 0 ∧ choose l ∈ l ∨ choose l = nul ∨ (choose l ∈ l ∧ (choose l).k ∈ (parts (l.map (·.k))).2)
  | [] => .inr (.inl rfl)
  | [o] => .inr (.inr ⟨by simp [choose], by simp [choose, parts]⟩)
  | c :: v :: t => by
    rw [choose]
    split
    · exact .inl ⟨by assumption, by simp⟩
    · split
      · exact .inr (.inr ⟨by simp, by simp [parts]⟩)
      · rcases choose_mem t with h | h | h
        · exact .inl ⟨h.1, by simp [h.2]⟩
        · exact .inr (.inl h)
        · exact .inr (.inr ⟨by simp [h.1], by simp [parts, h.2]⟩)
theorem first_mem : ∀ l : List Ot, first l = nul ∨ first l ∈ l
  | [] => .inl rfl
  | o :: t => by
    rw [first]
    split
    · rcases first_mem t with h | h
      · exact .inl h
      · exact .inr (by simp [h])
    · exact .inr (by simp)
theorem errs_is : ∀ (l : List Ot) (e : Int), l.all Ot.ok = true → (e = 0 ∨ isErr e = true) → errs e l = 0 ∨ isErr (errs e l) = true
  | [], e, _, he => he
  | o :: t, e, h, he => by
    rw [List.all_cons, Bool.and_eq_true] at h
    rw [errs]
    refine errs_is t _ h.2 ?_
    unfold lst
    split
    · by_cases h0 : o.e = 0
      · exact .inl h0
      · exact .inr (ok_fails h.1 h0).1
    · exact he
theorem ok_fl {e : Int} (h : isErr e = true) : (fl e).ok = true := by
  rcases err_cases h with rfl | rfl | rfl | rfl <;> simp [Ot.ok, isErr, ba_nil']
theorem ok_bo (b : Bool) : (bo b).ok = true := by cases b <;> simp [Ot.ok, vd, ba_nil']
theorem ok_nul : nul.ok = true := by simp [Ot.ok, vd, ba_nil']
theorem ex_err (n : Int) : (ex n).2 = 0 ∨ (ex n).2 = 4 := by unfold ex; split <;> simp
theorem arith_err (op a b : Int) : (arith op a b).2 = 0 ∨ isErr (arith op a b).2 = true := by
  have h : ∀ n, (ex n).2 = 0 ∨ isErr (ex n).2 = true := fun n => by
    rcases ex_err n with h | h
    · exact .inl h
    · rw [h]; exact .inr rfl
  unfold arith
  split
  · exact h _
  · split
    · exact h _
    · split
      · exact h _
      · split
        · exact h _
        · split
          · split
            · exact .inr rfl
            · exact h _
          · split
            · exact .inr rfl
            · exact .inl rfl
theorem cmpO_bo (op c : Int) : ∃ b, cmpO op c = bo b := by
  unfold cmpO
  repeat' split
  all_goals exact ⟨_, rfl⟩
theorem kind_ok {op : Int} {l : List Int} (h : (kind op l).2 = 0) : takes op l = true ∧ kindOf (sortOf op).1 l = some (kind op l).1 := by
  unfold kind at h ⊢
  cases ht : takes op l with
  | false => rw [ht] at h; simp at h
  | true =>
    rw [ht] at h
    rw [if_pos rfl] at h ⊢
    cases hk : kindOf (sortOf op).1 l with
    | none => rw [hk] at h; simp at h
    | some k => simp
theorem takes_op {op : Int} {l : List Int} (h : takes op l = true) : 4 ≤ op ∧ op ≤ 26 := by
  unfold takes at h
  have : ¬ (sortOf op).1 = 0 := by
    intro e; rw [e] at h; simp at h
  unfold sortOf at this
  split at this
  · omega
  · split at this
    · omega
    · split at this
      · omega
      · split at this
        · omega
        · split at this
          · omega
          · split at this
            · omega
            · split at this
              · omega
              · split at this
                · omega
                · split at this
                  · omega
                  · split at this
                    · omega
                    · split at this
                      · omega
                      · simp at this
/-- What a node comes to is valid, and null or of the kind that it has. -/
theorem node_fits {op : Int} {l : List Ot} (h : fits op l = true) : (node op l).ok = true ∧ ((node op l).k = 0 ∨ (node op l).k = (kind op (l.map (·.k))).1) := by
  have hf := h
  unfold fits at h
  rw [Bool.and_eq_true] at h
  obtain ⟨hv, hk⟩ := h
  obtain ⟨ht, hk⟩ := kind_ok (by simpa using hk)
  have hop := takes_op ht
  have hmem : ∀ o ∈ l, o.ok = true := List.all_eq_true.1 hv
  have he := errs_is l 0 hv (.inl rfl)
  unfold node
  rw [if_pos hf]
  generalize hK : (kind op (l.map (·.k))).1 = K at hk ⊢
  have hstr : 4 ≤ op ∧ op ≤ 22 → (strictR op l).ok = true ∧ ((strictR op l).k = 0 ∨ (strictR op l).k = K) := by
    intro hop
    unfold strictR
    split
    · rename_i h0
      exact ⟨ok_fl (he.resolve_left h0), .inl rfl⟩
    · have hK3 : (12 ≤ op ∧ op ≤ 22) → K = 3 := by
        intro ho
        have hs : (sortOf op).1 = 4 ∨ (sortOf op).1 = 5 ∨ (sortOf op).1 = 6 ∨ (sortOf op).1 = 7 := by
          unfold sortOf
          rw [if_neg (by omega), if_neg (by omega), if_neg (by omega), if_neg (by omega)]
          split
          · simp
          · split
            · simp
            · split
              · simp
              · rw [if_pos (by omega)]; simp
        unfold kindOf at hk
        rcases hs with hs | hs | hs | hs <;> rw [hs] at hk <;> simp at hk <;> omega
      have hbo : (12 ≤ op ∧ op ≤ 22) → ∀ b, (bo b).ok = true ∧ ((bo b).k = 0 ∨ (bo b).k = K) := fun ho b => ⟨ok_bo b, .inr (hK3 ho).symm⟩
      split
      · exact hbo (by omega) _
      · split
        · exact hbo (by omega) _
        · split
          · exact hbo (by omega) _
          · split
            · exact ⟨ok_nul, .inl rfl⟩
            · unfold strictO
              split
              · rename_i ho
                have hs : (sortOf op).1 = 1 := by
                  unfold sortOf
                  split
                  · rfl
                  · rw [if_pos (by omega)]
                unfold kindOf at hk
                rw [hs] at hk
                simp at hk
                unfold numO
                split
                · rename_i h0
                  exact ⟨ok_fl ((arith_err _ _ _).resolve_left h0), .inl rfl⟩
                · exact ⟨by simp [Ot.ok, vd, ba_nil'], .inr (by simp; omega)⟩
              · split
                · rename_i ho
                  subst ho
                  simp [sortOf, kindOf] at hk
                  unfold textO
                  split
                  · exact ⟨ok_fl rfl, .inl rfl⟩
                  · rename_i h1
                    exact ⟨by simp [Ot.ok, vd] at h1 ⊢; omega, .inr (by simp; omega)⟩
                · split
                  · rename_i ho
                    subst ho
                    simp [sortOf, kindOf] at hk
                    exact ⟨by simp [Ot.ok, vd, ba_nil'], .inr (by simp; omega)⟩
                  · split
                    · exact hbo (by omega) _
                    · split
                      · exact hbo (by omega) _
                      · obtain ⟨b, hb⟩ := cmpO_bo op (cmpV (frst l).k (frst l).n (frst l).s (scnd l).k (scnd l).n (scnd l).s)
                        rw [hb]
                        exact hbo (by omega) _
  have hch : ∀ d, (op = 23 ∨ op = 24) → (chain d false 0 l).ok = true ∧ ((chain d false 0 l).k = 0 ∨ (chain d false 0 l).k = K) := by
    intro d ho
    have hs : (sortOf op).1 = 8 := by rcases ho with rfl | rfl <;> rfl
    rw [hs] at hk
    simp [kindOf] at hk
    have htr : l.all tr = true := by
      rw [List.all_eq_true]
      intro o hm
      have ha := List.all_eq_true.1 hk.1 o.k (List.mem_map.2 ⟨o, hm, rfl⟩)
      rw [agree_iff] at ha
      unfold tr
      rw [hmem o hm, Bool.true_and]
      simp; omega
    rw [chain_is d htr]
    have hr := mr_is (d := d) htr
    refine ⟨?_, ?_⟩
    · have := tr_dec (d := d) hr
      unfold tr at this
      rw [Bool.and_eq_true] at this
      exact this.1
    · rcases hr with e | e | e | e | e | e | e <;> rw [e] <;> simp [dec] <;> omega
  split
  · exact hch _ (by omega)
  · split
    · exact hch _ (by omega)
    · split
      · rename_i ho
        subst ho
        have hs : (sortOf 25).1 = 9 := rfl
        rw [hs] at hk
        simp [kindOf] at hk
        rcases choose_mem l with ⟨h0, hm⟩ | h | ⟨hm, h2⟩
        · have := (ok_fails (hmem _ hm) h0).2
          exact ⟨hmem _ hm, .inl (by rw [this])⟩
        · rw [h]; exact ⟨ok_nul, .inl rfl⟩
        · exact ⟨hmem _ hm, (com_mem hk.2).2 _ h2⟩
      · split
        · rename_i ho
          subst ho
          have hs : (sortOf 26).1 = 10 := rfl
          rw [hs] at hk
          simp [kindOf] at hk
          rcases first_mem l with h | h
          · rw [h]; exact ⟨ok_nul, .inl rfl⟩
          · exact ⟨hmem _ h, (com_mem hk).2 _ (List.mem_map.2 ⟨_, h, rfl⟩)⟩
        · exact hstr (by omega)
end Go.Proofs.YtefelelhgepkeaaGreatDoor.K
