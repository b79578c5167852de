/- Any node but CASE. -/
import Derived.Test.YtdbhencjomnjhaaGreatDoorGai
namespace Go.Proofs.YtdbhencjomnjhaaGreatDoor.U
open Go.ChangeShapes Go.WideShapes Go.ChangeAt Go.RowKit Go.Proofs.YtdbhencjomnjhaaGreatDoor.V Go.Proofs.YtdbhencjomnjhaaGreatDoor.K Go.Proofs.YtdbhencjomnjhaaGreatDoor.T
theorem errs_zero : ∀ (l : List Ot) (e : Int), errs e l = 0 → e = 0 ∧ ∀ o ∈ l, o.e = 0
  | [], e, h => ⟨h, fun o ho => by cases ho⟩
  | o :: t, e, h => by
    rw [errs] at h
    obtain ⟨h1, h2⟩ := errs_zero t _ h
    unfold lst at h1
    have h3 : e = 0 ∧ o.e = 0 := by
      split at h1
      · rename_i hc
        refine ⟨?_, h1⟩
        rcases hc with hc | hc
        · exact hc
        · omega
      · rename_i hc
        exact absurd (Or.inl h1) hc
    exact ⟨h3.1, fun x hx => by
      rcases List.mem_cons.1 hx with rfl | hx
      · exact h3.2
      · exact h2 x hx⟩
theorem ofV_of (o : Ot) (he : o.e = 0) : o = ofV (o.k, o.n, o.s) := by
  obtain ⟨k, n, s, e⟩ := o
  have : e = 0 := he
  subst this
  rfl
theorem ok_vd {o : Ot} (he : o.e = 0) (h : o.ok = true) : vd o.k o.n o.s = true := by
  unfold Ot.ok at h
  rw [he] at h
  exact h
theorem fits_parts {op : Int} {l : List Ot} (h : fits op l = true) : l.all Ot.ok = true ∧ takes op (l.map (·.k)) = true ∧ kindOf (sortOf op).1 (l.map (·.k)) = some (kind op (l.map (·.k))).1 := by
  unfold fits at h
  rw [Bool.and_eq_true, beq_iff_eq] at h
  obtain ⟨h1, h2⟩ := kind_ok h.2
  exact ⟨h.1, h1, h2⟩
theorem takes_len {op : Int} {l : List Ot} (h : takes op (l.map (·.k)) = true) (n : Nat) (hs : (sortOf op).2 = (n : Int)) : l.length = n := by
  unfold takes at h
  rw [hs] at h
  simp only [Bool.and_eq_true, Bool.not_eq_true', Bool.or_eq_false_iff, List.length_map] at h
  obtain ⟨⟨⟨⟨-, h1⟩, -⟩, -⟩, -⟩ := h
  rw [Bool.and_eq_false_iff] at h1
  rcases h1 with h1 | h1
  · simp at h1
  · simp at h1
    omega
theorem one_of {l : List Ot} (h : l.length = 1) : ∃ o, l = [o] := by
  match l, h with
  | [o], _ => exact ⟨o, rfl⟩
theorem two_of' {l : List Ot} (h : l.length = 2) : ∃ o p, l = [o, p] := by
  match l, h with
  | [o, p], _ => exact ⟨o, p, rfl⟩
theorem tr_of {o : Ot} (h : o.ok = true) (hk : agree o.k 3 = true) : tr o = true := by
  rw [agree_iff] at hk
  unfold tr
  rw [h]
  by_cases he : o.e = 0
  · rcases hk with h1 | h1 | h1
    · simp [h1]
    · simp [h1]
    · omega
  · simp [he]
theorem all_tr {l : List Ot} (h : l.all Ot.ok = true) (hk : allAg (l.map (·.k)) 3 = true) : l.all tr = true := by
  rw [List.all_eq_true]
  intro o ho
  unfold allAg at hk
  exact tr_of (List.all_eq_true.1 h o ho) (List.all_eq_true.1 hk o.k (List.mem_map.2 ⟨o, ho, rfl⟩))
theorem int_of {o : Ot} (he : o.e = 0) (h : o.ok = true) (hk : agree o.k 1 = true) : isN o = true ∨ (isN o = false ∧ o.k = 1 ∧ o.s = ⟨#[]⟩) := by
  rw [agree_iff] at hk
  have hv := ok_vd he h
  rcases hk with h1 | h1 | h1
  · right
    refine ⟨by simp [isN, he, h1], h1, ?_⟩
    unfold vd at hv
    rw [h1] at hv
    simp at hv
    exact ba_nil hv
  · left; simp [isN, he, h1]
  · omega
theorem text_of {o : Ot} (he : o.e = 0) (h : o.ok = true) (hk : agree o.k 2 = true) : isN o = true ∨ (isN o = false ∧ o.k = 2 ∧ o.n = 0 ∧ o.s.size ≤ 100) := by
  rw [agree_iff] at hk
  have hv := ok_vd he h
  rcases hk with h1 | h1 | h1
  · right
    refine ⟨by simp [isN, he, h1], h1, ?_⟩
    unfold vd at hv
    rw [h1] at hv
    simp at hv
    exact hv
  · left; simp [isN, he, h1]
  · omega
theorem nul_any {l : List Ot} (h : l.all Ot.ok = true) : l.any isNul = l.any isN := by
  rw [Bool.eq_iff_iff, List.any_eq_true, List.any_eq_true]
  constructor
  · rintro ⟨o, ho, hn⟩
    exact ⟨o, ho, by rw [← nul_isN (List.all_eq_true.1 h o ho)]; exact hn⟩
  · rintro ⟨o, ho, hn⟩
    exact ⟨o, ho, by rw [nul_isN (List.all_eq_true.1 h o ho)]; exact hn⟩
theorem node_strict {op : Int} {l : List Ot} (h : fits op l = true) (h22 : op ≤ 22) : node op l = strictR op l := by
  unfold node
  rw [if_pos h, if_neg (by omega), if_neg (by omega), if_neg (by omega), if_neg (by omega)]
theorem not_nul_k {o : Ot} (he : o.e = 0) (h : isN o = false) : ¬ o.k = 0 := by
  intro hk
  simp [isN, he, hk] at h
set_option maxRecDepth 100000
theorem s_4 (o : Ot) (he : o.e = 0) (ho : o.ok = true) (hk : agree o.k 1 = true) (hfit : Fits o.n) (a : Option Addr) (c : Nat) (W : World) (h : Outs W a 1 [o]) : Ret 18 #[.int .u8 4, .slice a 1 c] W (enc (strictR 4 [o])) := by
  have hE : errs 0 [o] = 0 := by simp [errs, he, lst]
  have eo := ofV_of o he
  rw [eo] at h
  rcases int_of he ho hk with hn | ⟨hn, h1, h2⟩
  · have hR : strictR 4 [o] = nul := by
      unfold strictR
      rw [if_neg (by rw [hE]; simp), if_neg (by decide), if_neg (by decide), if_neg (by decide), if_pos (by simp [hn])]
    rw [hR]
    exact c_strict1n 4 (by decide) (by decide) (by decide) (o.k, o.n, o.s) (by rw [← eo, nul_any (by simp [ho])]; simp [hn]) a c W h
  · have hR : strictR 4 [o] = strictO 4 o o := by
      unfold strictR
      rw [if_neg (by rw [hE]; simp), if_neg (by decide), if_neg (by decide), if_neg (by decide), if_neg (by simp [hn])]
      rfl
    rw [hR]
    refine c_strict1 4 (by decide) (by decide) (by decide) (o.k, o.n, o.s) (not_nul_k he hn) (strictO 4 o o) (fun w => ?_) a c W h
    show Ret 43 #[.int .u8 4, val o.k o.n o.s, val o.k o.n o.s] w _
    rw [h1, h2]
    exact ns_4 o.n o.n hfit hfit w
theorem s_11 (o : Ot) (he : o.e = 0) (ho : o.ok = true) (hk : agree o.k 2 = true) (hfit : Fits o.n) (a : Option Addr) (c : Nat) (W : World) (h : Outs W a 1 [o]) : Ret 18 #[.int .u8 11, .slice a 1 c] W (enc (strictR 11 [o])) := by
  have hE : errs 0 [o] = 0 := by simp [errs, he, lst]
  have eo := ofV_of o he
  rw [eo] at h
  rcases text_of he ho hk with hn | ⟨hn, h1, h2, hsz⟩
  · have hR : strictR 11 [o] = nul := by
      unfold strictR
      rw [if_neg (by rw [hE]; simp), if_neg (by decide), if_neg (by decide), if_neg (by decide), if_pos (by simp [hn])]
    rw [hR]
    exact c_strict1n 11 (by decide) (by decide) (by decide) (o.k, o.n, o.s) (by rw [← eo, nul_any (by simp [ho])]; simp [hn]) a c W h
  · have hR : strictR 11 [o] = strictO 11 o o := by
      unfold strictR
      rw [if_neg (by rw [hE]; simp), if_neg (by decide), if_neg (by decide), if_neg (by decide), if_neg (by simp [hn])]
      rfl
    rw [hR]
    refine c_strict1 11 (by decide) (by decide) (by decide) (o.k, o.n, o.s) (not_nul_k he hn) (strictO 11 o o) (fun w => ?_) a c W h
    show Ret 43 #[.int .u8 11, val o.k o.n o.s, val o.k o.n o.s] w _
    rw [h1, h2]
    exact ns_11 o.s hsz w
theorem s_5 (o p : Ot) (heo : o.e = 0) (hep : p.e = 0) (ho : o.ok = true) (hp : p.ok = true) (hko : agree o.k 1 = true) (hkp : agree p.k 1 = true) (hfo : Fits o.n) (hfp : Fits p.n) (a : Option Addr) (c : Nat) (W : World) (h : Outs W a 2 [o, p]) :
    Ret 18 #[.int .u8 5, .slice a 2 c] W (enc (strictR 5 [o, p])) := by
  have hE : errs 0 [o, p] = 0 := by simp [errs, heo, hep, lst]
  have eo := ofV_of o heo
  have ep := ofV_of p hep
  have h' : Outs W a 2 [ofV (o.k, o.n, o.s), ofV (p.k, p.n, p.s)] := by rw [← eo, ← ep]; exact h
  by_cases hN : [o, p].any isN = true
  · have hR : strictR 5 [o, p] = nul := by
      unfold strictR
      rw [if_neg (by rw [hE]; simp), if_neg (by decide), if_neg (by decide), if_neg (by decide), if_pos hN]
    rw [hR]
    exact c_strict2n 5 (by decide) (by decide) (by decide) (o.k, o.n, o.s) (p.k, p.n, p.s) (by rw [← eo, ← ep, nul_any (by simp [ho, hp])]; exact hN) a c W h'
  · have hR : strictR 5 [o, p] = strictO 5 o p := by
      unfold strictR
      rw [if_neg (by rw [hE]; simp), if_neg (by decide), if_neg (by decide), if_neg (by decide), if_neg hN]
      rfl
    rcases int_of heo ho hko with hn | ⟨hno, h1o, h2o⟩
    · exact absurd (by simp [hn]) hN
    rcases int_of hep hp hkp with hn | ⟨hnp, h1p, h2p⟩
    · exact absurd (by simp [hn]) hN
    rw [hR]
    refine c_strict2 5 (by decide) (by decide) (by decide) (o.k, o.n, o.s) (p.k, p.n, p.s) (not_nul_k heo hno) (not_nul_k hep hnp) (strictO 5 o p) (fun w => ?_) a c W h'
    show Ret 43 #[.int .u8 5, val o.k o.n o.s, val p.k p.n p.s] w _
    rw [h1o, h1p, h2o, h2p]
    exact ns_5 o.n p.n hfo hfp w
theorem s_6 (o p : Ot) (heo : o.e = 0) (hep : p.e = 0) (ho : o.ok = true) (hp : p.ok = true) (hko : agree o.k 1 = true) (hkp : agree p.k 1 = true) (hfo : Fits o.n) (hfp : Fits p.n) (a : Option Addr) (c : Nat) (W : World) (h : Outs W a 2 [o, p]) :
    Ret 18 #[.int .u8 6, .slice a 2 c] W (enc (strictR 6 [o, p])) := by
  have hE : errs 0 [o, p] = 0 := by simp [errs, heo, hep, lst]
  have eo := ofV_of o heo
  have ep := ofV_of p hep
  have h' : Outs W a 2 [ofV (o.k, o.n, o.s), ofV (p.k, p.n, p.s)] := by rw [← eo, ← ep]; exact h
  by_cases hN : [o, p].any isN = true
  · have hR : strictR 6 [o, p] = nul := by
      unfold strictR
      rw [if_neg (by rw [hE]; simp), if_neg (by decide), if_neg (by decide), if_neg (by decide), if_pos hN]
    rw [hR]
    exact c_strict2n 6 (by decide) (by decide) (by decide) (o.k, o.n, o.s) (p.k, p.n, p.s) (by rw [← eo, ← ep, nul_any (by simp [ho, hp])]; exact hN) a c W h'
  · have hR : strictR 6 [o, p] = strictO 6 o p := by
      unfold strictR
      rw [if_neg (by rw [hE]; simp), if_neg (by decide), if_neg (by decide), if_neg (by decide), if_neg hN]
      rfl
    rcases int_of heo ho hko with hn | ⟨hno, h1o, h2o⟩
    · exact absurd (by simp [hn]) hN
    rcases int_of hep hp hkp with hn | ⟨hnp, h1p, h2p⟩
    · exact absurd (by simp [hn]) hN
    rw [hR]
    refine c_strict2 6 (by decide) (by decide) (by decide) (o.k, o.n, o.s) (p.k, p.n, p.s) (not_nul_k heo hno) (not_nul_k hep hnp) (strictO 6 o p) (fun w => ?_) a c W h'
    show Ret 43 #[.int .u8 6, val o.k o.n o.s, val p.k p.n p.s] w _
    rw [h1o, h1p, h2o, h2p]
    exact ns_6 o.n p.n hfo hfp w
theorem s_7 (o p : Ot) (heo : o.e = 0) (hep : p.e = 0) (ho : o.ok = true) (hp : p.ok = true) (hko : agree o.k 1 = true) (hkp : agree p.k 1 = true) (hfo : Fits o.n) (hfp : Fits p.n) (a : Option Addr) (c : Nat) (W : World) (h : Outs W a 2 [o, p]) :
    Ret 18 #[.int .u8 7, .slice a 2 c] W (enc (strictR 7 [o, p])) := by
  have hE : errs 0 [o, p] = 0 := by simp [errs, heo, hep, lst]
  have eo := ofV_of o heo
  have ep := ofV_of p hep
  have h' : Outs W a 2 [ofV (o.k, o.n, o.s), ofV (p.k, p.n, p.s)] := by rw [← eo, ← ep]; exact h
  by_cases hN : [o, p].any isN = true
  · have hR : strictR 7 [o, p] = nul := by
      unfold strictR
      rw [if_neg (by rw [hE]; simp), if_neg (by decide), if_neg (by decide), if_neg (by decide), if_pos hN]
    rw [hR]
    exact c_strict2n 7 (by decide) (by decide) (by decide) (o.k, o.n, o.s) (p.k, p.n, p.s) (by rw [← eo, ← ep, nul_any (by simp [ho, hp])]; exact hN) a c W h'
  · have hR : strictR 7 [o, p] = strictO 7 o p := by
      unfold strictR
      rw [if_neg (by rw [hE]; simp), if_neg (by decide), if_neg (by decide), if_neg (by decide), if_neg hN]
      rfl
    rcases int_of heo ho hko with hn | ⟨hno, h1o, h2o⟩
    · exact absurd (by simp [hn]) hN
    rcases int_of hep hp hkp with hn | ⟨hnp, h1p, h2p⟩
    · exact absurd (by simp [hn]) hN
    rw [hR]
    refine c_strict2 7 (by decide) (by decide) (by decide) (o.k, o.n, o.s) (p.k, p.n, p.s) (not_nul_k heo hno) (not_nul_k hep hnp) (strictO 7 o p) (fun w => ?_) a c W h'
    show Ret 43 #[.int .u8 7, val o.k o.n o.s, val p.k p.n p.s] w _
    rw [h1o, h1p, h2o, h2p]
    exact ns_7 o.n p.n hfo hfp w
theorem s_8 (o p : Ot) (heo : o.e = 0) (hep : p.e = 0) (ho : o.ok = true) (hp : p.ok = true) (hko : agree o.k 1 = true) (hkp : agree p.k 1 = true) (hfo : Fits o.n) (hfp : Fits p.n) (a : Option Addr) (c : Nat) (W : World) (h : Outs W a 2 [o, p]) :
    Ret 18 #[.int .u8 8, .slice a 2 c] W (enc (strictR 8 [o, p])) := by
  have hE : errs 0 [o, p] = 0 := by simp [errs, heo, hep, lst]
  have eo := ofV_of o heo
  have ep := ofV_of p hep
  have h' : Outs W a 2 [ofV (o.k, o.n, o.s), ofV (p.k, p.n, p.s)] := by rw [← eo, ← ep]; exact h
  by_cases hN : [o, p].any isN = true
  · have hR : strictR 8 [o, p] = nul := by
      unfold strictR
      rw [if_neg (by rw [hE]; simp), if_neg (by decide), if_neg (by decide), if_neg (by decide), if_pos hN]
    rw [hR]
    exact c_strict2n 8 (by decide) (by decide) (by decide) (o.k, o.n, o.s) (p.k, p.n, p.s) (by rw [← eo, ← ep, nul_any (by simp [ho, hp])]; exact hN) a c W h'
  · have hR : strictR 8 [o, p] = strictO 8 o p := by
      unfold strictR
      rw [if_neg (by rw [hE]; simp), if_neg (by decide), if_neg (by decide), if_neg (by decide), if_neg hN]
      rfl
    rcases int_of heo ho hko with hn | ⟨hno, h1o, h2o⟩
    · exact absurd (by simp [hn]) hN
    rcases int_of hep hp hkp with hn | ⟨hnp, h1p, h2p⟩
    · exact absurd (by simp [hn]) hN
    rw [hR]
    refine c_strict2 8 (by decide) (by decide) (by decide) (o.k, o.n, o.s) (p.k, p.n, p.s) (not_nul_k heo hno) (not_nul_k hep hnp) (strictO 8 o p) (fun w => ?_) a c W h'
    show Ret 43 #[.int .u8 8, val o.k o.n o.s, val p.k p.n p.s] w _
    rw [h1o, h1p, h2o, h2p]
    exact ns_8 o.n p.n hfo hfp w
theorem s_9 (o p : Ot) (heo : o.e = 0) (hep : p.e = 0) (ho : o.ok = true) (hp : p.ok = true) (hko : agree o.k 1 = true) (hkp : agree p.k 1 = true) (hfo : Fits o.n) (hfp : Fits p.n) (a : Option Addr) (c : Nat) (W : World) (h : Outs W a 2 [o, p]) :
    Ret 18 #[.int .u8 9, .slice a 2 c] W (enc (strictR 9 [o, p])) := by
  have hE : errs 0 [o, p] = 0 := by simp [errs, heo, hep, lst]
  have eo := ofV_of o heo
  have ep := ofV_of p hep
  have h' : Outs W a 2 [ofV (o.k, o.n, o.s), ofV (p.k, p.n, p.s)] := by rw [← eo, ← ep]; exact h
  by_cases hN : [o, p].any isN = true
  · have hR : strictR 9 [o, p] = nul := by
      unfold strictR
      rw [if_neg (by rw [hE]; simp), if_neg (by decide), if_neg (by decide), if_neg (by decide), if_pos hN]
    rw [hR]
    exact c_strict2n 9 (by decide) (by decide) (by decide) (o.k, o.n, o.s) (p.k, p.n, p.s) (by rw [← eo, ← ep, nul_any (by simp [ho, hp])]; exact hN) a c W h'
  · have hR : strictR 9 [o, p] = strictO 9 o p := by
      unfold strictR
      rw [if_neg (by rw [hE]; simp), if_neg (by decide), if_neg (by decide), if_neg (by decide), if_neg hN]
      rfl
    rcases int_of heo ho hko with hn | ⟨hno, h1o, h2o⟩
    · exact absurd (by simp [hn]) hN
    rcases int_of hep hp hkp with hn | ⟨hnp, h1p, h2p⟩
    · exact absurd (by simp [hn]) hN
    rw [hR]
    refine c_strict2 9 (by decide) (by decide) (by decide) (o.k, o.n, o.s) (p.k, p.n, p.s) (not_nul_k heo hno) (not_nul_k hep hnp) (strictO 9 o p) (fun w => ?_) a c W h'
    show Ret 43 #[.int .u8 9, val o.k o.n o.s, val p.k p.n p.s] w _
    rw [h1o, h1p, h2o, h2p]
    exact ns_9 o.n p.n hfo hfp w
theorem s_10 (o p : Ot) (heo : o.e = 0) (hep : p.e = 0) (ho : o.ok = true) (hp : p.ok = true) (hko : agree o.k 2 = true) (hkp : agree p.k 2 = true) (hfo : Fits o.n) (hfp : Fits p.n) (a : Option Addr) (c : Nat) (W : World) (h : Outs W a 2 [o, p]) :
    Ret 18 #[.int .u8 10, .slice a 2 c] W (enc (strictR 10 [o, p])) := by
  have hE : errs 0 [o, p] = 0 := by simp [errs, heo, hep, lst]
  have eo := ofV_of o heo
  have ep := ofV_of p hep
  have h' : Outs W a 2 [ofV (o.k, o.n, o.s), ofV (p.k, p.n, p.s)] := by rw [← eo, ← ep]; exact h
  by_cases hN : [o, p].any isN = true
  · have hR : strictR 10 [o, p] = nul := by
      unfold strictR
      rw [if_neg (by rw [hE]; simp), if_neg (by decide), if_neg (by decide), if_neg (by decide), if_pos hN]
    rw [hR]
    exact c_strict2n 10 (by decide) (by decide) (by decide) (o.k, o.n, o.s) (p.k, p.n, p.s) (by rw [← eo, ← ep, nul_any (by simp [ho, hp])]; exact hN) a c W h'
  · have hR : strictR 10 [o, p] = strictO 10 o p := by
      unfold strictR
      rw [if_neg (by rw [hE]; simp), if_neg (by decide), if_neg (by decide), if_neg (by decide), if_neg hN]
      rfl
    rcases text_of heo ho hko with hn | ⟨hno, h1o, h2o, hszo⟩
    · exact absurd (by simp [hn]) hN
    rcases text_of hep hp hkp with hn | ⟨hnp, h1p, h2p, hszp⟩
    · exact absurd (by simp [hn]) hN
    rw [hR]
    refine c_strict2 10 (by decide) (by decide) (by decide) (o.k, o.n, o.s) (p.k, p.n, p.s) (not_nul_k heo hno) (not_nul_k hep hnp) (strictO 10 o p) (fun w => ?_) a c W h'
    show Ret 43 #[.int .u8 10, val o.k o.n o.s, val p.k p.n p.s] w _
    rw [h1o, h1p, h2o, h2p]
    exact ns_10 o.s p.s hszo hszp w
theorem s_19 (o p : Ot) (heo : o.e = 0) (hep : p.e = 0) (ho : o.ok = true) (hp : p.ok = true) (hko : agree o.k 2 = true) (hkp : agree p.k 2 = true) (hfo : Fits o.n) (hfp : Fits p.n) (a : Option Addr) (c : Nat) (W : World) (h : Outs W a 2 [o, p]) :
    Ret 18 #[.int .u8 19, .slice a 2 c] W (enc (strictR 19 [o, p])) := by
  have hE : errs 0 [o, p] = 0 := by simp [errs, heo, hep, lst]
  have eo := ofV_of o heo
  have ep := ofV_of p hep
  have h' : Outs W a 2 [ofV (o.k, o.n, o.s), ofV (p.k, p.n, p.s)] := by rw [← eo, ← ep]; exact h
  by_cases hN : [o, p].any isN = true
  · have hR : strictR 19 [o, p] = nul := by
      unfold strictR
      rw [if_neg (by rw [hE]; simp), if_neg (by decide), if_neg (by decide), if_neg (by decide), if_pos hN]
    rw [hR]
    exact c_strict2n 19 (by decide) (by decide) (by decide) (o.k, o.n, o.s) (p.k, p.n, p.s) (by rw [← eo, ← ep, nul_any (by simp [ho, hp])]; exact hN) a c W h'
  · have hR : strictR 19 [o, p] = strictO 19 o p := by
      unfold strictR
      rw [if_neg (by rw [hE]; simp), if_neg (by decide), if_neg (by decide), if_neg (by decide), if_neg hN]
      rfl
    rcases text_of heo ho hko with hn | ⟨hno, h1o, h2o, hszo⟩
    · exact absurd (by simp [hn]) hN
    rcases text_of hep hp hkp with hn | ⟨hnp, h1p, h2p, hszp⟩
    · exact absurd (by simp [hn]) hN
    rw [hR]
    refine c_strict2 19 (by decide) (by decide) (by decide) (o.k, o.n, o.s) (p.k, p.n, p.s) (not_nul_k heo hno) (not_nul_k hep hnp) (strictO 19 o p) (fun w => ?_) a c W h'
    show Ret 43 #[.int .u8 19, val o.k o.n o.s, val p.k p.n p.s] w _
    rw [h1o, h1p, h2o, h2p]
    exact ns_19 o.s p.s hszo hszp w
end Go.Proofs.YtdbhencjomnjhaaGreatDoor.U
namespace Go.Proofs.YtdbhencjomnjhaaGreatDoor.U
open Go.ChangeShapes Go.WideShapes Go.ChangeAt Go.RowKit Go.Proofs.YtdbhencjomnjhaaGreatDoor.V Go.Proofs.YtdbhencjomnjhaaGreatDoor.K Go.Proofs.YtdbhencjomnjhaaGreatDoor.T
theorem ag_1 {l : List Int} {K : Int} (h : kindOf 1 l = some K) : allAg l 1 = true := by
  cases hc : allAg l 1 with
  | true => rfl
  | false =>
    have e : kindOf 1 l = if allAg l 1 then some 1 else none := rfl
    rw [e, hc] at h
    cases h
theorem ag_2 {l : List Int} {K : Int} (h : kindOf 2 l = some K) : allAg l 2 = true := by
  cases hc : allAg l 2 with
  | true => rfl
  | false =>
    have e : kindOf 2 l = if allAg l 2 then some 2 else none := rfl
    rw [e, hc] at h
    cases h
theorem ag_3 {l : List Int} {K : Int} (h : kindOf 3 l = some K) : allAg l 2 = true := by
  cases hc : allAg l 2 with
  | true => rfl
  | false =>
    have e : kindOf 3 l = if allAg l 2 then some 1 else none := rfl
    rw [e, hc] at h
    cases h
theorem ag_5 {l : List Int} {K : Int} (h : kindOf 5 l = some K) : allAg l 2 = true := by
  cases hc : allAg l 2 with
  | true => rfl
  | false =>
    have e : kindOf 5 l = if allAg l 2 then some 3 else none := rfl
    rw [e, hc] at h
    cases h
theorem ag_7 {l : List Int} {K : Int} (h : kindOf 7 l = some K) : allAg l 3 = true := by
  cases hc : allAg l 3 with
  | true => rfl
  | false =>
    have e : kindOf 7 l = if allAg l 3 then some 3 else none := rfl
    rw [e, hc] at h
    cases h
theorem ag_8 {l : List Int} {K : Int} (h : kindOf 8 l = some K) : allAg l 3 = true := by
  cases hc : allAg l 3 with
  | true => rfl
  | false =>
    have e : kindOf 8 l = if allAg l 3 then some 3 else none := rfl
    rw [e, hc] at h
    cases h
theorem ag_4 {x y K : Int} (h : kindOf 4 [x, y] = some K) : agree x y = true := by
  cases hc : agree x y with
  | true => rfl
  | false =>
    have e : kindOf 4 [x, y] = if agree x y then some 3 else none := rfl
    rw [e, hc] at h
    cases h
theorem ag_one {x k : Int} (h : allAg [x] k = true) : agree x k = true := by simpa [allAg] using h
theorem ag_two {x y k : Int} (h : allAg [x, y] k = true) : agree x k = true ∧ agree y k = true := by simpa [allAg] using h
set_option maxRecDepth 100000
theorem c_Node_but (op : Int) (h25 : op ≠ 25) (a : Option Addr) (n c : Nat) (l : List Ot) (hsz : 40 * n ≤ 140737488351232) (hfit : ∀ o ∈ l, Fits o.n) (w : World) (h : Outs w a n l) : Ret 5 #[.int .u8 op, .slice a n c] w (enc (node op l)) := by
  cases hf : fits op l with
  | false => exact c_Node_no op a n c l hsz hf w h
  | true =>
    obtain ⟨hv, ht, hk⟩ := fits_parts hf
    obtain ⟨-, hkk⟩ := fits_kind hf
    have hop := takes_op ht
    generalize (kind op (l.map (·.k))).1 = K at hk hkk
    by_cases h23 : op = 23
    · subst h23
      rw [show (sortOf 23).1 = 8 from rfl] at hk
      exact c_Node_and a n c l hsz (all_tr hv (ag_8 hk)) w h
    by_cases h24 : op = 24
    · subst h24
      rw [show (sortOf 24).1 = 8 from rfl] at hk
      exact c_Node_or a n c l hsz (all_tr hv (ag_8 hk)) w h
    by_cases h26 : op = 26
    · subst h26
      exact c_Node_first a n c l hsz w h
    have h22 : op ≤ 22 := by omega
    by_cases he : errs 0 l = 0
    case neg =>
      rw [node_strict hf h22]
      have hR : strictR op l = fl (errs 0 l) := if_pos he
      rw [hR]
      exact c_Node_strict op h23 h24 h25 h26 (fl (errs 0 l)) K a n c l hsz hkk hv (fun W h => c_strict_err op a n c l (by omega) he W h) w h
    have hz := (errs_zero l 0 he).2
    have ho : ∀ o ∈ l, o.ok = true := List.all_eq_true.1 hv
    have hops : op = 4 ∨ op = 5 ∨ op = 6 ∨ op = 7 ∨ op = 8 ∨ op = 9 ∨ op = 10 ∨ op = 11 ∨ op = 12 ∨ op = 13 ∨ op = 14 ∨ op = 15 ∨ op = 16 ∨ op = 17 ∨ op = 18 ∨ op = 19 ∨ op = 20 ∨ op = 21 ∨ op = 22 := by omega
    clear h23 h24 h25 h26 he hop
    rcases hops with rfl | rfl | rfl | rfl | rfl | rfl | rfl | rfl | rfl | rfl | rfl | rfl | rfl | rfl | rfl | rfl | rfl | rfl | rfl
    · rw [show (sortOf 4).1 = 1 from rfl] at hk
      obtain ⟨o, rfl⟩ := one_of (takes_len ht 1 rfl)
      obtain rfl : n = 1 := h.len
      have zo := hz o (by simp)
      have vo := ho o (by simp)
      have fo := hfit o (by simp)
      rw [node_strict hf h22]
      exact c_Node_strict 4 (by decide) (by decide) (by decide) (by decide) _ K a 1 c _ hsz hkk hv (fun W h => s_4 o zo vo (ag_one (ag_1 hk)) fo a c W h) w h
    · rw [show (sortOf 5).1 = 1 from rfl] at hk
      obtain ⟨o, p, rfl⟩ := two_of' (takes_len ht 2 rfl)
      obtain rfl : n = 2 := h.len
      have zo := hz o (by simp)
      have vo := ho o (by simp)
      have fo := hfit o (by simp)
      have zp := hz p (by simp)
      have vp := ho p (by simp)
      have fp := hfit p (by simp)
      rw [node_strict hf h22]
      obtain ⟨g1, g2⟩ := ag_two (ag_1 hk)
      exact c_Node_strict 5 (by decide) (by decide) (by decide) (by decide) _ K a 2 c _ hsz hkk hv (fun W h => s_5 o p zo zp vo vp g1 g2 fo fp a c W h) w h
    · rw [show (sortOf 6).1 = 1 from rfl] at hk
      obtain ⟨o, p, rfl⟩ := two_of' (takes_len ht 2 rfl)
      obtain rfl : n = 2 := h.len
      have zo := hz o (by simp)
      have vo := ho o (by simp)
      have fo := hfit o (by simp)
      have zp := hz p (by simp)
      have vp := ho p (by simp)
      have fp := hfit p (by simp)
      rw [node_strict hf h22]
      obtain ⟨g1, g2⟩ := ag_two (ag_1 hk)
      exact c_Node_strict 6 (by decide) (by decide) (by decide) (by decide) _ K a 2 c _ hsz hkk hv (fun W h => s_6 o p zo zp vo vp g1 g2 fo fp a c W h) w h
    · rw [show (sortOf 7).1 = 1 from rfl] at hk
      obtain ⟨o, p, rfl⟩ := two_of' (takes_len ht 2 rfl)
      obtain rfl : n = 2 := h.len
      have zo := hz o (by simp)
      have vo := ho o (by simp)
      have fo := hfit o (by simp)
      have zp := hz p (by simp)
      have vp := ho p (by simp)
      have fp := hfit p (by simp)
      rw [node_strict hf h22]
      obtain ⟨g1, g2⟩ := ag_two (ag_1 hk)
      exact c_Node_strict 7 (by decide) (by decide) (by decide) (by decide) _ K a 2 c _ hsz hkk hv (fun W h => s_7 o p zo zp vo vp g1 g2 fo fp a c W h) w h
    · rw [show (sortOf 8).1 = 1 from rfl] at hk
      obtain ⟨o, p, rfl⟩ := two_of' (takes_len ht 2 rfl)
      obtain rfl : n = 2 := h.len
      have zo := hz o (by simp)
      have vo := ho o (by simp)
      have fo := hfit o (by simp)
      have zp := hz p (by simp)
      have vp := ho p (by simp)
      have fp := hfit p (by simp)
      rw [node_strict hf h22]
      obtain ⟨g1, g2⟩ := ag_two (ag_1 hk)
      exact c_Node_strict 8 (by decide) (by decide) (by decide) (by decide) _ K a 2 c _ hsz hkk hv (fun W h => s_8 o p zo zp vo vp g1 g2 fo fp a c W h) w h
    · rw [show (sortOf 9).1 = 1 from rfl] at hk
      obtain ⟨o, p, rfl⟩ := two_of' (takes_len ht 2 rfl)
      obtain rfl : n = 2 := h.len
      have zo := hz o (by simp)
      have vo := ho o (by simp)
      have fo := hfit o (by simp)
      have zp := hz p (by simp)
      have vp := ho p (by simp)
      have fp := hfit p (by simp)
      rw [node_strict hf h22]
      obtain ⟨g1, g2⟩ := ag_two (ag_1 hk)
      exact c_Node_strict 9 (by decide) (by decide) (by decide) (by decide) _ K a 2 c _ hsz hkk hv (fun W h => s_9 o p zo zp vo vp g1 g2 fo fp a c W h) w h
    · rw [show (sortOf 10).1 = 2 from rfl] at hk
      obtain ⟨o, p, rfl⟩ := two_of' (takes_len ht 2 rfl)
      obtain rfl : n = 2 := h.len
      have zo := hz o (by simp)
      have vo := ho o (by simp)
      have fo := hfit o (by simp)
      have zp := hz p (by simp)
      have vp := ho p (by simp)
      have fp := hfit p (by simp)
      rw [node_strict hf h22]
      obtain ⟨g1, g2⟩ := ag_two (ag_2 hk)
      exact c_Node_strict 10 (by decide) (by decide) (by decide) (by decide) _ K a 2 c _ hsz hkk hv (fun W h => s_10 o p zo zp vo vp g1 g2 fo fp a c W h) w h
    · rw [show (sortOf 11).1 = 3 from rfl] at hk
      obtain ⟨o, rfl⟩ := one_of (takes_len ht 1 rfl)
      obtain rfl : n = 1 := h.len
      have zo := hz o (by simp)
      have vo := ho o (by simp)
      have fo := hfit o (by simp)
      rw [node_strict hf h22]
      exact c_Node_strict 11 (by decide) (by decide) (by decide) (by decide) _ K a 1 c _ hsz hkk hv (fun W h => s_11 o zo vo (ag_one (ag_3 hk)) fo a c W h) w h
    · rw [show (sortOf 12).1 = 4 from rfl] at hk
      obtain ⟨o, p, rfl⟩ := two_of' (takes_len ht 2 rfl)
      obtain rfl : n = 2 := h.len
      have zo := hz o (by simp)
      have vo := ho o (by simp)
      have fo := hfit o (by simp)
      have zp := hz p (by simp)
      have vp := ho p (by simp)
      have fp := hfit p (by simp)
      have hg := ag_4 hk
      have eo := ofV_of o zo
      have ep := ofV_of p zp
      have h' : Outs w a 2 [ofV (o.k, o.n, o.s), ofV (p.k, p.n, p.s)] := by rw [← eo, ← ep]; exact h
      have hc := c_Node_cmp 12 (by decide) (by decide) (o.k, o.n, o.s) (p.k, p.n, p.s) (ok_vd zo vo) (ok_vd zp vp) hg a c w h'
      rw [← eo, ← ep] at hc
      exact hc
    · rw [show (sortOf 13).1 = 4 from rfl] at hk
      obtain ⟨o, p, rfl⟩ := two_of' (takes_len ht 2 rfl)
      obtain rfl : n = 2 := h.len
      have zo := hz o (by simp)
      have vo := ho o (by simp)
      have fo := hfit o (by simp)
      have zp := hz p (by simp)
      have vp := ho p (by simp)
      have fp := hfit p (by simp)
      have hg := ag_4 hk
      have eo := ofV_of o zo
      have ep := ofV_of p zp
      have h' : Outs w a 2 [ofV (o.k, o.n, o.s), ofV (p.k, p.n, p.s)] := by rw [← eo, ← ep]; exact h
      have hc := c_Node_cmp 13 (by decide) (by decide) (o.k, o.n, o.s) (p.k, p.n, p.s) (ok_vd zo vo) (ok_vd zp vp) hg a c w h'
      rw [← eo, ← ep] at hc
      exact hc
    · rw [show (sortOf 14).1 = 4 from rfl] at hk
      obtain ⟨o, p, rfl⟩ := two_of' (takes_len ht 2 rfl)
      obtain rfl : n = 2 := h.len
      have zo := hz o (by simp)
      have vo := ho o (by simp)
      have fo := hfit o (by simp)
      have zp := hz p (by simp)
      have vp := ho p (by simp)
      have fp := hfit p (by simp)
      have hg := ag_4 hk
      have eo := ofV_of o zo
      have ep := ofV_of p zp
      have h' : Outs w a 2 [ofV (o.k, o.n, o.s), ofV (p.k, p.n, p.s)] := by rw [← eo, ← ep]; exact h
      have hc := c_Node_cmp 14 (by decide) (by decide) (o.k, o.n, o.s) (p.k, p.n, p.s) (ok_vd zo vo) (ok_vd zp vp) hg a c w h'
      rw [← eo, ← ep] at hc
      exact hc
    · rw [show (sortOf 15).1 = 4 from rfl] at hk
      obtain ⟨o, p, rfl⟩ := two_of' (takes_len ht 2 rfl)
      obtain rfl : n = 2 := h.len
      have zo := hz o (by simp)
      have vo := ho o (by simp)
      have fo := hfit o (by simp)
      have zp := hz p (by simp)
      have vp := ho p (by simp)
      have fp := hfit p (by simp)
      have hg := ag_4 hk
      have eo := ofV_of o zo
      have ep := ofV_of p zp
      have h' : Outs w a 2 [ofV (o.k, o.n, o.s), ofV (p.k, p.n, p.s)] := by rw [← eo, ← ep]; exact h
      have hc := c_Node_cmp 15 (by decide) (by decide) (o.k, o.n, o.s) (p.k, p.n, p.s) (ok_vd zo vo) (ok_vd zp vp) hg a c w h'
      rw [← eo, ← ep] at hc
      exact hc
    · rw [show (sortOf 16).1 = 4 from rfl] at hk
      obtain ⟨o, p, rfl⟩ := two_of' (takes_len ht 2 rfl)
      obtain rfl : n = 2 := h.len
      have zo := hz o (by simp)
      have vo := ho o (by simp)
      have fo := hfit o (by simp)
      have zp := hz p (by simp)
      have vp := ho p (by simp)
      have fp := hfit p (by simp)
      have hg := ag_4 hk
      have eo := ofV_of o zo
      have ep := ofV_of p zp
      have h' : Outs w a 2 [ofV (o.k, o.n, o.s), ofV (p.k, p.n, p.s)] := by rw [← eo, ← ep]; exact h
      have hc := c_Node_cmp 16 (by decide) (by decide) (o.k, o.n, o.s) (p.k, p.n, p.s) (ok_vd zo vo) (ok_vd zp vp) hg a c w h'
      rw [← eo, ← ep] at hc
      exact hc
    · rw [show (sortOf 17).1 = 4 from rfl] at hk
      obtain ⟨o, p, rfl⟩ := two_of' (takes_len ht 2 rfl)
      obtain rfl : n = 2 := h.len
      have zo := hz o (by simp)
      have vo := ho o (by simp)
      have fo := hfit o (by simp)
      have zp := hz p (by simp)
      have vp := ho p (by simp)
      have fp := hfit p (by simp)
      have hg := ag_4 hk
      have eo := ofV_of o zo
      have ep := ofV_of p zp
      have h' : Outs w a 2 [ofV (o.k, o.n, o.s), ofV (p.k, p.n, p.s)] := by rw [← eo, ← ep]; exact h
      have hc := c_Node_cmp 17 (by decide) (by decide) (o.k, o.n, o.s) (p.k, p.n, p.s) (ok_vd zo vo) (ok_vd zp vp) hg a c w h'
      rw [← eo, ← ep] at hc
      exact hc
    · rw [show (sortOf 18).1 = 4 from rfl] at hk
      obtain ⟨o, p, rfl⟩ := two_of' (takes_len ht 2 rfl)
      obtain rfl : n = 2 := h.len
      have zo := hz o (by simp)
      have vo := ho o (by simp)
      have fo := hfit o (by simp)
      have zp := hz p (by simp)
      have vp := ho p (by simp)
      have fp := hfit p (by simp)
      have hg := ag_4 hk
      have eo := ofV_of o zo
      have ep := ofV_of p zp
      have h' : Outs w a 2 [ofV (o.k, o.n, o.s), ofV (p.k, p.n, p.s)] := by rw [← eo, ← ep]; exact h
      have hc := c_Node_same (o.k, o.n, o.s) (p.k, p.n, p.s) (ok_vd zo vo) (ok_vd zp vp) hg a c w h'
      rw [← eo, ← ep] at hc
      exact hc
    · rw [show (sortOf 19).1 = 5 from rfl] at hk
      obtain ⟨o, p, rfl⟩ := two_of' (takes_len ht 2 rfl)
      obtain rfl : n = 2 := h.len
      have zo := hz o (by simp)
      have vo := ho o (by simp)
      have fo := hfit o (by simp)
      have zp := hz p (by simp)
      have vp := ho p (by simp)
      have fp := hfit p (by simp)
      rw [node_strict hf h22]
      obtain ⟨g1, g2⟩ := ag_two (ag_5 hk)
      exact c_Node_strict 19 (by decide) (by decide) (by decide) (by decide) _ K a 2 c _ hsz hkk hv (fun W h => s_19 o p zo zp vo vp g1 g2 fo fp a c W h) w h
    · rw [show (sortOf 20).1 = 6 from rfl] at hk
      obtain ⟨o, rfl⟩ := one_of (takes_len ht 1 rfl)
      obtain rfl : n = 1 := h.len
      have zo := hz o (by simp)
      have vo := ho o (by simp)
      have fo := hfit o (by simp)
      rw [node_strict hf h22]
      have hR : strictR 20 [o] = bo (isN o) := by
        unfold strictR
        rw [if_neg (by simp [errs, zo, lst]), if_neg (by decide), if_pos rfl]
        simp
      rw [hR]
      have eo := ofV_of o zo
      exact c_Node_strict 20 (by decide) (by decide) (by decide) (by decide) _ K a 1 c _ hsz hkk hv (fun W h => by rw [eo] at h ⊢; exact c_strict20 o.k o.n o.s (ok_vd zo vo) a c W h) w h
    · rw [show (sortOf 21).1 = 7 from rfl] at hk
      obtain ⟨o, rfl⟩ := one_of (takes_len ht 1 rfl)
      obtain rfl : n = 1 := h.len
      have zo := hz o (by simp)
      have vo := ho o (by simp)
      have fo := hfit o (by simp)
      rw [node_strict hf h22]
      have hR : strictR 21 [o] = bo (isT o) := by
        unfold strictR
        rw [if_neg (by simp [errs, zo, lst]), if_neg (by decide), if_neg (by decide), if_pos rfl]
        rfl
      rw [hR]
      have eo := ofV_of o zo
      exact c_Node_strict 21 (by decide) (by decide) (by decide) (by decide) _ K a 1 c _ hsz hkk hv (fun W h => by rw [eo] at h ⊢; exact c_strict21 o.k o.n o.s (ok_vd zo vo) a c W h) w h
    · rw [show (sortOf 22).1 = 7 from rfl] at hk
      obtain ⟨o, rfl⟩ := one_of (takes_len ht 1 rfl)
      obtain rfl : n = 1 := h.len
      have zo := hz o (by simp)
      have vo := ho o (by simp)
      have fo := hfit o (by simp)
      have ht := tr_of vo (ag_one (ag_7 hk))
      rw [node_not ht]
      exact c_Node_not o ht a c w h
end Go.Proofs.YtdbhencjomnjhaaGreatDoor.U
