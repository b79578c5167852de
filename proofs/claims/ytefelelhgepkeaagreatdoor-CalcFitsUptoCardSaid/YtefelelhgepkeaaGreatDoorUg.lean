/- Any node but CASE, whole. -/
import Derived.Test.YtefelelhgepkeaaGreatDoorUf
namespace Go.Proofs.YtefelelhgepkeaaGreatDoor.U
open Go.ChangeShapes Go.WideShapes Go.ChangeAt Go.RowKit Go.Proofs.YtefelelhgepkeaaGreatDoor.V Go.Proofs.YtefelelhgepkeaaGreatDoor.K Go.Proofs.YtefelelhgepkeaaGreatDoor.T
theorem ag_1 {l : List Int} {K : Int} (h : kindOf 1 l = some K) : allAg l 1 = true := by
  cases hc : allAg l 1 with
  | true => rfl
  | false =>
    have e : kindOf 1 l = if allAg l 1 then some 1 else none := rfl
    rw [e, hc] at h
    cases h
theorem ag_2 {l : List Int} {K : Int} (h : kindOf 2 l = some K) : allAg l 2 = true := by
  cases hc : allAg l 2 with
  | true => rfl
  | false =>
    have e : kindOf 2 l = if allAg l 2 then some 2 else none := rfl
    rw [e, hc] at h
    cases h
theorem ag_3 {l : List Int} {K : Int} (h : kindOf 3 l = some K) : allAg l 2 = true := by
  cases hc : allAg l 2 with
  | true => rfl
  | false =>
    have e : kindOf 3 l = if allAg l 2 then some 1 else none := rfl
    rw [e, hc] at h
    cases h
theorem ag_5 {l : List Int} {K : Int} (h : kindOf 5 l = some K) : allAg l 2 = true := by
  cases hc : allAg l 2 with
  | true => rfl
  | false =>
    have e : kindOf 5 l = if allAg l 2 then some 3 else none := rfl
    rw [e, hc] at h
    cases h
theorem ag_7 {l : List Int} {K : Int} (h : kindOf 7 l = some K) : allAg l 3 = true := by
  cases hc : allAg l 3 with
  | true => rfl
  | false =>
    have e : kindOf 7 l = if allAg l 3 then some 3 else none := rfl
    rw [e, hc] at h
    cases h
theorem ag_8 {l : List Int} {K : Int} (h : kindOf 8 l = some K) : allAg l 3 = true := by
  cases hc : allAg l 3 with
  | true => rfl
  | false =>
    have e : kindOf 8 l = if allAg l 3 then some 3 else none := rfl
    rw [e, hc] at h
    cases h
theorem ag_4 {x y K : Int} (h : kindOf 4 [x, y] = some K) : agree x y = true := by
  cases hc : agree x y with
  | true => rfl
  | false =>
    have e : kindOf 4 [x, y] = if agree x y then some 3 else none := rfl
    rw [e, hc] at h
    cases h
theorem ag_one {x k : Int} (h : allAg [x] k = true) : agree x k = true := by simpa [allAg] using h
theorem ag_two {x y k : Int} (h : allAg [x, y] k = true) : agree x k = true ∧ agree y k = true := by simpa [allAg] using h
set_option maxRecDepth 100000
theorem c_Node_but (op : Int) (h25 : op ≠ 25) (a : Option Addr) (n c : Nat) (l : List Ot) (hsz : 40 * n ≤ 140737488351232) (hfit : ∀ o ∈ l, Fits o.n) (w : World) (h : Outs w a n l) : Ret 16 #[.int .u8 op, .slice a n c] w (enc (node op l)) := by
  cases hf : fits op l with
  | false => exact c_Node_no op a n c l hsz hf w h
  | true =>
    obtain ⟨hv, ht, hk⟩ := fits_parts hf
    obtain ⟨-, hkk⟩ := fits_kind hf
    have hop := takes_op ht
    generalize (kind op (l.map (·.k))).1 = K at hk hkk
    by_cases h23 : op = 23
    · subst h23
      rw [show (sortOf 23).1 = 8 from rfl] at hk
      exact c_Node_and a n c l hsz (all_tr hv (ag_8 hk)) w h
    by_cases h24 : op = 24
    · subst h24
      rw [show (sortOf 24).1 = 8 from rfl] at hk
      exact c_Node_or a n c l hsz (all_tr hv (ag_8 hk)) w h
    by_cases h26 : op = 26
    · subst h26
      exact c_Node_first a n c l hsz w h
    have h22 : op ≤ 22 := by omega
    by_cases he : errs 0 l = 0
    case neg =>
      rw [node_strict hf h22]
      have hR : strictR op l = fl (errs 0 l) := if_pos he
      rw [hR]
      exact c_Node_strict op h23 h24 h25 h26 (fl (errs 0 l)) K a n c l hsz hkk hv (fun W h => c_strict_err op a n c l (by omega) he W h) w h
    have hz := (errs_zero l 0 he).2
    have ho : ∀ o ∈ l, o.ok = true := List.all_eq_true.1 hv
    have hops : op = 4 ∨ op = 5 ∨ op = 6 ∨ op = 7 ∨ op = 8 ∨ op = 9 ∨ op = 10 ∨ op = 11 ∨ op = 12 ∨ op = 13 ∨ op = 14 ∨ op = 15 ∨ op = 16 ∨ op = 17 ∨ op = 18 ∨ op = 19 ∨ op = 20 ∨ op = 21 ∨ op = 22 := by omega
    clear h23 h24 h25 h26 he hop
    rcases hops with rfl | rfl | rfl | rfl | rfl | rfl | rfl | rfl | rfl | rfl | rfl | rfl | rfl | rfl | rfl | rfl | rfl | rfl | rfl
    · rw [show (sortOf 4).1 = 1 from rfl] at hk
      obtain ⟨o, rfl⟩ := one_of (takes_len ht 1 rfl)
      obtain rfl : n = 1 := h.len
      have zo := hz o (by simp)
      have vo := ho o (by simp)
      have fo := hfit o (by simp)
      rw [node_strict hf h22]
      exact c_Node_strict 4 (by decide) (by decide) (by decide) (by decide) _ K a 1 c _ hsz hkk hv (fun W h => s_4 o zo vo (ag_one (ag_1 hk)) fo a c W h) w h
    · rw [show (sortOf 5).1 = 1 from rfl] at hk
      obtain ⟨o, p, rfl⟩ := two_of' (takes_len ht 2 rfl)
      obtain rfl : n = 2 := h.len
      have zo := hz o (by simp)
      have vo := ho o (by simp)
      have fo := hfit o (by simp)
      have zp := hz p (by simp)
      have vp := ho p (by simp)
      have fp := hfit p (by simp)
      rw [node_strict hf h22]
      obtain ⟨g1, g2⟩ := ag_two (ag_1 hk)
      exact c_Node_strict 5 (by decide) (by decide) (by decide) (by decide) _ K a 2 c _ hsz hkk hv (fun W h => s_5 o p zo zp vo vp g1 g2 fo fp a c W h) w h
    · rw [show (sortOf 6).1 = 1 from rfl] at hk
      obtain ⟨o, p, rfl⟩ := two_of' (takes_len ht 2 rfl)
      obtain rfl : n = 2 := h.len
      have zo := hz o (by simp)
      have vo := ho o (by simp)
      have fo := hfit o (by simp)
      have zp := hz p (by simp)
      have vp := ho p (by simp)
      have fp := hfit p (by simp)
      rw [node_strict hf h22]
      obtain ⟨g1, g2⟩ := ag_two (ag_1 hk)
      exact c_Node_strict 6 (by decide) (by decide) (by decide) (by decide) _ K a 2 c _ hsz hkk hv (fun W h => s_6 o p zo zp vo vp g1 g2 fo fp a c W h) w h
    · rw [show (sortOf 7).1 = 1 from rfl] at hk
      obtain ⟨o, p, rfl⟩ := two_of' (takes_len ht 2 rfl)
      obtain rfl : n = 2 := h.len
      have zo := hz o (by simp)
      have vo := ho o (by simp)
      have fo := hfit o (by simp)
      have zp := hz p (by simp)
      have vp := ho p (by simp)
      have fp := hfit p (by simp)
      rw [node_strict hf h22]
      obtain ⟨g1, g2⟩ := ag_two (ag_1 hk)
      exact c_Node_strict 7 (by decide) (by decide) (by decide) (by decide) _ K a 2 c _ hsz hkk hv (fun W h => s_7 o p zo zp vo vp g1 g2 fo fp a c W h) w h
    · rw [show (sortOf 8).1 = 1 from rfl] at hk
      obtain ⟨o, p, rfl⟩ := two_of' (takes_len ht 2 rfl)
      obtain rfl : n = 2 := h.len
      have zo := hz o (by simp)
      have vo := ho o (by simp)
      have fo := hfit o (by simp)
      have zp := hz p (by simp)
      have vp := ho p (by simp)
      have fp := hfit p (by simp)
      rw [node_strict hf h22]
      obtain ⟨g1, g2⟩ := ag_two (ag_1 hk)
      exact c_Node_strict 8 (by decide) (by decide) (by decide) (by decide) _ K a 2 c _ hsz hkk hv (fun W h => s_8 o p zo zp vo vp g1 g2 fo fp a c W h) w h
    · rw [show (sortOf 9).1 = 1 from rfl] at hk
      obtain ⟨o, p, rfl⟩ := two_of' (takes_len ht 2 rfl)
      obtain rfl : n = 2 := h.len
      have zo := hz o (by simp)
      have vo := ho o (by simp)
      have fo := hfit o (by simp)
      have zp := hz p (by simp)
      have vp := ho p (by simp)
      have fp := hfit p (by simp)
      rw [node_strict hf h22]
      obtain ⟨g1, g2⟩ := ag_two (ag_1 hk)
      exact c_Node_strict 9 (by decide) (by decide) (by decide) (by decide) _ K a 2 c _ hsz hkk hv (fun W h => s_9 o p zo zp vo vp g1 g2 fo fp a c W h) w h
    · rw [show (sortOf 10).1 = 2 from rfl] at hk
      obtain ⟨o, p, rfl⟩ := two_of' (takes_len ht 2 rfl)
      obtain rfl : n = 2 := h.len
      have zo := hz o (by simp)
      have vo := ho o (by simp)
      have fo := hfit o (by simp)
      have zp := hz p (by simp)
      have vp := ho p (by simp)
      have fp := hfit p (by simp)
      rw [node_strict hf h22]
      obtain ⟨g1, g2⟩ := ag_two (ag_2 hk)
      exact c_Node_strict 10 (by decide) (by decide) (by decide) (by decide) _ K a 2 c _ hsz hkk hv (fun W h => s_10 o p zo zp vo vp g1 g2 fo fp a c W h) w h
    · rw [show (sortOf 11).1 = 3 from rfl] at hk
      obtain ⟨o, rfl⟩ := one_of (takes_len ht 1 rfl)
      obtain rfl : n = 1 := h.len
      have zo := hz o (by simp)
      have vo := ho o (by simp)
      have fo := hfit o (by simp)
      rw [node_strict hf h22]
      exact c_Node_strict 11 (by decide) (by decide) (by decide) (by decide) _ K a 1 c _ hsz hkk hv (fun W h => s_11 o zo vo (ag_one (ag_3 hk)) fo a c W h) w h
    · rw [show (sortOf 12).1 = 4 from rfl] at hk
      obtain ⟨o, p, rfl⟩ := two_of' (takes_len ht 2 rfl)
      obtain rfl : n = 2 := h.len
      have zo := hz o (by simp)
      have vo := ho o (by simp)
      have fo := hfit o (by simp)
      have zp := hz p (by simp)
      have vp := ho p (by simp)
      have fp := hfit p (by simp)
      have hg := ag_4 hk
      have eo := ofV_of o zo
      have ep := ofV_of p zp
      have h' : Outs w a 2 [ofV (o.k, o.n, o.s), ofV (p.k, p.n, p.s)] := by rw [← eo, ← ep]; exact h
      have hc := c_Node_cmp 12 (by decide) (by decide) (o.k, o.n, o.s) (p.k, p.n, p.s) (ok_vd zo vo) (ok_vd zp vp) hg a c w h'
      rw [← eo, ← ep] at hc
      exact hc
    · rw [show (sortOf 13).1 = 4 from rfl] at hk
      obtain ⟨o, p, rfl⟩ := two_of' (takes_len ht 2 rfl)
      obtain rfl : n = 2 := h.len
      have zo := hz o (by simp)
      have vo := ho o (by simp)
      have fo := hfit o (by simp)
      have zp := hz p (by simp)
      have vp := ho p (by simp)
      have fp := hfit p (by simp)
      have hg := ag_4 hk
      have eo := ofV_of o zo
      have ep := ofV_of p zp
      have h' : Outs w a 2 [ofV (o.k, o.n, o.s), ofV (p.k, p.n, p.s)] := by rw [← eo, ← ep]; exact h
      have hc := c_Node_cmp 13 (by decide) (by decide) (o.k, o.n, o.s) (p.k, p.n, p.s) (ok_vd zo vo) (ok_vd zp vp) hg a c w h'
      rw [← eo, ← ep] at hc
      exact hc
    · rw [show (sortOf 14).1 = 4 from rfl] at hk
      obtain ⟨o, p, rfl⟩ := two_of' (takes_len ht 2 rfl)
      obtain rfl : n = 2 := h.len
      have zo := hz o (by simp)
      have vo := ho o (by simp)
      have fo := hfit o (by simp)
      have zp := hz p (by simp)
      have vp := ho p (by simp)
      have fp := hfit p (by simp)
      have hg := ag_4 hk
      have eo := ofV_of o zo
      have ep := ofV_of p zp
      have h' : Outs w a 2 [ofV (o.k, o.n, o.s), ofV (p.k, p.n, p.s)] := by rw [← eo, ← ep]; exact h
      have hc := c_Node_cmp 14 (by decide) (by decide) (o.k, o.n, o.s) (p.k, p.n, p.s) (ok_vd zo vo) (ok_vd zp vp) hg a c w h'
      rw [← eo, ← ep] at hc
      exact hc
    · rw [show (sortOf 15).1 = 4 from rfl] at hk
      obtain ⟨o, p, rfl⟩ := two_of' (takes_len ht 2 rfl)
      obtain rfl : n = 2 := h.len
      have zo := hz o (by simp)
      have vo := ho o (by simp)
      have fo := hfit o (by simp)
      have zp := hz p (by simp)
      have vp := ho p (by simp)
      have fp := hfit p (by simp)
      have hg := ag_4 hk
      have eo := ofV_of o zo
      have ep := ofV_of p zp
      have h' : Outs w a 2 [ofV (o.k, o.n, o.s), ofV (p.k, p.n, p.s)] := by rw [← eo, ← ep]; exact h
      have hc := c_Node_cmp 15 (by decide) (by decide) (o.k, o.n, o.s) (p.k, p.n, p.s) (ok_vd zo vo) (ok_vd zp vp) hg a c w h'
      rw [← eo, ← ep] at hc
      exact hc
    · rw [show (sortOf 16).1 = 4 from rfl] at hk
      obtain ⟨o, p, rfl⟩ := two_of' (takes_len ht 2 rfl)
      obtain rfl : n = 2 := h.len
      have zo := hz o (by simp)
      have vo := ho o (by simp)
      have fo := hfit o (by simp)
      have zp := hz p (by simp)
      have vp := ho p (by simp)
      have fp := hfit p (by simp)
      have hg := ag_4 hk
      have eo := ofV_of o zo
      have ep := ofV_of p zp
      have h' : Outs w a 2 [ofV (o.k, o.n, o.s), ofV (p.k, p.n, p.s)] := by rw [← eo, ← ep]; exact h
      have hc := c_Node_cmp 16 (by decide) (by decide) (o.k, o.n, o.s) (p.k, p.n, p.s) (ok_vd zo vo) (ok_vd zp vp) hg a c w h'
      rw [← eo, ← ep] at hc
      exact hc
    · rw [show (sortOf 17).1 = 4 from rfl] at hk
      obtain ⟨o, p, rfl⟩ := two_of' (takes_len ht 2 rfl)
      obtain rfl : n = 2 := h.len
      have zo := hz o (by simp)
      have vo := ho o (by simp)
      have fo := hfit o (by simp)
      have zp := hz p (by simp)
      have vp := ho p (by simp)
      have fp := hfit p (by simp)
      have hg := ag_4 hk
      have eo := ofV_of o zo
      have ep := ofV_of p zp
      have h' : Outs w a 2 [ofV (o.k, o.n, o.s), ofV (p.k, p.n, p.s)] := by rw [← eo, ← ep]; exact h
      have hc := c_Node_cmp 17 (by decide) (by decide) (o.k, o.n, o.s) (p.k, p.n, p.s) (ok_vd zo vo) (ok_vd zp vp) hg a c w h'
      rw [← eo, ← ep] at hc
      exact hc
    · rw [show (sortOf 18).1 = 4 from rfl] at hk
      obtain ⟨o, p, rfl⟩ := two_of' (takes_len ht 2 rfl)
      obtain rfl : n = 2 := h.len
      have zo := hz o (by simp)
      have vo := ho o (by simp)
      have fo := hfit o (by simp)
      have zp := hz p (by simp)
      have vp := ho p (by simp)
      have fp := hfit p (by simp)
      have hg := ag_4 hk
      have eo := ofV_of o zo
      have ep := ofV_of p zp
      have h' : Outs w a 2 [ofV (o.k, o.n, o.s), ofV (p.k, p.n, p.s)] := by rw [← eo, ← ep]; exact h
      have hc := c_Node_same (o.k, o.n, o.s) (p.k, p.n, p.s) (ok_vd zo vo) (ok_vd zp vp) hg a c w h'
      rw [← eo, ← ep] at hc
      exact hc
    · rw [show (sortOf 19).1 = 5 from rfl] at hk
      obtain ⟨o, p, rfl⟩ := two_of' (takes_len ht 2 rfl)
      obtain rfl : n = 2 := h.len
      have zo := hz o (by simp)
      have vo := ho o (by simp)
      have fo := hfit o (by simp)
      have zp := hz p (by simp)
      have vp := ho p (by simp)
      have fp := hfit p (by simp)
      rw [node_strict hf h22]
      obtain ⟨g1, g2⟩ := ag_two (ag_5 hk)
      exact c_Node_strict 19 (by decide) (by decide) (by decide) (by decide) _ K a 2 c _ hsz hkk hv (fun W h => s_19 o p zo zp vo vp g1 g2 fo fp a c W h) w h
    · rw [show (sortOf 20).1 = 6 from rfl] at hk
      obtain ⟨o, rfl⟩ := one_of (takes_len ht 1 rfl)
      obtain rfl : n = 1 := h.len
      have zo := hz o (by simp)
      have vo := ho o (by simp)
      have fo := hfit o (by simp)
      rw [node_strict hf h22]
      have hR : strictR 20 [o] = bo (isN o) := by
        unfold strictR
        rw [if_neg (by simp [errs, zo, lst]), if_neg (by decide), if_pos rfl]
        simp
      rw [hR]
      have eo := ofV_of o zo
      exact c_Node_strict 20 (by decide) (by decide) (by decide) (by decide) _ K a 1 c _ hsz hkk hv (fun W h => by rw [eo] at h ⊢; exact c_strict20 o.k o.n o.s (ok_vd zo vo) a c W h) w h
    · rw [show (sortOf 21).1 = 7 from rfl] at hk
      obtain ⟨o, rfl⟩ := one_of (takes_len ht 1 rfl)
      obtain rfl : n = 1 := h.len
      have zo := hz o (by simp)
      have vo := ho o (by simp)
      have fo := hfit o (by simp)
      rw [node_strict hf h22]
      have hR : strictR 21 [o] = bo (isT o) := by
        unfold strictR
        rw [if_neg (by simp [errs, zo, lst]), if_neg (by decide), if_neg (by decide), if_pos rfl]
        rfl
      rw [hR]
      have eo := ofV_of o zo
      exact c_Node_strict 21 (by decide) (by decide) (by decide) (by decide) _ K a 1 c _ hsz hkk hv (fun W h => by rw [eo] at h ⊢; exact c_strict21 o.k o.n o.s (ok_vd zo vo) a c W h) w h
    · rw [show (sortOf 22).1 = 7 from rfl] at hk
      obtain ⟨o, rfl⟩ := one_of (takes_len ht 1 rfl)
      obtain rfl : n = 1 := h.len
      have zo := hz o (by simp)
      have vo := ho o (by simp)
      have fo := hfit o (by simp)
      have ht := tr_of vo (ag_one (ag_7 hk))
      rw [node_not ht]
      exact c_Node_not o ht a c w h
end Go.Proofs.YtefelelhgepkeaaGreatDoor.U
