/- A node whose kids do not fit; COALESCE; the other operators, over their values. -/
import Derived.Test.YtefelelhgepkeaaGreatDoorTh
namespace Go.Proofs.YtefelelhgepkeaaGreatDoor.U
open Go.ChangeShapes Go.WideShapes Go.ChangeAt Go.RowKit Go.Proofs.YtefelelhgepkeaaGreatDoor.V Go.Proofs.YtefelelhgepkeaaGreatDoor.K Go.Proofs.YtefelelhgepkeaaGreatDoor.T
set_option maxRecDepth 100000 in
set_option maxHeartbeats 4000000 in
theorem c_Node_kind (op : Int) (kk ee : Int) (he : ee ≠ 0) (a : Option Addr) (n c : Nat) (l : List Ot) (hsz : 40 * n ≤ 140737488351232) (hk : kind op (l.map (·.k)) = (kk, ee)) (w : World) (h : Outs w a n l) :
    Ret 16 #[.int .u8 op, .slice a n c] w (enc (fl 1)) := by
  have HL := Lib.hid h
  have hK := Lib.hid hk
  have he2 : (ee != 0) = true := by simpa using he
  clear h hk
  go_enter Tryz.func16, Tryz.ntmps16
  go_wp2_with fail
  have HL0 := Lib.hid (HL.out.below (bel_alloc (Below.refl _ w) (.cells #[.int .u8 0, .int .i64 0, .string ⟨#[]⟩, .int .i64 0] 34)))
  refine (c_kindsOf a n c l (by omega) _ HL0.out).mono ?_
  rintro e w1 ⟨⟨a2, rfl, hone⟩, hb1⟩
  have HX1 : Hid (Box w1 w.heap.size nul) := (Box.new w nul).below hb1
  have B1 : Hid (Below w.heap.size w w1) := bel_trans (bel_alloc (Below.refl _ _) _) hb1
  have HO := Lib.hid hone
  clear hb1 hone HL0
  go_wp2_with fail
  refine (c_Kind op a2 n n (l.map (·.k)) (Nat.le_refl _) (by omega) (by omega) _ HO.out).mono ?_
  rw [hK.out]
  rintro e w2 ⟨rfl, hb2⟩
  have HX2 := Lib.hid (HX1.out.below hb2)
  have B2 : Hid (Below w.heap.size w w2) := bel_trans B1.out hb2
  clear hb2 HX1 B1 HO
  simp only [kV]
  go_wp2_with fail
  refine (c_failing 1 _).mono ?_
  rintro e w4 ⟨rfl, hb4⟩
  obtain ⟨hx, d0, d1, d2, d3, e0, e1, e2, e3⟩ := HX2.out.below hb4
  have B4 : Hid (Below w.heap.size w w4) := bel_trans B2.out hb4
  clear hb4
  go_wp2
  exact bodyPost_ret (v := ov 0 0 ⟨#[]⟩ 1) (by simp [results, Tryz.results16, go_sem, *]) rfl ⟨rfl, put4_below (o := fl 1) B4.out (Nat.le_refl _)⟩
set_option maxRecDepth 100000 in
set_option maxHeartbeats 4000000 in
theorem c_Node_bad (op : Int) (kk : Int) (a : Option Addr) (n c : Nat) (l : List Ot) (hsz : 40 * n ≤ 140737488351232) (hk : kind op (l.map (·.k)) = (kk, 0)) (hv : l.all Ot.ok = false) (w : World) (h : Outs w a n l) :
    Ret 16 #[.int .u8 op, .slice a n c] w (enc (fl 1)) := by
  have HL := Lib.hid h
  have hK := Lib.hid hk
  have hV := Lib.hid hv
  clear h hk hv
  go_enter Tryz.func16, Tryz.ntmps16
  go_wp2_with fail
  have HL0 := Lib.hid (HL.out.below (bel_alloc (Below.refl _ w) (.cells #[.int .u8 0, .int .i64 0, .string ⟨#[]⟩, .int .i64 0] 34)))
  refine (c_kindsOf a n c l (by omega) _ HL0.out).mono ?_
  rintro e w1 ⟨⟨a2, rfl, hone⟩, hb1⟩
  have HX1 : Hid (Box w1 w.heap.size nul) := (Box.new w nul).below hb1
  have B1 : Hid (Below w.heap.size w w1) := bel_trans (bel_alloc (Below.refl _ _) _) hb1
  have HO := Lib.hid hone
  clear hb1 hone HL0
  go_wp2_with fail
  refine (c_Kind op a2 n n (l.map (·.k)) (Nat.le_refl _) (by omega) (by omega) _ HO.out).mono ?_
  rw [hK.out]
  rintro e w2 ⟨rfl, hb2⟩
  have HX2 := Lib.hid (HX1.out.below hb2)
  have B2 : Hid (Below w.heap.size w w2) := bel_trans B1.out hb2
  clear hb2 HX1 B1 HO
  simp only [kV]
  go_wp2_with fail
  refine (c_areValid a n c l (by omega) _ (HL.out.below B2.out)).mono ?_
  rw [hV.out]
  rintro e w3 ⟨rfl, hb3⟩
  have HX3 := Lib.hid (HX2.out.below hb3)
  have B3 : Hid (Below w.heap.size w w3) := bel_trans B2.out hb3
  clear hb3 HX2 B2
  go_wp2_with fail
  refine (c_failing 1 _).mono ?_
  rintro e w4 ⟨rfl, hb4⟩
  obtain ⟨hx, d0, d1, d2, d3, e0, e1, e2, e3⟩ := HX3.out.below hb4
  have B4 : Hid (Below w.heap.size w w4) := bel_trans B3.out hb4
  clear hb4
  go_wp2
  exact bodyPost_ret (v := ov 0 0 ⟨#[]⟩ 1) (by simp [results, Tryz.results16, go_sem, *]) rfl ⟨rfl, put4_below (o := fl 1) B4.out (Nat.le_refl _)⟩
theorem c_Node_no (op : Int) (a : Option Addr) (n c : Nat) (l : List Ot) (hsz : 40 * n ≤ 140737488351232) (hf : fits op l = false) (w : World) (h : Outs w a n l) : Ret 16 #[.int .u8 op, .slice a n c] w (enc (node op l)) := by
  have hn : node op l = fl 1 := by unfold node; rw [hf]; rfl
  rw [hn]
  cases hq : kind op (l.map (·.k)) with
  | mk kk ee =>
    by_cases he : ee = 0
    · subst he
      have hv : l.all Ot.ok = false := by
        unfold fits at hf
        rw [hq] at hf
        simpa using hf
      exact c_Node_bad op kk a n c l hsz hq hv w h
    · exact c_Node_kind op kk ee he a n c l hsz hq w h
set_option maxRecDepth 100000 in
set_option maxHeartbeats 4000000 in
theorem c_Node_strict (op : Int) (h23 : op ≠ 23) (h24 : op ≠ 24) (h25 : op ≠ 25) (h26 : op ≠ 26) (z : Ot) (kk : Int) (a : Option Addr) (n c : Nat) (l : List Ot) (hsz : 40 * n ≤ 140737488351232) (hk : kind op (l.map (·.k)) = (kk, 0)) (hv : l.all Ot.ok = true)
    (hs : ∀ W, Outs W a n l → Ret 55 #[.int .u8 op, .slice a n c] W (enc z)) (w : World) (h : Outs w a n l) : Ret 16 #[.int .u8 op, .slice a n c] w (enc z) := by
  have HL := Lib.hid h
  have hK := Lib.hid hk
  have hV := Lib.hid hv
  have hS := Lib.hid hs
  have e23 : (op == 23) = false := by simp; omega
  have e24 : (op == 24) = false := by simp; omega
  have e25 : (op == 25) = false := by simp; omega
  have e26 : (op == 26) = false := by simp; omega
  clear h hk hv hs
  go_enter Tryz.func16, Tryz.ntmps16
  go_wp2_with fail
  have HL0 := Lib.hid (HL.out.below (bel_alloc (Below.refl _ w) (.cells #[.int .u8 0, .int .i64 0, .string ⟨#[]⟩, .int .i64 0] 34)))
  refine (c_kindsOf a n c l (by omega) _ HL0.out).mono ?_
  rintro e w1 ⟨⟨a2, rfl, hone⟩, hb1⟩
  have HX1 : Hid (Box w1 w.heap.size nul) := (Box.new w nul).below hb1
  have B1 : Hid (Below w.heap.size w w1) := bel_trans (bel_alloc (Below.refl _ _) _) hb1
  have HO := Lib.hid hone
  clear hb1 hone HL0
  go_wp2_with fail
  refine (c_Kind op a2 n n (l.map (·.k)) (Nat.le_refl _) (by omega) (by omega) _ HO.out).mono ?_
  rw [hK.out]
  rintro e w2 ⟨rfl, hb2⟩
  have HX2 := Lib.hid (HX1.out.below hb2)
  have B2 : Hid (Below w.heap.size w w2) := bel_trans B1.out hb2
  clear hb2 HX1 B1 HO
  simp only [kV]
  go_wp2_with fail
  refine (c_areValid a n c l (by omega) _ (HL.out.below B2.out)).mono ?_
  rw [hV.out]
  rintro e w3 ⟨rfl, hb3⟩
  have HX3 := Lib.hid (HX2.out.below hb3)
  have B3 : Hid (Below w.heap.size w w3) := bel_trans B2.out hb3
  clear hb3 HX2 B2
  go_wp2_with fail
  refine (hS.out _ (HL.out.below B3.out)).mono ?_
  rintro e w4 ⟨rfl, hb4⟩
  obtain ⟨hx, d0, d1, d2, d3, e0, e1, e2, e3⟩ := HX3.out.below hb4
  have B4 : Hid (Below w.heap.size w w4) := bel_trans B3.out hb4
  clear hb4
  go_wp2
  exact bodyPost_ret (v := ov z.k z.n z.s z.e) (by simp [results, Tryz.results16, go_sem, *]) rfl ⟨rfl, put4_below B4.out (Nat.le_refl _) _⟩
set_option maxRecDepth 100000 in
set_option maxHeartbeats 4000000 in
theorem c_Node_25c (z : Ot) (kk : Int) (a : Option Addr) (n c : Nat) (l : List Ot) (hsz : 40 * n ≤ 140737488351232) (hk : kind 25 (l.map (·.k)) = (kk, 0)) (hv : l.all Ot.ok = true)
    (hs : ∀ W, Outs W a n l → Ret 53 #[.slice a n c] W (enc z)) (w : World) (h : Outs w a n l) : Ret 16 #[.int .u8 25, .slice a n c] w (enc z) := by
  have HL := Lib.hid h
  have hK := Lib.hid hk
  have hV := Lib.hid hv
  have hS := Lib.hid hs
  clear h hk hv hs
  go_enter Tryz.func16, Tryz.ntmps16
  go_wp2_with fail
  have HL0 := Lib.hid (HL.out.below (bel_alloc (Below.refl _ w) (.cells #[.int .u8 0, .int .i64 0, .string ⟨#[]⟩, .int .i64 0] 34)))
  refine (c_kindsOf a n c l (by omega) _ HL0.out).mono ?_
  rintro e w1 ⟨⟨a2, rfl, hone⟩, hb1⟩
  have HX1 : Hid (Box w1 w.heap.size nul) := (Box.new w nul).below hb1
  have B1 : Hid (Below w.heap.size w w1) := bel_trans (bel_alloc (Below.refl _ _) _) hb1
  have HO := Lib.hid hone
  clear hb1 hone HL0
  go_wp2_with fail
  refine (c_Kind 25 a2 n n (l.map (·.k)) (Nat.le_refl _) (by omega) (by omega) _ HO.out).mono ?_
  rw [hK.out]
  rintro e w2 ⟨rfl, hb2⟩
  have HX2 := Lib.hid (HX1.out.below hb2)
  have B2 : Hid (Below w.heap.size w w2) := bel_trans B1.out hb2
  clear hb2 HX1 B1 HO
  simp only [kV]
  go_wp2_with fail
  refine (c_areValid a n c l (by omega) _ (HL.out.below B2.out)).mono ?_
  rw [hV.out]
  rintro e w3 ⟨rfl, hb3⟩
  have HX3 := Lib.hid (HX2.out.below hb3)
  have B3 : Hid (Below w.heap.size w w3) := bel_trans B2.out hb3
  clear hb3 HX2 B2
  go_wp2_with fail
  refine (hS.out _ (HL.out.below B3.out)).mono ?_
  rintro e w4 ⟨rfl, hb4⟩
  obtain ⟨hx, d0, d1, d2, d3, e0, e1, e2, e3⟩ := HX3.out.below hb4
  have B4 : Hid (Below w.heap.size w w4) := bel_trans B3.out hb4
  clear hb4
  go_wp2
  exact bodyPost_ret (v := ov z.k z.n z.s z.e) (by simp [results, Tryz.results16, go_sem, *]) rfl ⟨rfl, put4_below B4.out (Nat.le_refl _) _⟩
set_option maxRecDepth 100000 in
set_option maxHeartbeats 4000000 in
theorem c_Node_26c (z : Ot) (kk : Int) (a : Option Addr) (n c : Nat) (l : List Ot) (hsz : 40 * n ≤ 140737488351232) (hk : kind 26 (l.map (·.k)) = (kk, 0)) (hv : l.all Ot.ok = true)
    (hs : ∀ W, Outs W a n l → Ret 54 #[.slice a n c] W (enc z)) (w : World) (h : Outs w a n l) : Ret 16 #[.int .u8 26, .slice a n c] w (enc z) := by
  have HL := Lib.hid h
  have hK := Lib.hid hk
  have hV := Lib.hid hv
  have hS := Lib.hid hs
  clear h hk hv hs
  go_enter Tryz.func16, Tryz.ntmps16
  go_wp2_with fail
  have HL0 := Lib.hid (HL.out.below (bel_alloc (Below.refl _ w) (.cells #[.int .u8 0, .int .i64 0, .string ⟨#[]⟩, .int .i64 0] 34)))
  refine (c_kindsOf a n c l (by omega) _ HL0.out).mono ?_
  rintro e w1 ⟨⟨a2, rfl, hone⟩, hb1⟩
  have HX1 : Hid (Box w1 w.heap.size nul) := (Box.new w nul).below hb1
  have B1 : Hid (Below w.heap.size w w1) := bel_trans (bel_alloc (Below.refl _ _) _) hb1
  have HO := Lib.hid hone
  clear hb1 hone HL0
  go_wp2_with fail
  refine (c_Kind 26 a2 n n (l.map (·.k)) (Nat.le_refl _) (by omega) (by omega) _ HO.out).mono ?_
  rw [hK.out]
  rintro e w2 ⟨rfl, hb2⟩
  have HX2 := Lib.hid (HX1.out.below hb2)
  have B2 : Hid (Below w.heap.size w w2) := bel_trans B1.out hb2
  clear hb2 HX1 B1 HO
  simp only [kV]
  go_wp2_with fail
  refine (c_areValid a n c l (by omega) _ (HL.out.below B2.out)).mono ?_
  rw [hV.out]
  rintro e w3 ⟨rfl, hb3⟩
  have HX3 := Lib.hid (HX2.out.below hb3)
  have B3 : Hid (Below w.heap.size w w3) := bel_trans B2.out hb3
  clear hb3 HX2 B2
  go_wp2_with fail
  refine (hS.out _ (HL.out.below B3.out)).mono ?_
  rintro e w4 ⟨rfl, hb4⟩
  obtain ⟨hx, d0, d1, d2, d3, e0, e1, e2, e3⟩ := HX3.out.below hb4
  have B4 : Hid (Below w.heap.size w w4) := bel_trans B3.out hb4
  clear hb4
  go_wp2
  exact bodyPost_ret (v := ov z.k z.n z.s z.e) (by simp [results, Tryz.results16, go_sem, *]) rfl ⟨rfl, put4_below B4.out (Nat.le_refl _) _⟩
set_option maxRecDepth 100000 in
set_option maxHeartbeats 4000000 in
theorem c_first1 (o : Ot) (w : World) : Ret 88 #[enc o] w (.bool (!isNul o)) := by
  obtain ⟨ok, on, os, oe⟩ := o
  by_cases hq : ok = 0 ∧ on = 0 ∧ os.toList = [] ∧ oe = 0
  · have hR : Hid (isNul ⟨ok, on, os, oe⟩ = true) := by show _ = _; unfold isNul; exact decide_eq_true hq
    obtain ⟨rfl, rfl, hs, rfl⟩ := hq
    go_enter Tryz.func88, Tryz.ntmps88
    go_wp2_with fail
    refine region_far (by kernel_rfl) (by kernel_rfl) ?_
    repeat (go_big_quiet_step ((go_at_call 66; with_reducible exact call_far (c_null _))))
    refine wpQuiet_nil ?_
    intro wq hbq
    go_wp2
    go_ret
    exact ⟨ret_bool (by rw [hR.out]; rfl), bel_trans (bel_alloc (Below.refl _ _) _) hbq⟩
  · have hR : Hid (isNul ⟨ok, on, os, oe⟩ = false) := by show _ = _; unfold isNul; exact decide_eq_false hq
    by_cases h1 : ok = 0
    · by_cases h2 : on = 0
      · by_cases h3 : os.toList = []
        · have h4 : ¬ oe = 0 := fun h4 => hq ⟨h1, h2, h3, h4⟩
          clear hq
          go_enter Tryz.func88, Tryz.ntmps88
          go_wp2_with fail
          refine region_far (by kernel_rfl) (by kernel_rfl) ?_
          repeat (go_big_quiet_step ((go_at_call 66; with_reducible exact call_far (c_null _))))
          refine wpQuiet_nil ?_
          intro wq hbq
          go_wp2
          go_ret
          exact ⟨ret_bool (by rw [hR.out]; rfl), bel_trans (bel_alloc (Below.refl _ _) _) hbq⟩
        · clear hq
          go_enter Tryz.func88, Tryz.ntmps88
          go_wp2_with fail
          refine region_far (by kernel_rfl) (by kernel_rfl) ?_
          repeat (go_big_quiet_step ((go_at_call 66; with_reducible exact call_far (c_null _))))
          refine wpQuiet_nil ?_
          intro wq hbq
          go_wp2
          go_ret
          exact ⟨ret_bool (by rw [hR.out]; rfl), bel_trans (bel_alloc (Below.refl _ _) _) hbq⟩
      · clear hq
        go_enter Tryz.func88, Tryz.ntmps88
        go_wp2_with fail
        refine region_far (by kernel_rfl) (by kernel_rfl) ?_
        repeat (go_big_quiet_step ((go_at_call 66; with_reducible exact call_far (c_null _))))
        refine wpQuiet_nil ?_
        intro wq hbq
        go_wp2
        go_ret
        exact ⟨ret_bool (by rw [hR.out]; rfl), bel_trans (bel_alloc (Below.refl _ _) _) hbq⟩
    · clear hq
      go_enter Tryz.func88, Tryz.ntmps88
      go_wp2_with fail
      refine region_far (by kernel_rfl) (by kernel_rfl) ?_
      repeat (go_big_quiet_step ((go_at_call 66; with_reducible exact call_far (c_null _))))
      refine wpQuiet_nil ?_
      intro wq hbq
      go_wp2
      go_ret
      exact ⟨ret_bool (by rw [hR.out]; rfl), bel_trans (bel_alloc (Below.refl _ _) _) hbq⟩
theorem nul_isN {o : Ot} (h : o.ok = true) : isNul o = isN o := by
  cases hn : isN o with
  | true =>
    have := ok_null h hn
    subst this
    unfold isNul nul
    exact decide_eq_true ⟨rfl, rfl, ba_nil', rfl⟩
  | false =>
    unfold isNul
    apply decide_eq_false
    rintro ⟨h1, h2, h3, h4⟩
    unfold isN at hn
    rw [h1, h4] at hn
    simp at hn
theorem first_idx : ∀ (l : List Ot) (k0 : Nat), l.all Ot.ok = true → (idx (fun o => !isNul o) l k0 = -1 ∧ first l = nul) ∨ ∃ (j : Nat) (o : Ot), idx (fun o => !isNul o) l k0 = ((k0 + j : Nat) : Int) ∧ l[j]? = some o ∧ first l = o
  | [], k0, _ => .inl ⟨rfl, rfl⟩
  | o :: t, k0, h => by
    rw [List.all_cons, Bool.and_eq_true] at h
    have hn := nul_isN h.1
    cases hc : isN o with
    | true =>
      rw [hc] at hn
      have e1 : first (o :: t) = first t := by rw [first, hc, if_pos rfl]
      have e2 : idx (fun o => !isNul o) (o :: t) k0 = idx (fun o => !isNul o) t (k0 + 1) := by rw [idx, hn]; rfl
      rw [e1, e2]
      rcases first_idx t (k0 + 1) h.2 with h' | ⟨j, x, h1, h2, h3⟩
      · exact .inl h'
      · exact .inr ⟨j + 1, x, by rw [h1]; congr 1; omega, h2, h3⟩
    | false =>
      rw [hc] at hn
      refine .inr ⟨0, o, ?_, rfl, by rw [first, hc]; rfl⟩
      rw [idx, hn]
      rfl
set_option maxRecDepth 100000 in
set_option maxHeartbeats 4000000 in
theorem c_firstKnown (a : Option Addr) (n c : Nat) (l : List Ot) (hn : n ≤ 9223372036854775000) (hv : l.all Ot.ok = true) (w : World) (h : Outs w a n l) : Ret 54 #[.slice a n c] w (enc (first l)) := by
  have HL := Lib.hid h
  have hI : ∀ W, Outs W a n l → Ret 87 #[.slice a n c, .func (.func 88) #[] #[]] W (.int .i64 (idx (fun o => !isNul o) l 0)) := fun W h => l_IndexOut 88 #[] (fun _ _ => by kernel_rfl) (fun o => !isNul o) a n c l (by omega) W h (fun o _ w' _ => c_first1 o w')
  rcases first_idx l 0 hv with ⟨h1, h2⟩ | ⟨j, o, h1, h2, h3⟩
  · rw [h1] at hI
    rw [h2]
    clear h h1 h2 hv
    go_enter Tryz.func54, Tryz.ntmps54
    go_upto_region 3 with (go_at_call 87; refine (hI _ (HL.out.below (bel_alloc (Below.refl _ _) _))).mono ?_; rintro e w1 ⟨rfl, hb1⟩)
    have X1 : Hid (Box w1 w.heap.size nul) := (Box.new w nul).below hb1
    have B1 : Hid (Below w.heap.size w w1) := bel_trans (bel_alloc (Below.refl _ _) _) hb1
    clear hb1 hI
    go_wp2_with fail
    refine (c_null _).mono ?_
    rintro e w4 ⟨rfl, hb4⟩
    obtain ⟨hx, d0, d1, d2, d3, e0, e1, e2, e3⟩ := X1.out.below hb4
    have B4 : Hid (Below w.heap.size w w4) := bel_trans B1.out hb4
    clear hb4
    go_wp2
    exact bodyPost_ret (v := ov 0 0 ⟨#[]⟩ 0) (by simp [results, Tryz.results54, go_sem, *]) rfl ⟨rfl, put4_below (o := nul) B4.out (Nat.le_refl _)⟩
  · rw [h1, Nat.zero_add] at hI
    rw [h3]
    have hjl : j < n := by rw [h.len]; exact (List.getElem?_eq_some_iff.1 h2).1
    have HJ := Lib.hid h2
    clear h h1 h2 h3 hv
    go_enter Tryz.func54, Tryz.ntmps54
    go_upto_region 2 with (go_at_call 87; refine (hI _ (HL.out.below (bel_alloc (Below.refl _ _) _))).mono ?_; rintro e w1 ⟨rfl, hb1⟩)
    have B1 : Hid (Below w.heap.size w w1) := bel_trans (bel_alloc (Below.refl _ _) _) hb1
    obtain ⟨hx, d0, d1, d2, d3, e0, e1, e2, e3⟩ := (Box.new w nul).below hb1
    obtain ⟨g, q, o', rfl, hlk, hg, c0, c1, c2, c3⟩ := (HL.out.below B1.out).at_ j hjl
    obtain rfl : o' = o := Option.some.inj (hlk.symm.trans HJ.out)
    clear hb1 hI hlk
    go_wp2
    exact bodyPost_ret (v := ov o'.k o'.n o'.s o'.e) (by simp [results, Tryz.results54, go_sem, *]) rfl ⟨rfl, put4_below B1.out (Nat.le_refl _) _⟩
theorem fits_kind {op : Int} {l : List Ot} (h : fits op l = true) : l.all Ot.ok = true ∧ kind op (l.map (·.k)) = ((kind op (l.map (·.k))).1, 0) := by
  unfold fits at h
  rw [Bool.and_eq_true, beq_iff_eq] at h
  refine ⟨h.1, ?_⟩
  have h2 := h.2
  generalize kind op (l.map (·.k)) = q at h2 ⊢
  obtain ⟨q1, q2⟩ := q
  subst h2
  rfl
theorem c_Node_first (a : Option Addr) (n c : Nat) (l : List Ot) (hsz : 40 * n ≤ 140737488351232) (w : World) (h : Outs w a n l) : Ret 16 #[.int .u8 26, .slice a n c] w (enc (node 26 l)) := by
  cases hf : fits 26 l with
  | false => exact c_Node_no 26 a n c l hsz hf w h
  | true =>
    obtain ⟨hv, hk⟩ := fits_kind hf
    rw [node_26 hf]
    exact c_Node_26c (first l) _ a n c l hsz hk hv (fun W h => c_firstKnown a n c l (by omega) hv W h) w h
end Go.Proofs.YtefelelhgepkeaaGreatDoor.U
