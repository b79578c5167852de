/- The law about IN: its walk. -/
import Derived.Test.YtefelelhgepkeaaGreatDoorTj
import Derived.Test.YtefelelhgepkeaaGreatDoorDc
import Derived.StillTailTactics
namespace Go.Proofs.YtefelelhgepkeaaGreatDoor.T
open Go.ChangeShapes Go.WideShapes Go.ChangeAt Go.RowKit Go.Proofs.YtefelelhgepkeaaGreatDoor.V Go.Proofs.YtefelelhgepkeaaGreatDoor.K Go.Proofs.YtefelelhgepkeaaGreatDoor.KD Go.Proofs.YtefelelhgepkeaaGreatDoor.S
/-- The equality with a value, as a condition. -/
def eqO (x v : Vl) : Ot := node 12 [ofV x, ofV v]
theorem pair_vals {x v : Vl} (hx : vOk x = true) (hv : vOk v = true) (ha : agree x.1 v.1 = true) : pairOk (ofV x) (ofV v) := ⟨rfl, rfl, ofV_ok hx, ofV_ok hv, ha⟩
theorem tr_cmp {op : Int} (h1 : 12 ≤ op) (h2 : op ≤ 17) {a b : Ot} (h : pairOk a b) : tr (node op [a, b]) = true := by
  rw [node_cmp h1 h2 h]
  split
  · decide +kernel
  · obtain ⟨c, hc⟩ := cmpO_bo op (cmpV a.k a.n a.s b.k b.n b.s)
    rw [hc]
    cases c <;> decide +kernel
theorem all_eqs {x : Vl} (hx : vOk x = true) {l : List Vl} (h : ∀ v ∈ l, vOk v = true ∧ agree x.1 v.1 = true) : (l.map (eqO x)).all tr = true := by
  rw [List.all_eq_true]
  intro o ho
  obtain ⟨v, hv, rfl⟩ := List.mem_map.1 ho
  exact tr_cmp (by decide) (by decide) (pair_vals hx (h v hv).1 (h v hv).2)
theorem below_drew (W : World) : Below W.heap.size W W.drew := ⟨rfl, rfl, rfl, Nat.le_refl _, fun _ _ => rfl⟩
theorem step_app {P : Program} {ops : Array Oper} {o : Oper} {a : Act} {w w' : World} {K : Act → World → Prop} {Q : Exit → Act → World → Prop} {E : Prop} (hgd : o.guard = none) {s x : Operand} {t : TypeId} {v vx v' : Value}
    (ho : o.op = .call { callee := .builtin .append, args := #[s, x], argTypes := #[t, t] }) (hs : a.eval s = v) (hx : a.eval x = vx) (hr : (Builtin.append_ #[t, t] o.type #[v, vx]).run P w = .ok v' w')
    (h : K (a.put o.dst v') w') : if Region.wanted o (yielded ops a.tmps) = true then Oper.wp P o a w K Q else E := by
  have hw : Region.wanted o (yielded ops a.tmps) = true := by simp [Region.wanted, hgd]
  rw [if_pos hw]
  unfold Oper.wp execOp
  simp only [ho, resolve, invoke, builtin, Sem.run_bind, Sem.run_pure, Result.andThen_ok, List.map_toArray, List.map_cons, List.map_nil, hs, hx, hr]
  exact h
theorem heads1 : ∀ l : List Vl, (l.map fun v => [v]).map hd = l
  | [] => rfl
  | v :: t => by rw [List.map_cons, List.map_cons, heads1 t]; rfl
theorem heads_of {xs : List Rw} {l : List Vl} (h : xs.map (·.2) = l.map (fun v => [v])) : (xs.map (·.2)).map hd = l := by rw [h, heads1]
theorem okCol_of {l : List Vl} (h : ∀ v ∈ l, vOk v = true) : okCol 0 (l.map fun v => [v]) = true := by
  unfold okCol okOut
  simp only [if_true, Bool.and_eq_true, List.all_eq_true]
  refine ⟨fun r hr u hu => ?_, fun r hr => ?_⟩
  · obtain ⟨v, hv, rfl⟩ := List.mem_map.1 hr
    rw [List.mem_singleton.1 hu]
    exact h v hv
  · obtain ⟨v, hv, rfl⟩ := List.mem_map.1 hr
    rfl
theorem in_is {x : Vl} (hx : vOk x = true) {xs : List Rw} {l : List Vl} (h : ∀ v ∈ l, vOk v = true ∧ agree x.1 v.1 = true) (he : xs.map (·.2) = l.map fun v => [v]) : inO (ofV x) 0 (xs.map (·.2)) = node 24 (l.map (eqO x)) := by
  have h1 : ((ofV x).ok && okCol 0 (xs.map (·.2))) = true := by rw [he, ofV_ok hx, okCol_of fun v hv => (h v hv).1]; rfl
  unfold inO
  rw [if_pos h1, if_neg (by simp [ofV, lst]), heads_of he, law_in x hx l false h, node_or (all_eqs hx h), ← chain_is true (all_eqs hx h)]
  rfl
theorem rows2_of {w W : World} {x : Vl} {b : Nat} {a : Option Addr} {m c : Nat} {ve : Value} {xs : List Rw} {es : List Ot} (h : St w W x b (.slice a m c) ve xs es) (hm : m = xs.length) : Rows2 W a m xs := by
  refine ⟨⟨hm, fun k hk => ?_⟩, fun y hy => ?_⟩
  · have hkl : k < xs.length := by omega
    have hx : xs[k]? = some xs[k] := List.getElem?_eq_getElem hkl
    rcases h.r.2 with ⟨e1, hn⟩ | ⟨g, cap, cur, e1, -, hg, hnc, hcm, -, -⟩
    · omega
    · injection e1 with e1 e2 e3
      subst e1
      have hc := h.r.cells (g := g) rfl k (rI xs[k]) (by rw [List.getElem?_map, hx]; rfl)
      rw [Addr.add_lit] at hc
      exact ⟨g, 0, xs[k], rfl, hx, (Array.getElem?_eq_some_iff.1 hg).1, hc⟩
  · obtain ⟨g, u, rfl, hv, -, -⟩ := h.rows y hy
    refine ⟨⟨rfl, fun k hk => ?_⟩, by simp⟩
    have hk0 : k = 0 := by have : k < 1 := hk; omega
    subst hk0
    exact ⟨g, 0, u, rfl, rfl, hv.lt, hv.c0, hv.c1, hv.c2⟩
theorem St.new (w W : World) (x : Vl) (hv : VBox W w.heap.size x) (hb : Below w.heap.size w W) : St w W x w.heap.size (.slice none 0 0) (.slice none 0 0) [] [] :=
  ⟨World.ownsRow_nil _ _ _ _, World.ownsRow_nil _ _ _ _, (fun k e => by cases e), (fun y hy => by cases hy), hv, by simp [Value.ownBlock], by simp [Value.ownBlock], hb⟩
set_option maxRecDepth 100000 in
set_option maxHeartbeats 8000000 in
theorem walkIn (x : Vl) (a : Option Addr) (n c : Nat) (l : List Vl) (hn : n ≤ 1048576) (w : World) (h : Vals w a n l) :
    Ret 10 #[val x.1 x.2.1 x.2.2, .slice a n c] w (.bool true) := by
  have H1 := Lib.hid h
  have hlen := Lib.hid h.len
  have hV : ∀ W, Ret 29 #[val x.1 x.2.1 x.2.2] W (.bool (vOk x)) := fun W => r_Valid _ _ _ W
  clear h
  obtain ⟨xk, xn, xs0⟩ := x
  by_cases hx : vOk (xk, xn, xs0) = true
  case neg =>
    rw [show vOk (xk, xn, xs0) = false by simpa using hx] at hV
    clear hx
    go_enter Tryz.func10, Tryz.ntmps10
    go_wp2_with (first | (go_at_call 29; refine (hV _).mono ?_; rintro e w1 ⟨rfl, hb1⟩) | (go_at_call 13; refine (awake _).mono ?_; rintro e w2 ⟨rfl, hb2⟩))
    have B : Below w.heap.size w w2 := bel_trans (bel_trans (bel_alloc (Below.refl _ _) _) hb1) hb2
    first | exact bodyPost_ret (v := .bool true) (by simp [results, Tryz.results10, go_sem, *]) rfl ⟨rfl, B⟩ | (go_ret; exact ⟨rfl, B⟩)
  rw [hx] at hV
  have HX := Lib.hid hx
  clear hx
  go_enter Tryz.func10, Tryz.ntmps10
  go_wp2_with (go_at_call 29; refine (hV _).mono ?_; rintro e w1 ⟨rfl, hb1⟩)
  have S0 : Hid (St w w1 (xk, xn, xs0) w.heap.size (.slice none 0 0) (.slice none 0 0) [] []) := St.new w w1 (xk, xn, xs0) ((VBox.new w xk xn xs0).below hb1) (bel_trans (bel_alloc (Below.refl _ _) _) hb1)
  clear hb1 hV
  go_loopw [5, 6, 7] (fun s5 s6 s7 wr => ∃ (k : Nat) (a5 a6 : Option Addr) (m5 m6 c5 c6 : Nat) (xs : List Rw) (es : List Ot), k ≤ n ∧ s7 = .int .i64 k ∧ s5 = .slice a5 m5 c5 ∧ s6 = .slice a6 m6 c6 ∧ Hid (m5 = xs.length) ∧ Hid (m6 = es.length) ∧ Hid (xs.length = k) ∧
      Hid (xs.map (·.2) = (l.take k).map fun v => [v]) ∧ Hid (es = (l.take k).map (eqO (xk, xn, xs0))) ∧ Hid (∀ v ∈ l.take k, vOk v = true ∧ agree xk v.1 = true) ∧ Hid (St w wr (xk, xn, xs0) w.heap.size (.slice a5 m5 c5) (.slice a6 m6 c6) xs es)) (fun _ _ s7 _ => n - (intOf s7).toNat)
  case atStart => exact ⟨0, none, none, 0, 0, 0, 0, [], [], by omega, rfl, rfl, rfl, rfl, rfl, rfl, rfl, rfl, (fun v hv => by rw [List.take_zero] at hv; cases hv), S0.out⟩
  case round =>
    obtain ⟨k, a5, a6, m5, m6, c5, c6, xs, es, hk, rfl, rfl, rfl, M5, M6, LX, EX, EE, HA, HS⟩ := hrel
    by_cases hlt : k < n
    · obtain ⟨g, q, v, rfl, hlk, hg, c0, c1, c2⟩ := (H1.out.below HS.out.bel).at_ k hlt
      obtain ⟨vk, vn, vs⟩ := v
      have htake : l.take (k + 1) = l.take k ++ [(vk, vn, vs)] := by rw [List.take_add_one, hlk]; rfl
      have hvv : ∀ W, Ret 29 #[val vk vn vs] W (.bool (vOk (vk, vn, vs))) := fun W => r_Valid _ _ _ W
      have hag : ∀ W, Ret 30 #[.int .u8 xk, .int .u8 vk] W (.bool (agree xk vk)) := fun W => r_Agree _ _ W
      obtain ⟨xl, x0, x1, x2⟩ := HS.out.x
      by_cases hv : vOk (vk, vn, vs) = true
      case neg =>
        rw [show vOk (vk, vn, vs) = false by simpa using hv] at hvv
        clear hv hag htake hlk M5 M6 LX EX EE HA
        go_upto_region 8 with fail
        refine region_far (by kernel_rfl) (by kernel_rfl) ?_
        repeat (go_big_quiet_step ((first | (go_at_call 29; with_reducible exact call_far (hvv _)))))
        refine wpQuiet_nil ?_
        intro wq hbq
        have BQ : Hid (Below w.heap.size w wq) := bel_trans HS.out.bel hbq
        go_wp2_with (go_at_call 13; refine (awake _).mono ?_; rintro e w2 ⟨rfl, hb2⟩)
        first | exact bodyPost_ret (v := .bool true) (by simp [results, Tryz.results10, go_sem, *]) rfl ⟨rfl, bel_trans BQ.out hb2⟩ | (go_ret; exact ⟨rfl, bel_trans BQ.out hb2⟩)
      rw [hv] at hvv
      by_cases ha : agree xk vk = true
      case neg =>
        rw [show agree xk vk = false by simpa using ha] at hag
        clear hv ha htake hlk M5 M6 LX EX EE HA
        go_upto_region 8 with fail
        refine region_far (by kernel_rfl) (by kernel_rfl) ?_
        repeat (go_big_quiet_step ((first | (go_at_call 29; with_reducible exact call_far (hvv _)) | (go_at_call 30; with_reducible exact call_far (hag _)))))
        refine wpQuiet_nil ?_
        intro wq hbq
        have BQ : Hid (Below w.heap.size w wq) := bel_trans HS.out.bel hbq
        go_wp2_with (go_at_call 13; refine (awake _).mono ?_; rintro e w2 ⟨rfl, hb2⟩)
        first | exact bodyPost_ret (v := .bool true) (by simp [results, Tryz.results10, go_sem, *]) rfl ⟨rfl, bel_trans BQ.out hb2⟩ | (go_ret; exact ⟨rfl, bel_trans BQ.out hb2⟩)
      rw [ha] at hag
      have HV := Lib.hid hv
      have HG := Lib.hid ha
      have HK := Lib.hid hlk
      have HT := Lib.hid htake
      clear hv ha hlk htake
      go_upto_region 8 with fail
      refine region_far (by kernel_rfl) (by kernel_rfl) ?_
      repeat (go_big_quiet_step ((first | (go_at_call 29; with_reducible exact call_far (hvv _)) | (go_at_call 30; with_reducible exact call_far (hag _)))))
      refine wpQuiet_nil ?_
      intro wq hbq
      have SQ : Hid (St w wq (xk, xn, xs0) w.heap.size (.slice a5 m5 c5) (.slice a6 m6 c6) xs es) := HS.out.below hbq
      replace c0 := (hbq.cell (p := ⟨g, _, none⟩) hg).trans c0
      replace c1 := (hbq.cell (p := ⟨g, _, none⟩) hg).trans c1
      replace c2 := (hbq.cell (p := ⟨g, _, none⟩) hg).trans c2
      obtain ⟨a2, m2, cp2, w2, f1, hm2, S2⟩ := SQ.out.row vk vn vs (by have := LX.out; omega)
      have F1 := Lib.hid f1
      clear f1 x0 x1 x2 xl hvv hag hbq HS
      go_upto_region 11 with (at_builtin; refine app_list rfl rfl rfl rfl F1.out ?_)
      obtain ⟨g', q', v', hgq, hlk', hg', d0, d1, d2⟩ := (H1.out.below S2.out.bel).at_ k hlt
      obtain ⟨rfl, rfl⟩ : g = g' ∧ q = q' := by simpa using hgq
      obtain rfl : v' = (vk, vn, vs) := Option.some.inj (hlk'.symm.trans HK.out)
      obtain ⟨xl, x0, x1, x2⟩ := S2.out.x
      have hN : ∀ W : World, Ret 16 #[.int .u8 12, .slice (some ⟨W.heap.size, 0, none⟩) 2 2] (W.alloc (.cells #[.int .u8 xk, .int .i64 xn, .string xs0, .int .i64 0, .int .u8 vk, .int .i64 vn, .string vs, .int .i64 0] 34)).drew (enc (eqO (xk, xn, xs0) (vk, vn, vs))) :=
        fun W => c_Node_cmp 12 (by decide) (by decide) (xk, xn, xs0) (vk, vn, vs) HX.out HV.out HG.out (some ⟨W.heap.size, 0, none⟩) 2 _ ((outs_two W (ofV (xk, xn, xs0)) (ofV (vk, vn, vs))).below (below_drew _))
      have EZ : Hid (es ++ [eqO (xk, xn, xs0) (vk, vn, vs)] = (l.take (k + 1)).map (eqO (xk, xn, xs0))) := by
        show _ = _
        rw [HT.out, List.map_append, ← EE.out]; rfl
      generalize eqO (xk, xn, xs0) (vk, vn, vs) = z at hN EZ
      clear F1 hgq hlk' c0 c1 c2 SQ
      have HKP : Hid (∀ W', VBox W' w.heap.size (xk, xn, xs0) → Below w.heap.size w W' → W'.cell? ⟨w.heap.size, 0, none⟩ = some (.int .u8 xk) ∧ W'.cell? ⟨w.heap.size, 1, none⟩ = some (.int .i64 xn) ∧ W'.cell? ⟨w.heap.size, 2, none⟩ = some (.string xs0) ∧
          W'.cell? ⟨g, q + k * 3, none⟩ = some (.int .u8 vk) ∧ W'.cell? ⟨g, q + k * 3 + 1, none⟩ = some (.int .i64 vn) ∧ W'.cell? ⟨g, q + k * 3 + 2, none⟩ = some (.string vs)) := fun W' hx hb => by
        obtain ⟨g2, q2, v2, hgq2, hlk2, hg2, e0, e1, e2⟩ := (H1.out.below hb).at_ k hlt
        obtain ⟨rfl, rfl⟩ : g = g2 ∧ q = q2 := by simpa using hgq2
        obtain rfl : v2 = (vk, vn, vs) := Option.some.inj (hlk2.symm.trans HK.out)
        exact ⟨hx.c0, hx.c1, hx.c2, e0, e1, e2⟩
      go_region_held3 (fun W' => W'.cell? ⟨w.heap.size, 0, none⟩ = some (.int .u8 xk) ∧ W'.cell? ⟨w.heap.size, 1, none⟩ = some (.int .i64 xn) ∧ W'.cell? ⟨w.heap.size, 2, none⟩ = some (.string xs0) ∧
          W'.cell? ⟨g, q + k * 3, none⟩ = some (.int .u8 vk) ∧ W'.cell? ⟨g, q + k * 3 + 1, none⟩ = some (.int .i64 vn) ∧ W'.cell? ⟨g, q + k * 3 + 2, none⟩ = some (.string vs)) (first | exact HKP.out _ S4.out.x S4.out.bel | exact HKP.out _ (S2.out.x.below (by repeat (first | exact Below.refl _ _ | assumption | exact Go.Proofs.YtefelelhgepkeaaGreatDoor.V.below_drewN _ _ | (refine bel_trans ?_ (Go.Proofs.YtefelelhgepkeaaGreatDoor.V.below_drewN _ _)) | (refine bel_trans ?_ (by assumption)) | (with_reducible apply bel_alloc) | (with_reducible apply Below.drew) | apply bel_alloc | apply Below.drew | refine bel_set ?_ (by simp; try omega) _))) (bel_trans S2.out.bel (by repeat (first | exact Below.refl _ _ | assumption | exact Go.Proofs.YtefelelhgepkeaaGreatDoor.V.below_drewN _ _ | (refine bel_trans ?_ (Go.Proofs.YtefelelhgepkeaaGreatDoor.V.below_drewN _ _)) | (refine bel_trans ?_ (by assumption)) | (with_reducible apply bel_alloc) | (with_reducible apply Below.drew) | apply bel_alloc | apply Below.drew | refine bel_set ?_ (by simp; try omega) _))))
        (first | (go_at_call 16; refine (hN _).mono ?_; rintro e w3 ⟨rfl, hb3⟩; obtain ⟨a3, m3, cp3, w4, f2, hm3, S4⟩ := (S2.out.below (W' := w3) (by repeat (first | exact Below.refl _ _ | assumption | exact Go.Proofs.YtefelelhgepkeaaGreatDoor.V.below_drewN _ _ | (refine bel_trans ?_ (Go.Proofs.YtefelelhgepkeaaGreatDoor.V.below_drewN _ _)) | (refine bel_trans ?_ (by assumption)) | (with_reducible apply bel_alloc) | (with_reducible apply Below.drew) | apply bel_alloc | apply Below.drew | refine bel_set ?_ (by simp; try omega) _))).out z (by have := LX.out; have := congrArg List.length EE.out; simp at this; omega)) | (refine step_app rfl rfl rfl rfl f2 ?_))
      go_wp2
      refine ⟨⟨k + 1, a2, a3, m2, m3, cp2, cp3, xs ++ [((some ⟨wq.heap.size, 0, none⟩, 1, 1), [(vk, vn, vs)])], es ++ [z], by omega, by go_num, rfl, rfl, ?_, ?_, ?_, ?_, EZ.out, ?_, S4⟩, by simp [intOf]; omega⟩
      · show _ = _; rw [hm2.out]; simp
      · show _ = _; rw [hm3.out]; simp
      · show _ = _; rw [List.length_append, LX.out]; rfl
      · show _ = _
        rw [HT.out, List.map_append, List.map_append, EX.out]; rfl
      · show ∀ u ∈ _, _
        rw [HT.out]
        intro u hu
        rcases List.mem_append.1 hu with hu | hu
        · exact HA.out u hu
        · rw [List.mem_singleton.1 hu]; exact ⟨HV.out, HG.out⟩
    · have hkn : k = n := by omega
      have hl : l.take k = l := List.take_of_length_le (by have := hlen.out; omega)
      rw [hl] at EX EE HA
      have hz := in_is (x := (xk, xn, xs0)) HX.out HA.out EX.out
      have hRows := Lib.hid (rows2_of HS.out M5.out)
      have hOuts : Hid (Outs wr a6 m6 es) := by
        have h := HS.out.e
        rw [← M6.out] at h
        exact own_outs h M6.out
      have hle := congrArg List.length EE.out
      simp only [List.length_map] at hle
      have hIn : ∀ W, Below wr.heap.size wr W → Ret 23 #[ov xk xn xs0 0, .agg #[.slice a5 m5 c5, .int .i64 0]] W (enc (node 24 (l.map (eqO (xk, xn, xs0))))) := fun W hb => by
        have h := c_In (ofV (xk, xn, xs0)) a5 m5 c5 0 xs (by have := M5.out; have := LX.out; omega) W (hRows.out.below hb)
        rwa [hz] at h
      have hOr : ∀ W, Below wr.heap.size wr W → Ret 16 #[.int .u8 24, .slice a6 m6 c6] W (enc (node 24 (l.map (eqO (xk, xn, xs0))))) := fun W hb => by
        have h := c_Node_or a6 m6 c6 es (by have := M6.out; have := hlen.out; omega) (by rw [EE.out]; exact all_eqs HX.out HA.out) W (hOuts.out.below hb)
        rwa [EE.out] at h
      generalize node 24 (l.map (eqO (xk, xn, xs0))) = z at hIn hOr
      have hS : ∀ W, Ret 18 #[ov z.k z.n z.s z.e, ov z.k z.n z.s z.e] W (.bool true) := fun W => by have h := r_Same5 z z W; rw [sameO_refl] at h; exact h
      obtain ⟨xl, x0, x1, x2⟩ := HS.out.x
      have BW : Hid (Below w.heap.size w wr) := HS.out.bel
      clear EX EE HA hz hl hle hRows hOuts HS M5 M6 LX
      go_upto_region 13 with (go_at_call 23; refine (hIn _ (Below.refl _ _)).mono ?_; rintro e w1 ⟨rfl, hb1⟩)
      have X1 : Box (w1.alloc (.cells #[.int .u8 z.k, .int .i64 z.n, .string z.s, .int .i64 z.e] 34)) w1.heap.size z := Box.new w1 z
      have B1 : Below wr.heap.size wr (w1.alloc (.cells #[.int .u8 z.k, .int .i64 z.n, .string z.s, .int .i64 z.e] 34)) := bel_alloc hb1 _
      generalize w1.alloc (.cells #[.int .u8 z.k, .int .i64 z.n, .string z.s, .int .i64 z.e] 34) = W2 at X1 B1 ⊢
      have HB1 := Lib.hid B1
      obtain ⟨i1, d0, d1, d2, d3, -, -, -, -⟩ := X1
      clear B1 x0 x1 x2 xl
      refine region_far (by kernel_rfl) (by kernel_rfl) ?_
      repeat (go_big_quiet_step ((first | (go_at_call 16; with_reducible exact call_far (hOr _ (bel_trans HB1.out (below_far _ _)))) | (go_at_call 18; with_reducible exact call_far (hS _)) | (go_at_call 13; with_reducible exact call_far (awake _)))))
      refine wpQuiet_nil ?_
      intro wz hbz
      go_wp2
      first | exact bodyPost_ret (v := .bool true) (by simp [results, Tryz.results10, go_sem, *]) rfl ⟨rfl, bel_trans (bel_trans BW.out HB1.out) hbz⟩ | (go_ret; exact ⟨rfl, bel_trans (bel_trans BW.out HB1.out) hbz⟩)
end Go.Proofs.YtefelelhgepkeaaGreatDoor.T
