/- IS NOT DISTINCT FROM, as a node. -/
import Derived.Test.YtefelelhgepkeaaGreatDoorTf
namespace Go.Proofs.YtefelelhgepkeaaGreatDoor.T
open Go.ChangeShapes Go.WideShapes Go.ChangeAt Go.RowKit Go.Proofs.YtefelelhgepkeaaGreatDoor.V Go.Proofs.YtefelelhgepkeaaGreatDoor.K
set_option maxRecDepth 100000 in
set_option maxHeartbeats 4000000 in
theorem c_strict18 (u v : Vl) (a : Option Addr) (c : Nat) (w : World) (h : Outs w a 2 [ofV u, ofV v]) : Ret 55 #[.int .u8 18, .slice a 2 c] w (enc (bo (same u.1 u.2.1 u.2.2 v.1 v.2.1 v.2.2))) := by
  obtain ⟨u1, u2, u3⟩ := u
  obtain ⟨v1, v2, v3⟩ := v
  have HL := Lib.hid h
  have hE : errs 0 [ofV (u1, u2, u3), ofV (v1, v2, v3)] = 0 := by simp [errs, ofV, lst]
  have hLe : ∀ W, Outs W a 2 [ofV (u1, u2, u3), ofV (v1, v2, v3)] → Ret 62 #[.slice a 2 c] W (.int .i64 0) := fun W h => by have := c_least a 2 c _ (by omega) W h; rwa [hE] at this
  clear h hE
  go_enter Tryz.func55, Tryz.ntmps55
  go_upto_region 4 with (go_at_call 62; refine (hLe _ (HL.out.below (bel_alloc (Below.refl _ _) _))).mono ?_; rintro e w1 ⟨rfl, hb1⟩)
  have B1 : Hid (Below w.heap.size w w1) := bel_trans (bel_alloc (Below.refl _ _) _) hb1
  have X1 : Hid (Box w1 w.heap.size nul) := (Box.new w nul).below hb1
  clear hb1
  go_cut [6, 7] from 8 (fun s6 s7 wc => ∃ b6 b7, s6 = .pointer (some ⟨b6, 0, none⟩) ∧ s7 = .pointer (some ⟨b7, 0, none⟩) ∧
    Hid (b6 < wc.heap.size ∧ wc.cell? ⟨b6, 0, none⟩ = some (.int .u8 u1) ∧ wc.cell? ⟨b6, 1, none⟩ = some (.int .i64 u2) ∧ wc.cell? ⟨b6, 2, none⟩ = some (.string u3)) ∧
    Hid (b7 < wc.heap.size ∧ wc.cell? ⟨b7, 0, none⟩ = some (.int .u8 v1) ∧ wc.cell? ⟨b7, 1, none⟩ = some (.int .i64 v2) ∧ wc.cell? ⟨b7, 2, none⟩ = some (.string v3)) ∧ Hid (Below w1.heap.size w1 wc))
  case first =>
    obtain ⟨g, p, o, rfl, e1, hg, c0, c1, c2, c3⟩ := (HL.out.below B1.out).at_ 0 (by omega)
    obtain ⟨g', p', o', e2, e3, -, d0, d1, d2, d3⟩ := (HL.out.below B1.out).at_ 1 (by omega)
    injection e2 with e2
    injection e2 with e4 e5
    subst e4; subst e5
    obtain rfl : ofV (u1, u2, u3) = o := Option.some.inj e1
    obtain rfl : ofV (v1, v2, v3) = o' := Option.some.inj e3
    simp only [ofV, Nat.zero_mul, Nat.one_mul, Nat.add_zero] at c0 c1 c2 d0 d1 d2
    clear e1 e3 c3 d3
    have hw : IntKind.i64.wrap (2 - 1) = 2 - 1 := by decide
    have hw1 : IntKind.i64.wrap 1 = 1 := by decide
    go_region_held3 (fun w' => w'.cell? ⟨g, p, none⟩ = some (.int .u8 u1) ∧ w'.cell? ⟨g, p + 1, none⟩ = some (.int .i64 u2) ∧ w'.cell? ⟨g, p + 2, none⟩ = some (.string u3) ∧ w'.cell? ⟨g, p + 4, none⟩ = some (.int .u8 v1) ∧ w'.cell? ⟨g, p + 4 + 1, none⟩ = some (.int .i64 v2) ∧ w'.cell? ⟨g, p + 4 + 2, none⟩ = some (.string v3)) (simp [*, go_sem, World.cell?_alloc_past]) (fail)
    all_goals
      go_wp2
      go_meet
      refine ⟨_, _, rfl, rfl, ?_, ?_, ?_⟩
      · exact ⟨by simp <;> omega, by simp [*, go_sem, World.cell?_alloc_past], by simp [*, go_sem, World.cell?_alloc_past], by simp [*, go_sem, World.cell?_alloc_past]⟩
      · exact ⟨by simp <;> omega, by simp [*, go_sem, World.cell?_alloc_past], by simp [*, go_sem, World.cell?_alloc_past], by simp [*, go_sem, World.cell?_alloc_past]⟩
      · show Below _ _ _
        repeat (first | exact Below.refl _ _ | (refine bel_trans ?_ (by assumption)) | (with_reducible apply bel_alloc) | (with_reducible apply Below.drew) | apply bel_alloc | apply Below.drew | refine bel_set ?_ (by simp; try omega) _)
  case rest =>
    obtain ⟨b6, b7, rfl, rfl, U, V, B⟩ := hcut
    have B2 : Hid (Below w.heap.size w wc) := bel_trans B1.out B.out
    have X2 : Hid (Box wc w.heap.size nul) := X1.out.below B.out
    obtain ⟨ul, c0, c1, c2⟩ := U.out
    obtain ⟨vl, d0, d1, d2⟩ := V.out
    clear B1 X1 B hLe HL U V
    by_cases hq : u1 = v1 ∧ u2 = v2 ∧ u3 = v3
    · obtain ⟨rfl, rfl, rfl⟩ := hq
      have hR : Hid (same u1 u2 u3 u1 u2 u3 = true) := same_iff.2 ⟨rfl, rfl, rfl⟩
      go_wp2_with (go_at_call 59; refine (c_truth true _).mono ?_; rintro e w4 ⟨rfl, hb4⟩; obtain ⟨hx, z0, z1, z2, z3, e0, e1, e2, e3⟩ := X2.out.below hb4)
      have B4 : Hid (Below w.heap.size w w4) := bel_trans B2.out hb4
      exact bodyPost_ret (v := ov 3 1 ⟨#[]⟩ 0) (by simp [results, Tryz.results55, go_sem, *]) rfl ⟨ret_v (by rw [hR.out]; rfl), put4_below (o := bo true) B4.out (Nat.le_refl _)⟩
    · have hR : Hid (same u1 u2 u3 v1 v2 v3 = false) := by
        show _ = _
        cases hs : same u1 u2 u3 v1 v2 v3 with
        | false => rfl
        | true => exact absurd (same_iff.1 hs) hq
      by_cases h1 : u1 = v1
      · by_cases h2 : u2 = v2
        · have h3 : ¬ u3 = v3 := fun h3 => hq ⟨h1, h2, h3⟩
          have h3' : ¬ u3.toList = v3.toList := fun h => h3 (ba_inj.1 h)
          clear hq
          go_wp2_with (go_at_call 59; refine (c_truth false _).mono ?_; rintro e w4 ⟨rfl, hb4⟩; obtain ⟨hx, z0, z1, z2, z3, e0, e1, e2, e3⟩ := X2.out.below hb4)
          have B4 : Hid (Below w.heap.size w w4) := bel_trans B2.out hb4
          exact bodyPost_ret (v := ov 3 0 ⟨#[]⟩ 0) (by simp [results, Tryz.results55, go_sem, *]) rfl ⟨ret_v (by rw [hR.out]; rfl), put4_below (o := bo false) B4.out (Nat.le_refl _)⟩
        · clear hq
          go_wp2_with (go_at_call 59; refine (c_truth false _).mono ?_; rintro e w4 ⟨rfl, hb4⟩; obtain ⟨hx, z0, z1, z2, z3, e0, e1, e2, e3⟩ := X2.out.below hb4)
          have B4 : Hid (Below w.heap.size w w4) := bel_trans B2.out hb4
          exact bodyPost_ret (v := ov 3 0 ⟨#[]⟩ 0) (by simp [results, Tryz.results55, go_sem, *]) rfl ⟨ret_v (by rw [hR.out]; rfl), put4_below (o := bo false) B4.out (Nat.le_refl _)⟩
      · clear hq
        go_wp2_with (go_at_call 59; refine (c_truth false _).mono ?_; rintro e w4 ⟨rfl, hb4⟩; obtain ⟨hx, z0, z1, z2, z3, e0, e1, e2, e3⟩ := X2.out.below hb4)
        have B4 : Hid (Below w.heap.size w w4) := bel_trans B2.out hb4
        exact bodyPost_ret (v := ov 3 0 ⟨#[]⟩ 0) (by simp [results, Tryz.results55, go_sem, *]) rfl ⟨ret_v (by rw [hR.out]; rfl), put4_below (o := bo false) B4.out (Nat.le_refl _)⟩
set_option maxRecDepth 100000 in
set_option maxHeartbeats 4000000 in
theorem c_Node_same (u v : Vl) (hu : vOk u = true) (hv : vOk v = true) (ha : agree u.1 v.1 = true) (a : Option Addr) (c : Nat) (w : World) (h : Outs w a 2 [ofV u, ofV v]) :
    Ret 16 #[.int .u8 18, .slice a 2 c] w (enc (node 18 [ofV u, ofV v])) := by
  have HL := Lib.hid h
  have hK : Hid (kind 18 ([ofV u, ofV v].map (·.k)) = (3, 0)) := by
    have hs : sortOf 18 = (4, 2) := by decide +kernel
    have ku := vd_kind (show vd u.1 u.2.1 u.2.2 = true from hu)
    have kv := vd_kind (show vd v.1 v.2.1 v.2.2 = true from hv)
    have e1 : decide (u.1 ≤ 3) = true := by simp; omega
    have e2 : decide (v.1 ≤ 3) = true := by simp; omega
    show _ = _
    unfold kind takes
    simp only [hs, List.map_cons, List.map_nil, List.length_cons, List.length_nil, kindOf, List.getD_cons_zero, List.getD_cons_succ, ofV, ha, e1, e2, List.all_cons, List.all_nil]
    rfl
  have hV : Hid ([ofV u, ofV v].all Ot.ok = true) := by show _ = _; simp [ofV_ok hu, ofV_ok hv]
  have hS : Hid (∀ W, Outs W a 2 [ofV u, ofV v] → Ret 55 #[.int .u8 18, .slice a 2 c] W (enc (node 18 [ofV u, ofV v]))) := fun W h => by rw [node_same ⟨rfl, rfl, ofV_ok hu, ofV_ok hv, ha⟩]; exact c_strict18 u v a c W h
  clear h ha hu hv
  go_enter Tryz.func16, Tryz.ntmps16
  go_wp2_with fail
  have HL0 := Lib.hid (HL.out.below (bel_alloc (Below.refl _ w) (.cells #[.int .u8 0, .int .i64 0, .string ⟨#[]⟩, .int .i64 0] 34)))
  refine (c_kindsOf a 2 c [ofV u, ofV v] (by omega) _ HL0.out).mono ?_
  rintro e w1 ⟨⟨a2, rfl, hone⟩, hb1⟩
  have HX1 : Hid (Box w1 w.heap.size nul) := (Box.new w nul).below hb1
  have B1 : Hid (Below w.heap.size w w1) := bel_trans (bel_alloc (Below.refl _ _) _) hb1
  have HO := Lib.hid hone
  clear hb1 hone HL0
  go_wp2_with fail
  refine (c_Kind 18 a2 2 2 ([ofV u, ofV v].map (·.k)) (Nat.le_refl _) (by omega) (by omega) _ HO.out).mono ?_
  rw [hK.out]
  rintro e w2 ⟨rfl, hb2⟩
  have HX2 := Lib.hid (HX1.out.below hb2)
  have B2 : Hid (Below w.heap.size w w2) := bel_trans B1.out hb2
  clear hb2 HX1 B1 HO
  simp only [kV]
  go_wp2_with fail
  refine (c_areValid a 2 c [ofV u, ofV v] (by omega) _ (HL.out.below B2.out)).mono ?_
  rw [hV.out]
  rintro e w3 ⟨rfl, hb3⟩
  have HX3 := Lib.hid (HX2.out.below hb3)
  have B3 : Hid (Below w.heap.size w w3) := bel_trans B2.out hb3
  clear hb3 HX2 B2
  go_wp2_with fail
  refine (hS.out _ (HL.out.below B3.out)).mono ?_
  rintro e w4 ⟨rfl, hb4⟩
  obtain ⟨hx, d0, d1, d2, d3, e0, e1, e2, e3⟩ := HX3.out.below hb4
  have B4 : Hid (Below w.heap.size w w4) := bel_trans B3.out hb4
  clear hb4
  generalize hz : node 18 [ofV u, ofV v] = z
  have hz := Lib.hid hz
  go_wp2
  exact bodyPost_ret (v := ov z.k z.n z.s z.e) (by simp [results, Tryz.results16, go_sem, *]) rfl ⟨ret_v (by rw [hz.out]), put4_below B4.out (Nat.le_refl _) _⟩
end Go.Proofs.YtefelelhgepkeaaGreatDoor.T
