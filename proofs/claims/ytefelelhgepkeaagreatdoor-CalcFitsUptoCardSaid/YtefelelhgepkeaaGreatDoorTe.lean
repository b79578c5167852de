/- Comparisons of two values, whole. -/
import Derived.Test.YtefelelhgepkeaaGreatDoorTd
namespace Go.Proofs.YtefelelhgepkeaaGreatDoor.T
open Go.ChangeShapes Go.WideShapes Go.ChangeAt Go.RowKit Go.Proofs.YtefelelhgepkeaaGreatDoor.V Go.Proofs.YtefelelhgepkeaaGreatDoor.K
set_option maxRecDepth 100000 in
set_option maxHeartbeats 4000000 in
theorem c_strict2n (op : Int) (h18 : (op == 18) = false) (h20 : (op == 20) = false) (h21 : (op == 21) = false) (u v : Vl) (hC : [ofV u, ofV v].any isNul = true)
    (a : Option Addr) (c : Nat) (w : World) (h : Outs w a 2 [ofV u, ofV v]) : Ret 55 #[.int .u8 op, .slice a 2 c] w (ov 0 0 ⟨#[]⟩ 0) := by
  have HL := Lib.hid h
  have hE : errs 0 [ofV u, ofV v] = 0 := by simp [errs, ofV, lst]
  have hLe : ∀ W, Outs W a 2 [ofV u, ofV v] → Ret 62 #[.slice a 2 c] W (.int .i64 0) := fun W h => by have := c_least a 2 c _ (by omega) W h; rwa [hE] at this
  have hCo : ∀ W, Outs W a 2 [ofV u, ofV v] → Ret 90 #[.slice a 2 c, ov 0 0 ⟨#[]⟩ 0] W (.bool true) := fun W h => by have := l_ContainsN a 2 c _ (by omega) W h; rwa [hC] at this
  clear h hE hC
  go_enter Tryz.func55, Tryz.ntmps55
  go_upto_region 4 with (go_at_call 62; refine (hLe _ (HL.out.below (bel_alloc (Below.refl _ _) _))).mono ?_; rintro e w1 ⟨rfl, hb1⟩)
  have B1 : Hid (Below w.heap.size w w1) := bel_trans (bel_alloc (Below.refl _ _) _) hb1
  have X1 : Hid (Box w1 w.heap.size nul) := (Box.new w nul).below hb1
  clear hb1
  go_cut [6, 7] from 8 (fun s6 s7 wc => ∃ b6 b7, s6 = .pointer (some ⟨b6, 0, none⟩) ∧ s7 = .pointer (some ⟨b7, 0, none⟩) ∧
    Hid (b6 < wc.heap.size ∧ wc.cell? ⟨b6, 0, none⟩ = some (.int .u8 u.1) ∧ wc.cell? ⟨b6, 1, none⟩ = some (.int .i64 u.2.1) ∧ wc.cell? ⟨b6, 2, none⟩ = some (.string u.2.2)) ∧
    Hid (b7 < wc.heap.size ∧ wc.cell? ⟨b7, 0, none⟩ = some (.int .u8 v.1) ∧ wc.cell? ⟨b7, 1, none⟩ = some (.int .i64 v.2.1) ∧ wc.cell? ⟨b7, 2, none⟩ = some (.string v.2.2)) ∧ Hid (Below w1.heap.size w1 wc))
  case first =>
    obtain ⟨g, p, o, rfl, e1, hg, c0, c1, c2, c3⟩ := (HL.out.below B1.out).at_ 0 (by omega)
    obtain ⟨g', p', o', e2, e3, -, d0, d1, d2, d3⟩ := (HL.out.below B1.out).at_ 1 (by omega)
    injection e2 with e2
    injection e2 with e4 e5
    subst e4; subst e5
    obtain rfl : ofV u = o := Option.some.inj e1
    obtain rfl : ofV v = o' := Option.some.inj e3
    simp only [ofV, Nat.zero_mul, Nat.one_mul, Nat.add_zero] at c0 c1 c2 d0 d1 d2
    clear e1 e3 c3 d3
    obtain ⟨u1, u2, u3⟩ := u
    obtain ⟨v1, v2, v3⟩ := v
    simp only at c0 c1 c2 d0 d1 d2
    have hw : IntKind.i64.wrap (2 - 1) = 2 - 1 := by decide
    have hw1 : IntKind.i64.wrap 1 = 1 := by decide
    go_region_held3 (fun w' => w'.cell? ⟨g, p, none⟩ = some (.int .u8 u1) ∧ w'.cell? ⟨g, p + 1, none⟩ = some (.int .i64 u2) ∧ w'.cell? ⟨g, p + 2, none⟩ = some (.string u3) ∧ w'.cell? ⟨g, p + 4, none⟩ = some (.int .u8 v1) ∧ w'.cell? ⟨g, p + 4 + 1, none⟩ = some (.int .i64 v2) ∧ w'.cell? ⟨g, p + 4 + 2, none⟩ = some (.string v3)) (simp [*, go_sem, World.cell?_alloc_past]) (fail)
    all_goals
      go_wp2
      go_meet
      refine ⟨_, _, rfl, rfl, ?_, ?_, ?_⟩
      · exact ⟨by simp <;> omega, by simp [*, go_sem, World.cell?_alloc_past], by simp [*, go_sem, World.cell?_alloc_past], by simp [*, go_sem, World.cell?_alloc_past]⟩
      · exact ⟨by simp <;> omega, by simp [*, go_sem, World.cell?_alloc_past], by simp [*, go_sem, World.cell?_alloc_past], by simp [*, go_sem, World.cell?_alloc_past]⟩
      · show Below _ _ _
        repeat (first | exact Below.refl _ _ | (refine bel_trans ?_ (by assumption)) | (with_reducible apply bel_alloc) | (with_reducible apply Below.drew) | apply bel_alloc | apply Below.drew | refine bel_set ?_ (by simp; try omega) _)
  case rest =>
    obtain ⟨b6, b7, rfl, rfl, U, V, B⟩ := hcut
    have B2 : Hid (Below w.heap.size w wc) := bel_trans B1.out B.out
    have X2 : Hid (Box wc w.heap.size nul) := X1.out.below B.out
    clear B1 X1 B hLe
    go_wp2_with fail
    refine (c_null _).mono ?_
    rintro e w2 ⟨rfl, hb2⟩
    go_wp2_with fail
    refine (hCo _ (HL.out.below (bel_trans B2.out hb2))).mono ?_
    rintro e w3 ⟨rfl, hb3⟩
    have hs : Below wc.heap.size wc w3 := bel_trans hb2 hb3
    have B3 : Hid (Below w.heap.size w w3) := bel_trans B2.out hs
    have X3 : Hid (Box w3 w.heap.size nul) := X2.out.below hs
    clear hb2 hb3 hs U V B2 X2 hCo
    go_wp2_with fail
    refine (c_null _).mono ?_
    rintro e w4 ⟨rfl, hb4⟩
    have B4 : Hid (Below w.heap.size w w4) := bel_trans B3.out hb4
    obtain ⟨hx, d0, d1, d2, d3, e0, e1, e2, e3⟩ := X3.out.below hb4
    clear hb4
    go_wp2
    exact bodyPost_ret (v := ov 0 0 ⟨#[]⟩ 0) (by simp [results, Tryz.results55, go_sem, *]) rfl ⟨rfl, put4_below B4.out (Nat.le_refl _) nul⟩
theorem vd_size {k n : Int} {s : ByteArray} (h : vd k n s = true) : s.size ≤ maxLen := by
  have he : s.toList.isEmpty = true → s.size ≤ maxLen := fun h => by
    rw [ba_nil (List.isEmpty_iff.1 h)]; exact Nat.zero_le _
  unfold vd at h
  split at h
  · exact he (by simp at h; simp [h.2])
  · split at h
    · exact he h
    · split at h
      · simp at h
        unfold maxLen; omega
      · split at h
        · exact he (by simp at h; simp [h.2])
        · cases h
theorem isNul_ok {v : Vl} (h : vOk v = true) : isNul (ofV v) = isN (ofV v) := by
  obtain ⟨k, n, s⟩ := v
  unfold vOk vd at h
  unfold isNul isN ofV
  by_cases hk : k = 0
  · subst hk
    simp at h
    simp [h.1, h.2]
  · simp [hk]
theorem cmp_bo {op c : Int} (h1 : 12 ≤ op) (h2 : op ≤ 17) : cmpO op c = bo (cmpB op c) := by
  have : op = 12 ∨ op = 13 ∨ op = 14 ∨ op = 15 ∨ op = 16 ∨ op = 17 := by omega
  rcases this with rfl | rfl | rfl | rfl | rfl | rfl <;> unfold cmpO cmpB <;> congr 1 <;> simp <;> rw [Bool.eq_iff_iff] <;> simp
theorem c_strict_cmp (op : Int) (h1 : 12 ≤ op) (h2 : op ≤ 17) (u v : Vl) (hu : vOk u = true) (hv : vOk v = true) (ha : agree u.1 v.1 = true) (a : Option Addr) (c : Nat) (w : World) (h : Outs w a 2 [ofV u, ofV v]) :
    Ret 55 #[.int .u8 op, .slice a 2 c] w (enc (node op [ofV u, ofV v])) := by
  rw [node_cmp h1 h2 ⟨rfl, rfl, ofV_ok hu, ofV_ok hv, ha⟩]
  have e18 : (op == 18) = false := by simp; omega
  have e20 : (op == 20) = false := by simp; omega
  have e21 : (op == 21) = false := by simp; omega
  by_cases hn : (isN (ofV u) || isN (ofV v)) = true
  · rw [if_pos hn]
    exact c_strict2n op e18 e20 e21 u v (by simp only [List.any_cons, List.any_nil, Bool.or_false]; rw [isNul_ok hu, isNul_ok hv]; exact hn) a c w h
  · rw [if_neg hn, cmp_bo h1 h2]
    simp only [isN, ofV, Bool.or_eq_true, Bool.and_eq_true, beq_iff_eq, not_or, not_and] at hn
    have nu : ¬ u.1 = 0 := hn.1 trivial
    have nv : ¬ v.1 = 0 := hn.2 trivial
    have hk : u.1 = v.1 := by
      unfold agree at ha
      simp only [Bool.or_eq_true, beq_iff_eq] at ha
      omega
    have hx : cmpV u.1 u.2.1 u.2.2 v.1 v.2.1 v.2.2 = -1 ∨ cmpV u.1 u.2.1 u.2.2 v.1 v.2.1 v.2.2 = 0 ∨ cmpV u.1 u.2.1 u.2.2 v.1 v.2.1 v.2.2 = 1 := by
      have hu' : vd u.1 u.2.1 u.2.2 = true := hu
      have hv' : vd v.1 v.2.1 v.2.2 = true := hv
      rw [← hk] at hv' ⊢
      exact (cmpV_3 hu' hv').1
    have ku := vd_kind (show vd u.1 u.2.1 u.2.2 = true from hu)
    have kv := vd_kind (show vd v.1 v.2.1 v.2.2 = true from hv)
    have hC : ∀ w, Ret 110 #[val u.1 u.2.1 u.2.2, val v.1 v.2.1 v.2.2] w (.int .i64 (cmpV u.1 u.2.1 u.2.2 v.1 v.2.1 v.2.2)) := fun w => c_Compare _ _ _ _ _ _ (by omega) (by omega) (vd_size hu) (vd_size hv) w
    show Ret 55 _ w (ov (bo (cmpB op (cmpV u.1 u.2.1 u.2.2 v.1 v.2.1 v.2.2))).k _ _ _)
    refine c_strict2 op e18 e20 e21 u v nu nv _ (fun w => ?_) a c w h
    have : op = 12 ∨ op = 13 ∨ op = 14 ∨ op = 15 ∨ op = 16 ∨ op = 17 := by omega
    rcases this with rfl | rfl | rfl | rfl | rfl | rfl
    · exact ns_12 _ _ _ _ _ _ _ hx hC w
    · exact ns_13 _ _ _ _ _ _ _ hx hC w
    · exact ns_14 _ _ _ _ _ _ _ hx hC w
    · exact ns_15 _ _ _ _ _ _ _ hx hC w
    · exact ns_16 _ _ _ _ _ _ _ hx hC w
    · exact ns_17 _ _ _ _ _ _ _ hx hC w
end Go.Proofs.YtefelelhgepkeaaGreatDoor.T
