/- The law about comparisons: its walk. -/
import Derived.Test.YtefelelhgepkeaaGreatDoorTs
namespace Go.Proofs.YtefelelhgepkeaaGreatDoor.T
open Go.ChangeShapes Go.WideShapes Go.ChangeAt Go.RowKit Go.Proofs.YtefelelhgepkeaaGreatDoor.V Go.Proofs.YtefelelhgepkeaaGreatDoor.K Go.Proofs.YtefelelhgepkeaaGreatDoor.KD Go.Proofs.YtefelelhgepkeaaGreatDoor.S
theorem VBox.alloc {W : World} {g : Nat} {u : Vl} (h : VBox W g u) (o : Obj) : VBox (W.alloc o) g u := h.below (bel_alloc (Below.refl _ _) _)
theorem cnt_take {L : List Ot} {k : Nat} {o : Ot} (h : L[k]? = some o) : cnt (L.take (k + 1)) = cnt (L.take k) + isT1 o := by
  unfold cnt
  rw [List.take_add_one, h, List.map_append, List.sum_append]
  simp
theorem cnt_le : ∀ L : List Ot, cnt L ≤ L.length
  | [] => Nat.le_refl _
  | o :: t => by
    have := cnt_le t
    unfold cnt at *
    rw [List.map_cons, List.sum_cons, List.length_cons]
    have : isT1 o ≤ 1 := by unfold isT1; split <;> omega
    omega
theorem neg_at {l e g ge ne le : Ot} (h : ge = neg l ∧ ne = neg e ∧ le = neg g) {k : Nat} {o p : Ot} (ho : [l, e, g][k]? = some o) (hp : [ge, ne, le][k]? = some p) : p = neg o := by
  obtain ⟨rfl, rfl, rfl⟩ := h
  match k, ho, hp with
  | 0, ho, hp => rw [← Option.some.inj ho, ← Option.some.inj hp]
  | 1, ho, hp => rw [← Option.some.inj ho, ← Option.some.inj hp]
  | 2, ho, hp => rw [← Option.some.inj ho, ← Option.some.inj hp]
  | k + 3, ho, hp => cases ho
theorem of_three {P : Ot → Prop} {l e g : Ot} (h : P l ∧ P e ∧ P g) {k : Nat} {o : Ot} (ho : [l, e, g][k]? = some o) : P o := by
  obtain ⟨h1, h2, h3⟩ := h
  match k, ho with
  | 0, ho => rw [← Option.some.inj ho]; exact h1
  | 1, ho => rw [← Option.some.inj ho]; exact h2
  | 2, ho => rw [← Option.some.inj ho]; exact h3
  | k + 3, ho => cases ho
theorem box_three (W : World) (l e g : Ot) : Box (((W.alloc (.cells #[.int .u8 l.k, .int .i64 l.n, .string l.s, .int .i64 l.e] 34)).alloc (.cells #[.int .u8 e.k, .int .i64 e.n, .string e.s, .int .i64 e.e] 34)).alloc (.cells #[.int .u8 g.k, .int .i64 g.n, .string g.s, .int .i64 g.e] 34)) W.heap.size l ∧ Box (((W.alloc (.cells #[.int .u8 l.k, .int .i64 l.n, .string l.s, .int .i64 l.e] 34)).alloc (.cells #[.int .u8 e.k, .int .i64 e.n, .string e.s, .int .i64 e.e] 34)).alloc (.cells #[.int .u8 g.k, .int .i64 g.n, .string g.s, .int .i64 g.e] 34)) (W.heap.size + 1) e ∧
    Box (((W.alloc (.cells #[.int .u8 l.k, .int .i64 l.n, .string l.s, .int .i64 l.e] 34)).alloc (.cells #[.int .u8 e.k, .int .i64 e.n, .string e.s, .int .i64 e.e] 34)).alloc (.cells #[.int .u8 g.k, .int .i64 g.n, .string g.s, .int .i64 g.e] 34)) (W.heap.size + 1 + 1) g ∧ Below W.heap.size W (((W.alloc (.cells #[.int .u8 l.k, .int .i64 l.n, .string l.s, .int .i64 l.e] 34)).alloc (.cells #[.int .u8 e.k, .int .i64 e.n, .string e.s, .int .i64 e.e] 34)).alloc (.cells #[.int .u8 g.k, .int .i64 g.n, .string g.s, .int .i64 g.e] 34)) := by
  have h1 := Box.new W l
  have h2 := Box.new (W.alloc (.cells #[.int .u8 l.k, .int .i64 l.n, .string l.s, .int .i64 l.e] 34)) e
  have h3 := Box.new ((W.alloc (.cells #[.int .u8 l.k, .int .i64 l.n, .string l.s, .int .i64 l.e] 34)).alloc (.cells #[.int .u8 e.k, .int .i64 e.n, .string e.s, .int .i64 e.e] 34)) g
  have e1 : (W.alloc (.cells #[.int .u8 l.k, .int .i64 l.n, .string l.s, .int .i64 l.e] 34)).heap.size = W.heap.size + 1 := by simp
  have e2 : ((W.alloc (.cells #[.int .u8 l.k, .int .i64 l.n, .string l.s, .int .i64 l.e] 34)).alloc (.cells #[.int .u8 e.k, .int .i64 e.n, .string e.s, .int .i64 e.e] 34)).heap.size = W.heap.size + 1 + 1 := by simp
  rw [e1] at h2
  rw [e2] at h3
  exact ⟨(h1.alloc _).alloc _, h2.alloc _, h3, bel_alloc (bel_alloc (bel_alloc (Below.refl _ _) _) _) _⟩
theorem outs_three (W : World) (x y z : Ot) : Outs (W.alloc (.cells #[.int .u8 x.k, .int .i64 x.n, .string x.s, .int .i64 x.e, .int .u8 y.k, .int .i64 y.n, .string y.s, .int .i64 y.e, .int .u8 z.k, .int .i64 z.n, .string z.s, .int .i64 z.e] 34)) (some ⟨W.heap.size, 0, none⟩) 3 [x, y, z] :=
  ⟨rfl, fun k hk => by
    have : k = 0 ∨ k = 1 ∨ k = 2 := by omega
    rcases this with rfl | rfl | rfl
    · exact ⟨_, 0, x, rfl, rfl, by simp, by simp [go_sem], by simp [go_sem], by simp [go_sem], by simp [go_sem]⟩
    · exact ⟨_, 0, y, rfl, rfl, by simp, by simp [go_sem], by simp [go_sem], by simp [go_sem], by simp [go_sem]⟩
    · exact ⟨_, 0, z, rfl, rfl, by simp, by simp [go_sem], by simp [go_sem], by simp [go_sem], by simp [go_sem]⟩⟩
set_option maxRecDepth 100000 in
set_option maxHeartbeats 8000000 in
theorem walk_compares (x y : Vl) (w : World) : Ret 9 #[val x.1 x.2.1 x.2.2, val y.1 y.2.1 y.2.2] w (.bool true) := by
  have hV : ∀ W, Ret 29 #[val x.1 x.2.1 x.2.2] W (.bool (vOk x)) := fun W => r_Valid _ _ _ W
  have hU : ∀ W, Ret 29 #[val y.1 y.2.1 y.2.2] W (.bool (vOk y)) := fun W => r_Valid _ _ _ W
  have hG : ∀ W, Ret 30 #[.int .u8 x.1, .int .u8 y.1] W (.bool (agree x.1 y.1)) := fun W => r_Agree _ _ W
  obtain ⟨x1, x2, x3⟩ := x
  obtain ⟨y1, y2, y3⟩ := y
  have X0 : VBox ((w.alloc (.cells #[.int .u8 x1, .int .i64 x2, .string x3] 32)).alloc (.cells #[.int .u8 y1, .int .i64 y2, .string y3] 32)) w.heap.size (x1, x2, x3) := (VBox.new w x1 x2 x3).alloc _
  have Y0 : VBox ((w.alloc (.cells #[.int .u8 x1, .int .i64 x2, .string x3] 32)).alloc (.cells #[.int .u8 y1, .int .i64 y2, .string y3] 32)) (w.heap.size + 1) (y1, y2, y3) := by
    have h := VBox.new (w.alloc (.cells #[.int .u8 x1, .int .i64 x2, .string x3] 32)) y1 y2 y3
    rwa [show (w.alloc (.cells #[.int .u8 x1, .int .i64 x2, .string x3] 32)).heap.size = w.heap.size + 1 by simp] at h
  have B0 : Below w.heap.size w ((w.alloc (.cells #[.int .u8 x1, .int .i64 x2, .string x3] 32)).alloc (.cells #[.int .u8 y1, .int .i64 y2, .string y3] 32)) := bel_alloc (bel_alloc (Below.refl _ _) _) _
  by_cases hx : vOk (x1, x2, x3) = true
  case neg =>
    rw [show vOk (x1, x2, x3) = false by simpa using hx] at hV
    clear hx hU hG X0 Y0
    go_enter Tryz.func9, Tryz.ntmps9
    go_wp2_with (first | (go_at_call 29; refine (hV _).mono ?_; rintro e w1 ⟨rfl, hb1⟩) | (go_at_call 13; refine (awake _).mono ?_; rintro e w2 ⟨rfl, hb2⟩))
    first | exact bodyPost_ret (v := .bool true) (by simp [results, Tryz.results9, go_sem, *]) rfl ⟨rfl, bel_trans (bel_trans B0 hb1) hb2⟩ | (go_ret; exact ⟨rfl, bel_trans (bel_trans B0 hb1) hb2⟩)
  rw [hx] at hV
  by_cases hy : vOk (y1, y2, y3) = true
  case neg =>
    rw [show vOk (y1, y2, y3) = false by simpa using hy] at hU
    clear hx hy hG
    go_enter Tryz.func9, Tryz.ntmps9
    go_wp2_with (first | (go_at_call 29; first | (with_reducible refine (hV _).mono ?_; rintro e w1 ⟨rfl, hb1⟩; obtain ⟨il, i0, i1, i2⟩ := Y0.below hb1) | (with_reducible refine (hU _).mono ?_; rintro e w3 ⟨rfl, hb3⟩)) | (go_at_call 13; refine (awake _).mono ?_; rintro e w2 ⟨rfl, hb2⟩))
    first | exact bodyPost_ret (v := .bool true) (by simp [results, Tryz.results9, go_sem, *]) rfl ⟨rfl, bel_trans (bel_trans (bel_trans B0 hb1) hb3) hb2⟩ | (go_ret; exact ⟨rfl, bel_trans (bel_trans (bel_trans B0 hb1) hb3) hb2⟩)
  rw [hy] at hU
  by_cases ha : agree x1 y1 = true
  case neg =>
    rw [show agree x1 y1 = false by simpa using ha] at hG
    clear hx hy ha
    go_enter Tryz.func9, Tryz.ntmps9
    go_wp2_with (first | (go_at_call 29; first | (with_reducible refine (hV _).mono ?_; rintro e w1 ⟨rfl, hb1⟩; obtain ⟨il, i0, i1, i2⟩ := Y0.below hb1; have X1 := X0.below hb1; have Y1 := Y0.below hb1) | (with_reducible refine (hU _).mono ?_; rintro e w3 ⟨rfl, hb3⟩; obtain ⟨jl, j0, j1, j2⟩ := X1.below hb3; obtain ⟨kl, k0, k1, k2⟩ := Y1.below hb3)) | (go_at_call 30; refine (hG _).mono ?_; rintro e w4 ⟨rfl, hb4⟩) | (go_at_call 13; refine (awake _).mono ?_; rintro e w2 ⟨rfl, hb2⟩))
    first | exact bodyPost_ret (v := .bool true) (by simp [results, Tryz.results9, go_sem, *]) rfl ⟨rfl, bel_trans (bel_trans (bel_trans (bel_trans B0 hb1) hb3) hb4) hb2⟩ | (go_ret; exact ⟨rfl, bel_trans (bel_trans (bel_trans (bel_trans B0 hb1) hb3) hb4) hb2⟩)
  rw [ha] at hG
  have HT := Lib.hid (three_of hx hy ha)
  have hCm := fun (W0 : World) (a2 : Option Addr) (c2 : Nat) (h : Outs W0 a2 2 [ofV (x1, x2, x3), ofV (y1, y2, y3)]) => cmps_of hx hy ha (c2 := c2) h
  generalize node 14 [ofV (x1, x2, x3), ofV (y1, y2, y3)] = l at HT hCm
  generalize node 12 [ofV (x1, x2, x3), ofV (y1, y2, y3)] = e at HT hCm
  generalize node 16 [ofV (x1, x2, x3), ofV (y1, y2, y3)] = g at HT hCm
  generalize node 17 [ofV (x1, x2, x3), ofV (y1, y2, y3)] = ge at HT hCm
  generalize node 13 [ofV (x1, x2, x3), ofV (y1, y2, y3)] = ne at HT hCm
  generalize node 15 [ofV (x1, x2, x3), ofV (y1, y2, y3)] = le at HT hCm
  generalize node 18 [ofV (x1, x2, x3), ofV (y1, y2, y3)] = sm at HT hCm
  clear hx hy ha
  go_enter Tryz.func9, Tryz.ntmps9
  go_upto_region 3 with (first | (go_at_call 29; first | (with_reducible refine (hV _).mono ?_; rintro e w1 ⟨rfl, hb1⟩; obtain ⟨il, i0, i1, i2⟩ := Y0.below hb1; have X1 := X0.below hb1; have Y1 := Y0.below hb1) | (with_reducible refine (hU _).mono ?_; rintro e w3 ⟨rfl, hb3⟩; obtain ⟨jl, j0, j1, j2⟩ := X1.below hb3; obtain ⟨kl, k0, k1, k2⟩ := Y1.below hb3)) | (go_at_call 30; refine (hG _).mono ?_; rintro e w4 ⟨rfl, hb4⟩))
  have X4 := (X1.below hb3).below hb4
  have Y4 := (Y1.below hb3).below hb4
  have B4 := bel_trans (bel_trans (bel_trans B0 hb1) hb3) hb4
  clear il i0 i1 i2 jl j0 j1 j2 kl k0 k1 k2 hV hU hG hb1 hb3 hb4 X0 Y0 X1 Y1 B0
  have X5 := Lib.hid (X4.alloc (.cells #[.int .u8 x1, .int .i64 x2, .string x3, .int .i64 0, .int .u8 y1, .int .i64 y2, .string y3, .int .i64 0] 34))
  have Y5 := Lib.hid (Y4.alloc (.cells #[.int .u8 x1, .int .i64 x2, .string x3, .int .i64 0, .int .u8 y1, .int .i64 y2, .string y3, .int .i64 0] 34))
  have B5 := Lib.hid (bel_alloc B4 (.cells #[.int .u8 x1, .int .i64 x2, .string x3, .int .i64 0, .int .u8 y1, .int .i64 y2, .string y3, .int .i64 0] 34))
  have HF := Lib.hid (hCm _ (some ⟨w4.heap.size, 0, none⟩) 2 (outs_two w4 (ofV (x1, x2, x3)) (ofV (y1, y2, y3))))
  change Hid (Cmps (w4.alloc (.cells #[.int .u8 x1, .int .i64 x2, .string x3, .int .i64 0, .int .u8 y1, .int .i64 y2, .string y3, .int .i64 0] 34)) _ _ _ _ _ _ _ _ _) at HF
  obtain ⟨il, i0, i1, i2⟩ := X4
  obtain ⟨jl, j0, j1, j2⟩ := Y4
  clear hCm B4
  go_upto_region 4 with fail
  clear il i0 i1 i2 jl j0 j1 j2
  generalize (w4.alloc (.cells #[.int .u8 x1, .int .i64 x2, .string x3, .int .i64 0, .int .u8 y1, .int .i64 y2, .string y3, .int .i64 0] 34)) = W0 at X5 Y5 B5 HF ⊢
  generalize w4.heap.size = b2 at HF ⊢
  go_upto_region 5 with (go_at_call 16; first | (with_reducible refine (HF.out.l14 _ ?_).mono ?_; (· exact (by repeat (first | exact Below.refl _ _ | assumption | exact Go.Proofs.YtefelelhgepkeaaGreatDoor.V.below_drewN _ _ | (refine bel_trans ?_ (Go.Proofs.YtefelelhgepkeaaGreatDoor.V.below_drewN _ _)) | (refine bel_trans ?_ (by assumption)) | (with_reducible apply bel_alloc) | (with_reducible apply Below.drew) | apply bel_alloc | apply Below.drew | refine bel_set ?_ (by simp; try omega) _))); rintro e u1 ⟨rfl, hu1⟩) | (with_reducible refine (HF.out.e12 _ ?_).mono ?_; (· exact (by repeat (first | exact Below.refl _ _ | assumption | exact Go.Proofs.YtefelelhgepkeaaGreatDoor.V.below_drewN _ _ | (refine bel_trans ?_ (Go.Proofs.YtefelelhgepkeaaGreatDoor.V.below_drewN _ _)) | (refine bel_trans ?_ (by assumption)) | (with_reducible apply bel_alloc) | (with_reducible apply Below.drew) | apply bel_alloc | apply Below.drew | refine bel_set ?_ (by simp; try omega) _))); rintro e u2 ⟨rfl, hu2⟩) | (with_reducible refine (HF.out.g16 _ ?_).mono ?_; (· exact (by repeat (first | exact Below.refl _ _ | assumption | exact Go.Proofs.YtefelelhgepkeaaGreatDoor.V.below_drewN _ _ | (refine bel_trans ?_ (Go.Proofs.YtefelelhgepkeaaGreatDoor.V.below_drewN _ _)) | (refine bel_trans ?_ (by assumption)) | (with_reducible apply bel_alloc) | (with_reducible apply Below.drew) | apply bel_alloc | apply Below.drew | refine bel_set ?_ (by simp; try omega) _))); rintro e u3 ⟨rfl, hu3⟩))
  have B3 := box_three u3 l e g
  have BU : Hid (Below W0.heap.size W0 (((u3.alloc (.cells #[.int .u8 l.k, .int .i64 l.n, .string l.s, .int .i64 l.e] 34)).alloc (.cells #[.int .u8 e.k, .int .i64 e.n, .string e.s, .int .i64 e.e] 34)).alloc (.cells #[.int .u8 g.k, .int .i64 g.n, .string g.s, .int .i64 g.e] 34))) := bel_trans (show Below W0.heap.size W0 u3 from (by repeat (first | exact Below.refl _ _ | assumption | exact Go.Proofs.YtefelelhgepkeaaGreatDoor.V.below_drewN _ _ | (refine bel_trans ?_ (Go.Proofs.YtefelelhgepkeaaGreatDoor.V.below_drewN _ _)) | (refine bel_trans ?_ (by assumption)) | (with_reducible apply bel_alloc) | (with_reducible apply Below.drew) | apply bel_alloc | apply Below.drew | refine bel_set ?_ (by simp; try omega) _))) B3.2.2.2
  have P1 := Lib.hid B3.1
  have P2 := Lib.hid B3.2.1
  have P3 := Lib.hid B3.2.2.1
  clear B3 hu1 hu2 hu3
  generalize (((u3.alloc (.cells #[.int .u8 l.k, .int .i64 l.n, .string l.s, .int .i64 l.e] 34)).alloc (.cells #[.int .u8 e.k, .int .i64 e.n, .string e.s, .int .i64 e.e] 34)).alloc (.cells #[.int .u8 g.k, .int .i64 g.n, .string g.s, .int .i64 g.e] 34)) = V3 at P1 P2 P3 BU ⊢
  generalize u3.heap.size = b6 at P1 P2 P3 ⊢
  go_upto_region 6 with (go_at_call 16; first | (with_reducible refine (HF.out.ge17 _ ?_).mono ?_; (· exact bel_trans BU.out (by repeat (first | exact Below.refl _ _ | assumption | exact Go.Proofs.YtefelelhgepkeaaGreatDoor.V.below_drewN _ _ | (refine bel_trans ?_ (Go.Proofs.YtefelelhgepkeaaGreatDoor.V.below_drewN _ _)) | (refine bel_trans ?_ (by assumption)) | (with_reducible apply bel_alloc) | (with_reducible apply Below.drew) | apply bel_alloc | apply Below.drew | refine bel_set ?_ (by simp; try omega) _))); rintro e u4 ⟨rfl, hu4⟩) | (with_reducible refine (HF.out.ne13 _ ?_).mono ?_; (· exact bel_trans BU.out (by repeat (first | exact Below.refl _ _ | assumption | exact Go.Proofs.YtefelelhgepkeaaGreatDoor.V.below_drewN _ _ | (refine bel_trans ?_ (Go.Proofs.YtefelelhgepkeaaGreatDoor.V.below_drewN _ _)) | (refine bel_trans ?_ (by assumption)) | (with_reducible apply bel_alloc) | (with_reducible apply Below.drew) | apply bel_alloc | apply Below.drew | refine bel_set ?_ (by simp; try omega) _))); rintro e u5 ⟨rfl, hu5⟩) | (with_reducible refine (HF.out.le15 _ ?_).mono ?_; (· exact bel_trans BU.out (by repeat (first | exact Below.refl _ _ | assumption | exact Go.Proofs.YtefelelhgepkeaaGreatDoor.V.below_drewN _ _ | (refine bel_trans ?_ (Go.Proofs.YtefelelhgepkeaaGreatDoor.V.below_drewN _ _)) | (refine bel_trans ?_ (by assumption)) | (with_reducible apply bel_alloc) | (with_reducible apply Below.drew) | apply bel_alloc | apply Below.drew | refine bel_set ?_ (by simp; try omega) _))); rintro e u6 ⟨rfl, hu6⟩))
  have B6 := box_three u6 ge ne le
  have BVU : Below V3.heap.size V3 (((u6.alloc (.cells #[.int .u8 ge.k, .int .i64 ge.n, .string ge.s, .int .i64 ge.e] 34)).alloc (.cells #[.int .u8 ne.k, .int .i64 ne.n, .string ne.s, .int .i64 ne.e] 34)).alloc (.cells #[.int .u8 le.k, .int .i64 le.n, .string le.s, .int .i64 le.e] 34)) := bel_trans (show Below V3.heap.size V3 u6 from (by repeat (first | exact Below.refl _ _ | assumption | exact Go.Proofs.YtefelelhgepkeaaGreatDoor.V.below_drewN _ _ | (refine bel_trans ?_ (Go.Proofs.YtefelelhgepkeaaGreatDoor.V.below_drewN _ _)) | (refine bel_trans ?_ (by assumption)) | (with_reducible apply bel_alloc) | (with_reducible apply Below.drew) | apply bel_alloc | apply Below.drew | refine bel_set ?_ (by simp; try omega) _))) B6.2.2.2
  have BU6 := Lib.hid (bel_trans BU.out BVU)
  have P4 := Lib.hid B6.1
  have P5 := Lib.hid B6.2.1
  have P6 := Lib.hid B6.2.2.1
  replace P1 := Lib.hid (P1.out.below BVU)
  replace P2 := Lib.hid (P2.out.below BVU)
  replace P3 := Lib.hid (P3.out.below BVU)
  clear B6 BVU hu4 hu5 hu6 BU
  generalize (((u6.alloc (.cells #[.int .u8 ge.k, .int .i64 ge.n, .string ge.s, .int .i64 ge.e] 34)).alloc (.cells #[.int .u8 ne.k, .int .i64 ne.n, .string ne.s, .int .i64 ne.e] 34)).alloc (.cells #[.int .u8 le.k, .int .i64 le.n, .string le.s, .int .i64 le.e] 34)) = V6 at P1 P2 P3 P4 P5 P6 BU6 ⊢
  generalize u6.heap.size = b9 at P4 P5 P6 ⊢
  go_upto_region 7 with (go_at_call 16; refine (HF.out.sm18 _ BU6.out).mono ?_; rintro e u7 ⟨rfl, hu7⟩)
  have BV7 : Below V6.heap.size V6 (u7.alloc (.cells #[.int .u8 sm.k, .int .i64 sm.n, .string sm.s, .int .i64 sm.e] 34)) := bel_alloc hu7 _
  have P7 := Box.new u7 sm
  change Box (u7.alloc (.cells #[.int .u8 sm.k, .int .i64 sm.n, .string sm.s, .int .i64 sm.e] 34)) _ _ at P7
  have BU7 := Lib.hid (bel_trans BU6.out BV7)
  replace P1 := Lib.hid (P1.out.below BV7)
  replace P2 := Lib.hid (P2.out.below BV7)
  replace P3 := Lib.hid (P3.out.below BV7)
  replace P4 := Lib.hid (P4.out.below BV7)
  replace P5 := Lib.hid (P5.out.below BV7)
  replace P6 := Lib.hid (P6.out.below BV7)
  clear BV7 hu7 BU6 HF
  generalize (u7.alloc (.cells #[.int .u8 sm.k, .int .i64 sm.n, .string sm.s, .int .i64 sm.e] 34)) = V7 at P1 P2 P3 P4 P5 P6 P7 BU7 ⊢
  generalize u7.heap.size = b12 at P7 ⊢
  replace X5 := Lib.hid (X5.out.below BU7.out)
  replace Y5 := Lib.hid (Y5.out.below BU7.out)
  replace B5 := Lib.hid (bel_trans B5.out BU7.out)
  have hSv : ∀ W, Ret 31 #[val x1 x2 x3, val y1 y2 y3] W (.bool (same x1 x2 x3 y1 y2 y3)) := fun W => r_Same _ _ _ _ _ _ W
  have hBo : ∀ W, Ret 28 #[.bool (same x1 x2 x3 y1 y2 y3)] W (ov sm.k sm.n sm.s sm.e) := fun W => by rw [HT.out.sm3]; exact r_Bool5 _ W
  generalize same x1 x2 x3 y1 y2 y3 = sv at hSv hBo
  obtain ⟨il, i0, i1, i2⟩ := X5.out
  obtain ⟨jl, j0, j1, j2⟩ := Y5.out
  obtain ⟨p7, m0, m1, m2, m3, -, -, -, -⟩ := P7
  clear BU7
  refine region_far (by kernel_rfl) (by kernel_rfl) ?_
  repeat (go_big_quiet_step ((first | (go_at_call 31; with_reducible exact call_far (hSv _)) | (go_at_call 28; with_reducible exact call_far (hBo _)) | (go_at_call 18; with_reducible exact call_far (same_self sm _)))))
  refine wpQuiet_nil ?_
  intro wq hbq
  replace P1 := Lib.hid (P1.out.below hbq)
  replace P2 := Lib.hid (P2.out.below hbq)
  replace P3 := Lib.hid (P3.out.below hbq)
  replace P4 := Lib.hid (P4.out.below hbq)
  replace P5 := Lib.hid (P5.out.below hbq)
  replace P6 := Lib.hid (P6.out.below hbq)
  replace X5 := Lib.hid (X5.out.below hbq)
  replace Y5 := Lib.hid (Y5.out.below hbq)
  replace B5 := Lib.hid (bel_trans B5.out hbq)
  clear il i0 i1 i2 jl j0 j1 j2 p7 m0 m1 m2 m3 hbq hSv hBo
  obtain ⟨p1, a0, a1, a2, a3, -, -, -, -⟩ := P1.out
  obtain ⟨p2, c0, c1, c2, c3, -, -, -, -⟩ := P2.out
  obtain ⟨p3, d0, d1, d2, d3, -, -, -, -⟩ := P3.out
  obtain ⟨p4, f0, f1, f2, f3, -, -, -, -⟩ := P4.out
  obtain ⟨p5, g0, g1, g2, g3, -, -, -, -⟩ := P5.out
  obtain ⟨p6, h0, h1, h2, h3, -, -, -, -⟩ := P6.out
  go_upto_region 12 with fail
  have OT : Hid (Outs ((wq.alloc (.cells #[.int .u8 l.k, .int .i64 l.n, .string l.s, .int .i64 l.e, .int .u8 e.k, .int .i64 e.n, .string e.s, .int .i64 e.e, .int .u8 g.k, .int .i64 g.n, .string g.s, .int .i64 g.e] 34)).alloc (.cells #[.int .u8 ge.k, .int .i64 ge.n, .string ge.s, .int .i64 ge.e, .int .u8 ne.k, .int .i64 ne.n, .string ne.s, .int .i64 ne.e, .int .u8 le.k, .int .i64 le.n, .string le.s, .int .i64 le.e] 34)) (some ⟨wq.heap.size, 0, none⟩) 3 [l, e, g]) := (outs_three wq l e g).below (bel_alloc (Below.refl _ _) _)
  have OO : Hid (Outs ((wq.alloc (.cells #[.int .u8 l.k, .int .i64 l.n, .string l.s, .int .i64 l.e, .int .u8 e.k, .int .i64 e.n, .string e.s, .int .i64 e.e, .int .u8 g.k, .int .i64 g.n, .string g.s, .int .i64 g.e] 34)).alloc (.cells #[.int .u8 ge.k, .int .i64 ge.n, .string ge.s, .int .i64 ge.e, .int .u8 ne.k, .int .i64 ne.n, .string ne.s, .int .i64 ne.e, .int .u8 le.k, .int .i64 le.n, .string le.s, .int .i64 le.e] 34)) (some ⟨wq.heap.size + 1, 0, none⟩) 3 [ge, ne, le]) := by
    have h := outs_three (wq.alloc (.cells #[.int .u8 l.k, .int .i64 l.n, .string l.s, .int .i64 l.e, .int .u8 e.k, .int .i64 e.n, .string e.s, .int .i64 e.e, .int .u8 g.k, .int .i64 g.n, .string g.s, .int .i64 g.e] 34)) ge ne le
    rwa [show (wq.alloc (.cells #[.int .u8 l.k, .int .i64 l.n, .string l.s, .int .i64 l.e, .int .u8 e.k, .int .i64 e.n, .string e.s, .int .i64 e.e, .int .u8 g.k, .int .i64 g.n, .string g.s, .int .i64 g.e] 34)).heap.size = wq.heap.size + 1 by simp] at h
  have BL : Below wq.heap.size wq ((wq.alloc (.cells #[.int .u8 l.k, .int .i64 l.n, .string l.s, .int .i64 l.e, .int .u8 e.k, .int .i64 e.n, .string e.s, .int .i64 e.e, .int .u8 g.k, .int .i64 g.n, .string g.s, .int .i64 g.e] 34)).alloc (.cells #[.int .u8 ge.k, .int .i64 ge.n, .string ge.s, .int .i64 ge.e, .int .u8 ne.k, .int .i64 ne.n, .string ne.s, .int .i64 ne.e, .int .u8 le.k, .int .i64 le.n, .string le.s, .int .i64 le.e] 34)) := bel_alloc (bel_alloc (Below.refl _ _) _) _
  replace X5 := Lib.hid (X5.out.below BL)
  replace Y5 := Lib.hid (Y5.out.below BL)
  replace B5 := Lib.hid (bel_trans B5.out BL)
  clear BL p1 a0 a1 a2 a3 p2 c0 c1 c2 c3 p3 d0 d1 d2 d3 p4 f0 f1 f2 f3 p5 g0 g1 g2 g3 p6 h0 h1 h2 h3 P1 P2 P3 P4 P5 P6
  generalize ((wq.alloc (.cells #[.int .u8 l.k, .int .i64 l.n, .string l.s, .int .i64 l.e, .int .u8 e.k, .int .i64 e.n, .string e.s, .int .i64 e.e, .int .u8 g.k, .int .i64 g.n, .string g.s, .int .i64 g.e] 34)).alloc (.cells #[.int .u8 ge.k, .int .i64 ge.n, .string ge.s, .int .i64 ge.e, .int .u8 ne.k, .int .i64 ne.n, .string ne.s, .int .i64 ne.e, .int .u8 le.k, .int .i64 le.n, .string le.s, .int .i64 le.e] 34)) = wl at OT OO X5 Y5 B5 ⊢
  have hb31 : ∃ b4, b4 = wq.heap.size + 1 := ⟨_, rfl⟩
  obtain ⟨b4, hb31⟩ := hb31
  rw [← hb31] at OO
  simp only [← hb31]
  clear hb31
  generalize wq.heap.size = b3 at OT ⊢
  go_wp2
  go_loopw [13, 16] (fun s13 s16 wr => ∃ (k j : Nat), k ≤ 3 ∧ s16 = .int .i64 k ∧ s13 = .int .i64 j ∧ Hid (j = cnt ([l, e, g].take k)) ∧ Hid (Below wl.heap.size wl wr)) (fun _ s16 _ => 3 - (intOf s16).toNat)
  case atStart => exact ⟨0, 0, by omega, rfl, rfl, rfl, Below.refl _ _⟩
  case round =>
    obtain ⟨k, j, hk, rfl, rfl, HJ0, HB⟩ := hrel
    have hj3 : j ≤ 3 := by
      have h := cnt_le ([l, e, g].take k)
      rw [← HJ0.out, List.length_take] at h
      omega
    by_cases hlt : k < 3
    · obtain ⟨g1, q1, o, e1, hlk, hb3, c0, c1, c2, c3⟩ := (OT.out.below HB.out).at_ k hlt
      obtain ⟨g2, q2, p, e2, hlp, hb4, d0, d1, d2, d3⟩ := (OO.out.below HB.out).at_ k hlt
      injection e1 with e1
      injection e1 with e1 e1'
      subst e1; subst e1'
      injection e2 with e2
      injection e2 with e2 e2'
      subst e2; subst e2'
      have hN := not_one o (tri_tr (of_three HT.out.tr3 hlk))
      rw [← neg_at HT.out.neg3 hlk hlp] at hN
      have HZ : Hid ((o.k == 0) = nl (x1, x2, x3) (y1, y2, y3)) := of_three (P := fun o => (o.k == 0) = nl (x1, x2, x3) (y1, y2, y3)) HT.out.nul3 hlk
      have HLK := Lib.hid hlk
      clear hlk hlp
      go_upto_region 15 with fail
      refine reg15 hlt hb3 hb4 ⟨c0, c1, c2, c3⟩ ⟨d0, d1, d2, d3⟩ hN ?_
      intro z72 z73 z74 z75 z76 z77 z78 z79 z80 z81 z82 wv hv
      have BV := Lib.hid (bel_trans HB.out hv)
      rw [Nat.zero_add] at c0 c1 c2 c3
      replace c0 := (hv.cell (p := ⟨b3, _, none⟩) hb3).trans c0
      replace c1 := (hv.cell (p := ⟨b3, _, none⟩) hb3).trans c1
      replace c2 := (hv.cell (p := ⟨b3, _, none⟩) hb3).trans c2
      replace c3 := (hv.cell (p := ⟨b3, _, none⟩) hb3).trans c3
      replace hb3 := Nat.lt_of_lt_of_le hb3 hv.size
      have X6 := Lib.hid (X5.out.below BV.out)
      have Y6 := Lib.hid (Y5.out.below BV.out)
      clear hv d0 d1 d2 d3 hb4 hN
      have hST : ∀ W, Ret 18 #[ov o.k o.n o.s o.e, ov 3 1 ⟨#[]⟩ 0] W (.bool (sameO o (bo true))) := fun W => r_Same5 o (bo true) W
      cases hs : sameO o (bo true) with
      | true =>
          rw [hs] at hST
          have HJ : Hid (j + 1 = cnt ([l, e, g].take (k + 1))) := by
            show _ = _
            rw [cnt_take HLK.out, ← HJ0.out]
            unfold isT1
            rw [hs]
            rfl
          clear hs HLK HJ0
          go_upto_region 17 with fail
          refine region_far (by kernel_rfl) (by kernel_rfl) ?_
          repeat (go_big_quiet_step ((first | (go_at_call 28; with_reducible exact call_far (a_T _)) | (go_at_call 18; with_reducible exact call_far (hST _)))))
          refine wpQuiet_nil ?_
          intro wp hbp
          have BP := Lib.hid (bel_trans BV.out hbp)
          replace c0 := (hbp.cell (p := ⟨b3, _, none⟩) hb3).trans c0
          replace c1 := (hbp.cell (p := ⟨b3, _, none⟩) hb3).trans c1
          replace c2 := (hbp.cell (p := ⟨b3, _, none⟩) hb3).trans c2
          replace c3 := (hbp.cell (p := ⟨b3, _, none⟩) hb3).trans c3
          replace hb3 := Nat.lt_of_lt_of_le hb3 hbp.size
          obtain ⟨il, i0, i1, i2⟩ := X6.out.below hbp
          obtain ⟨jl, j0, j1, j2⟩ := Y6.out.below hbp
          clear hbp hST
          by_cases hx0 : x1 = 0
          · have ok : o.k = 0 := by have h := HZ.out; simp [nl, hx0] at h; exact h
            have dx : (x1 == 0) = true := beq_iff_eq.2 hx0
            have dk : (o.k == 0) = true := beq_iff_eq.2 ok
            go_upto_region 19 with fail
            refine region_far (by kernel_rfl) (by kernel_rfl) ?_
            repeat (go_big_quiet_step (fail))
            refine wpQuiet_nil ?_
            intro wz hbz
            have BZ := Lib.hid (bel_trans BP.out hbz)
            go_wp2
            exact ⟨⟨k + 1, j + 1, by omega, by go_num, by go_num, HJ.out, BZ.out⟩, by simp [intOf]; omega⟩
          · by_cases hy0 : y1 = 0
            · have ok : o.k = 0 := by have h := HZ.out; simp [nl, hy0] at h; exact h
              have dx : (x1 == 0) = false := beq_eq_false_iff_ne.2 hx0
              have dy : (y1 == 0) = true := beq_iff_eq.2 hy0
              have dk : (o.k == 0) = true := beq_iff_eq.2 ok
              go_upto_region 19 with fail
              refine region_far (by kernel_rfl) (by kernel_rfl) ?_
              repeat (go_big_quiet_step (fail))
              refine wpQuiet_nil ?_
              intro wz hbz
              have BZ := Lib.hid (bel_trans BP.out hbz)
              go_wp2
              exact ⟨⟨k + 1, j + 1, by omega, by go_num, by go_num, HJ.out, BZ.out⟩, by simp [intOf]; omega⟩
            · have ok : ¬ o.k = 0 := by have h := HZ.out; unfold nl at h; rw [beq_eq_false_iff_ne.2 hx0, beq_eq_false_iff_ne.2 hy0] at h; exact beq_eq_false_iff_ne.1 h
              have dx : (x1 == 0) = false := beq_eq_false_iff_ne.2 hx0
              have dy : (y1 == 0) = false := beq_eq_false_iff_ne.2 hy0
              have dk : (o.k == 0) = false := beq_eq_false_iff_ne.2 ok
              go_upto_region 19 with fail
              refine region_far (by kernel_rfl) (by kernel_rfl) ?_
              repeat (go_big_quiet_step (fail))
              refine wpQuiet_nil ?_
              intro wz hbz
              have BZ := Lib.hid (bel_trans BP.out hbz)
              go_wp2
              exact ⟨⟨k + 1, j + 1, by omega, by go_num, by go_num, HJ.out, BZ.out⟩, by simp [intOf]; omega⟩
      | false =>
          rw [hs] at hST
          have HJ : Hid (j = cnt ([l, e, g].take (k + 1))) := by
            show _ = _
            rw [cnt_take HLK.out, ← HJ0.out]
            unfold isT1
            rw [hs]
            rfl
          clear hs HLK HJ0
          go_upto_region 17 with fail
          refine region_far (by kernel_rfl) (by kernel_rfl) ?_
          repeat (go_big_quiet_step ((first | (go_at_call 28; with_reducible exact call_far (a_T _)) | (go_at_call 18; with_reducible exact call_far (hST _)))))
          refine wpQuiet_nil ?_
          intro wp hbp
          have BP := Lib.hid (bel_trans BV.out hbp)
          replace c0 := (hbp.cell (p := ⟨b3, _, none⟩) hb3).trans c0
          replace c1 := (hbp.cell (p := ⟨b3, _, none⟩) hb3).trans c1
          replace c2 := (hbp.cell (p := ⟨b3, _, none⟩) hb3).trans c2
          replace c3 := (hbp.cell (p := ⟨b3, _, none⟩) hb3).trans c3
          replace hb3 := Nat.lt_of_lt_of_le hb3 hbp.size
          obtain ⟨il, i0, i1, i2⟩ := X6.out.below hbp
          obtain ⟨jl, j0, j1, j2⟩ := Y6.out.below hbp
          clear hbp hST
          by_cases hx0 : x1 = 0
          · have ok : o.k = 0 := by have h := HZ.out; simp [nl, hx0] at h; exact h
            have dx : (x1 == 0) = true := beq_iff_eq.2 hx0
            have dk : (o.k == 0) = true := beq_iff_eq.2 ok
            go_upto_region 19 with fail
            refine region_far (by kernel_rfl) (by kernel_rfl) ?_
            repeat (go_big_quiet_step (fail))
            refine wpQuiet_nil ?_
            intro wz hbz
            have BZ := Lib.hid (bel_trans BP.out hbz)
            go_wp2
            exact ⟨⟨k + 1, j, by omega, by go_num, by go_num, HJ.out, BZ.out⟩, by simp [intOf]; omega⟩
          · by_cases hy0 : y1 = 0
            · have ok : o.k = 0 := by have h := HZ.out; simp [nl, hy0] at h; exact h
              have dx : (x1 == 0) = false := beq_eq_false_iff_ne.2 hx0
              have dy : (y1 == 0) = true := beq_iff_eq.2 hy0
              have dk : (o.k == 0) = true := beq_iff_eq.2 ok
              go_upto_region 19 with fail
              refine region_far (by kernel_rfl) (by kernel_rfl) ?_
              repeat (go_big_quiet_step (fail))
              refine wpQuiet_nil ?_
              intro wz hbz
              have BZ := Lib.hid (bel_trans BP.out hbz)
              go_wp2
              exact ⟨⟨k + 1, j, by omega, by go_num, by go_num, HJ.out, BZ.out⟩, by simp [intOf]; omega⟩
            · have ok : ¬ o.k = 0 := by have h := HZ.out; unfold nl at h; rw [beq_eq_false_iff_ne.2 hx0, beq_eq_false_iff_ne.2 hy0] at h; exact beq_eq_false_iff_ne.1 h
              have dx : (x1 == 0) = false := beq_eq_false_iff_ne.2 hx0
              have dy : (y1 == 0) = false := beq_eq_false_iff_ne.2 hy0
              have dk : (o.k == 0) = false := beq_eq_false_iff_ne.2 ok
              go_upto_region 19 with fail
              refine region_far (by kernel_rfl) (by kernel_rfl) ?_
              repeat (go_big_quiet_step (fail))
              refine wpQuiet_nil ?_
              intro wz hbz
              have BZ := Lib.hid (bel_trans BP.out hbz)
              go_wp2
              exact ⟨⟨k + 1, j, by omega, by go_num, by go_num, HJ.out, BZ.out⟩, by simp [intOf]; omega⟩
    · have hk3 : k = 3 := by omega
      subst hk3
      obtain ⟨il, i0, i1, i2⟩ := X5.out.below HB.out
      obtain ⟨jl, j0, j1, j2⟩ := Y5.out.below HB.out
      have BW := Lib.hid (bel_trans B5.out HB.out)
      have hj : j = if nl (x1, x2, x3) (y1, y2, y3) then 0 else 1 := HJ0.out.trans HT.out.one3
      by_cases hx0 : x1 = 0
      · have hj0 : j = 0 := by rw [hj]; simp [nl, hx0]
        have dx : (x1 == 0) = true := beq_iff_eq.2 hx0
        clear hj HJ0
        subst hj0
        go_wp2_with (go_at_call 13; refine (awake _).mono ?_; rintro e w2 ⟨rfl, hb2⟩)
        first | exact bodyPost_ret (v := .bool true) (by simp [results, Tryz.results9, go_sem, *]) rfl ⟨rfl, bel_trans BW.out hb2⟩ | (go_ret; exact ⟨rfl, bel_trans BW.out hb2⟩)
      · by_cases hy0 : y1 = 0
        · have hj0 : j = 0 := by rw [hj]; simp [nl, hy0]
          have dx : (x1 == 0) = false := beq_eq_false_iff_ne.2 hx0
          have dy : (y1 == 0) = true := beq_iff_eq.2 hy0
          clear hj HJ0
          subst hj0
          go_wp2_with (go_at_call 13; refine (awake _).mono ?_; rintro e w2 ⟨rfl, hb2⟩)
          first | exact bodyPost_ret (v := .bool true) (by simp [results, Tryz.results9, go_sem, *]) rfl ⟨rfl, bel_trans BW.out hb2⟩ | (go_ret; exact ⟨rfl, bel_trans BW.out hb2⟩)
        · have hj0 : j = 1 := by rw [hj]; simp [nl, hx0, hy0]
          have dx : (x1 == 0) = false := beq_eq_false_iff_ne.2 hx0
          have dy : (y1 == 0) = false := beq_eq_false_iff_ne.2 hy0
          clear hj HJ0
          subst hj0
          go_wp2_with (go_at_call 13; refine (awake _).mono ?_; rintro e w2 ⟨rfl, hb2⟩)
          first | exact bodyPost_ret (v := .bool true) (by simp [results, Tryz.results9, go_sem, *]) rfl ⟨rfl, bel_trans BW.out hb2⟩ | (go_ret; exact ⟨rfl, bel_trans BW.out hb2⟩)
end Go.Proofs.YtefelelhgepkeaaGreatDoor.T
