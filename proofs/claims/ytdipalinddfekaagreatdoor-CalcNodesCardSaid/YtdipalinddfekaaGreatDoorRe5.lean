/- The reference's strict operators. -/
import Derived.Test.YtdipalinddfekaaGreatDoorGan
import Derived.Test.YtdipalinddfekaaGreatDoorGaj
import Derived.Test.YtdipalinddfekaaGreatDoorGao
namespace Go.Proofs.YtdipalinddfekaaGreatDoor.U
open Go.ChangeShapes Go.WideShapes Go.ChangeAt Go.RowKit Go.Proofs.YtdipalinddfekaaGreatDoor.V Go.Proofs.YtdipalinddfekaaGreatDoor.K Go.Proofs.YtdipalinddfekaaGreatDoor.T
set_option maxRecDepth 100000 in
set_option maxHeartbeats 4000000 in
theorem q_s12 (o p z : Ot) (hC : ∀ W, Ret 38 #[.int .u8 12, val o.k o.n o.s, val p.k p.n p.s] W (ov z.k z.n z.s z.e)) (a : Option Addr) (c : Nat) (w : World) (h : Outs w a 2 [o, p]) : Ret 20 #[.int .u8 12, .slice a 2 c] w (enc z) := by
  obtain ⟨g, q, x0, rfl, e0, hg, c0, c1, c2, c3⟩ := h.at_ 0 (by omega)
  obtain rfl : o = x0 := Option.some.inj e0
  obtain ⟨g', q', x1, e1, e2, hg', m0, m1, m2, m3⟩ := h.at_ 1 (by omega)
  cases e1
  obtain rfl : p = x1 := Option.some.inj e2
  simp only [Nat.zero_mul, Nat.one_mul, Nat.add_zero] at c0 c1 c2 c3 m0 m1 m2 m3
  have KP : Hid (∀ W', Below w.heap.size w W' → W'.cell? ⟨g, q, none⟩ = some (.int .u8 o.k) ∧ W'.cell? ⟨g, q + 1, none⟩ = some (.int .i64 o.n) ∧ W'.cell? ⟨g, q + 2, none⟩ = some (.string o.s) ∧ W'.cell? ⟨g, q + 3, none⟩ = some (.int .i64 o.e) ∧ W'.cell? ⟨g, q + 4, none⟩ = some (.int .u8 p.k) ∧ W'.cell? ⟨g, q + 4 + 1, none⟩ = some (.int .i64 p.n) ∧ W'.cell? ⟨g, q + 4 + 2, none⟩ = some (.string p.s) ∧ W'.cell? ⟨g, q + 4 + 3, none⟩ = some (.int .i64 p.e)) := fun W' hb => ⟨(hb.cell (p := ⟨g, _, none⟩) hg).trans c0, (hb.cell (p := ⟨g, _, none⟩) hg).trans c1, (hb.cell (p := ⟨g, _, none⟩) hg).trans c2, (hb.cell (p := ⟨g, _, none⟩) hg).trans c3,
    (hb.cell (p := ⟨g, _, none⟩) hg).trans m0, (hb.cell (p := ⟨g, _, none⟩) hg).trans m1, (hb.cell (p := ⟨g, _, none⟩) hg).trans m2, (hb.cell (p := ⟨g, _, none⟩) hg).trans m3⟩
  have HX : Hid (Box (w.alloc (.cells #[.int .u8 0, .int .i64 0, .string ⟨#[]⟩, .int .i64 0] 29)) w.heap.size nul) := Box.new w nul
  clear e0 e2 h
  go_enter Tryz.func20, Tryz.ntmps20
  go_upto_region 18 with fail
  go_region_held3 (fun W' => W'.cell? ⟨g, q, none⟩ = some (.int .u8 o.k) ∧ W'.cell? ⟨g, q + 1, none⟩ = some (.int .i64 o.n) ∧ W'.cell? ⟨g, q + 2, none⟩ = some (.string o.s) ∧ W'.cell? ⟨g, q + 3, none⟩ = some (.int .i64 o.e) ∧ W'.cell? ⟨g, q + 4, none⟩ = some (.int .u8 p.k) ∧ W'.cell? ⟨g, q + 4 + 1, none⟩ = some (.int .i64 p.n) ∧ W'.cell? ⟨g, q + 4 + 2, none⟩ = some (.string p.s) ∧ W'.cell? ⟨g, q + 4 + 3, none⟩ = some (.int .i64 p.e)) (exact KP.out _ (by repeat (first | exact Below.refl _ _ | assumption | exact Go.Proofs.YtdipalinddfekaaGreatDoor.V.below_drewN _ _ | (refine bel_trans ?_ (Go.Proofs.YtdipalinddfekaaGreatDoor.V.below_drewN _ _)) | (refine bel_trans ?_ (by assumption)) | (with_reducible apply bel_alloc) | (with_reducible apply Below.drew) | apply bel_alloc | apply Below.drew | refine bel_set ?_ (by simp; try omega) _)))
    (first | (go_at_call 38; refine (hC _).mono ?_; rintro e w1 ⟨rfl, hb1⟩; obtain ⟨hx, d0, d1, d2, d3, f0, f1, f2, f3⟩ := HX.out.below (show Below (w.alloc (.cells #[.int .u8 0, .int .i64 0, .string ⟨#[]⟩, .int .i64 0] 29)).heap.size (w.alloc (.cells #[.int .u8 0, .int .i64 0, .string ⟨#[]⟩, .int .i64 0] 29)) w1 from by repeat (first | exact Below.refl _ _ | assumption | exact Go.Proofs.YtdipalinddfekaaGreatDoor.V.below_drewN _ _ | (refine bel_trans ?_ (Go.Proofs.YtdipalinddfekaaGreatDoor.V.below_drewN _ _)) | (refine bel_trans ?_ (by assumption)) | (with_reducible apply bel_alloc) | (with_reducible apply Below.drew) | apply bel_alloc | apply Below.drew | refine bel_set ?_ (by simp; try omega) _))))
  go_wp2
  exact bodyPost_ret (v := ov z.k z.n z.s z.e) (by simp [results, Tryz.results20, go_sem, *]) rfl ⟨rfl, by repeat (first | exact Below.refl _ _ | assumption | exact Go.Proofs.YtdipalinddfekaaGreatDoor.V.below_drewN _ _ | (refine bel_trans ?_ (Go.Proofs.YtdipalinddfekaaGreatDoor.V.below_drewN _ _)) | (refine bel_trans ?_ (by assumption)) | (with_reducible apply bel_alloc) | (with_reducible apply Below.drew) | apply bel_alloc | apply Below.drew | refine bel_set ?_ (by simp; try omega) _)⟩
set_option maxRecDepth 100000 in
set_option maxHeartbeats 4000000 in
theorem q_s13 (o p z : Ot) (hC : ∀ W, Ret 38 #[.int .u8 13, val o.k o.n o.s, val p.k p.n p.s] W (ov z.k z.n z.s z.e)) (a : Option Addr) (c : Nat) (w : World) (h : Outs w a 2 [o, p]) : Ret 20 #[.int .u8 13, .slice a 2 c] w (enc z) := by
  obtain ⟨g, q, x0, rfl, e0, hg, c0, c1, c2, c3⟩ := h.at_ 0 (by omega)
  obtain rfl : o = x0 := Option.some.inj e0
  obtain ⟨g', q', x1, e1, e2, hg', m0, m1, m2, m3⟩ := h.at_ 1 (by omega)
  cases e1
  obtain rfl : p = x1 := Option.some.inj e2
  simp only [Nat.zero_mul, Nat.one_mul, Nat.add_zero] at c0 c1 c2 c3 m0 m1 m2 m3
  have KP : Hid (∀ W', Below w.heap.size w W' → W'.cell? ⟨g, q, none⟩ = some (.int .u8 o.k) ∧ W'.cell? ⟨g, q + 1, none⟩ = some (.int .i64 o.n) ∧ W'.cell? ⟨g, q + 2, none⟩ = some (.string o.s) ∧ W'.cell? ⟨g, q + 3, none⟩ = some (.int .i64 o.e) ∧ W'.cell? ⟨g, q + 4, none⟩ = some (.int .u8 p.k) ∧ W'.cell? ⟨g, q + 4 + 1, none⟩ = some (.int .i64 p.n) ∧ W'.cell? ⟨g, q + 4 + 2, none⟩ = some (.string p.s) ∧ W'.cell? ⟨g, q + 4 + 3, none⟩ = some (.int .i64 p.e)) := fun W' hb => ⟨(hb.cell (p := ⟨g, _, none⟩) hg).trans c0, (hb.cell (p := ⟨g, _, none⟩) hg).trans c1, (hb.cell (p := ⟨g, _, none⟩) hg).trans c2, (hb.cell (p := ⟨g, _, none⟩) hg).trans c3,
    (hb.cell (p := ⟨g, _, none⟩) hg).trans m0, (hb.cell (p := ⟨g, _, none⟩) hg).trans m1, (hb.cell (p := ⟨g, _, none⟩) hg).trans m2, (hb.cell (p := ⟨g, _, none⟩) hg).trans m3⟩
  have HX : Hid (Box (w.alloc (.cells #[.int .u8 0, .int .i64 0, .string ⟨#[]⟩, .int .i64 0] 29)) w.heap.size nul) := Box.new w nul
  clear e0 e2 h
  go_enter Tryz.func20, Tryz.ntmps20
  go_upto_region 18 with fail
  go_region_held3 (fun W' => W'.cell? ⟨g, q, none⟩ = some (.int .u8 o.k) ∧ W'.cell? ⟨g, q + 1, none⟩ = some (.int .i64 o.n) ∧ W'.cell? ⟨g, q + 2, none⟩ = some (.string o.s) ∧ W'.cell? ⟨g, q + 3, none⟩ = some (.int .i64 o.e) ∧ W'.cell? ⟨g, q + 4, none⟩ = some (.int .u8 p.k) ∧ W'.cell? ⟨g, q + 4 + 1, none⟩ = some (.int .i64 p.n) ∧ W'.cell? ⟨g, q + 4 + 2, none⟩ = some (.string p.s) ∧ W'.cell? ⟨g, q + 4 + 3, none⟩ = some (.int .i64 p.e)) (exact KP.out _ (by repeat (first | exact Below.refl _ _ | assumption | exact Go.Proofs.YtdipalinddfekaaGreatDoor.V.below_drewN _ _ | (refine bel_trans ?_ (Go.Proofs.YtdipalinddfekaaGreatDoor.V.below_drewN _ _)) | (refine bel_trans ?_ (by assumption)) | (with_reducible apply bel_alloc) | (with_reducible apply Below.drew) | apply bel_alloc | apply Below.drew | refine bel_set ?_ (by simp; try omega) _)))
    (first | (go_at_call 38; refine (hC _).mono ?_; rintro e w1 ⟨rfl, hb1⟩; obtain ⟨hx, d0, d1, d2, d3, f0, f1, f2, f3⟩ := HX.out.below (show Below (w.alloc (.cells #[.int .u8 0, .int .i64 0, .string ⟨#[]⟩, .int .i64 0] 29)).heap.size (w.alloc (.cells #[.int .u8 0, .int .i64 0, .string ⟨#[]⟩, .int .i64 0] 29)) w1 from by repeat (first | exact Below.refl _ _ | assumption | exact Go.Proofs.YtdipalinddfekaaGreatDoor.V.below_drewN _ _ | (refine bel_trans ?_ (Go.Proofs.YtdipalinddfekaaGreatDoor.V.below_drewN _ _)) | (refine bel_trans ?_ (by assumption)) | (with_reducible apply bel_alloc) | (with_reducible apply Below.drew) | apply bel_alloc | apply Below.drew | refine bel_set ?_ (by simp; try omega) _))))
  go_wp2
  exact bodyPost_ret (v := ov z.k z.n z.s z.e) (by simp [results, Tryz.results20, go_sem, *]) rfl ⟨rfl, by repeat (first | exact Below.refl _ _ | assumption | exact Go.Proofs.YtdipalinddfekaaGreatDoor.V.below_drewN _ _ | (refine bel_trans ?_ (Go.Proofs.YtdipalinddfekaaGreatDoor.V.below_drewN _ _)) | (refine bel_trans ?_ (by assumption)) | (with_reducible apply bel_alloc) | (with_reducible apply Below.drew) | apply bel_alloc | apply Below.drew | refine bel_set ?_ (by simp; try omega) _)⟩
set_option maxRecDepth 100000 in
set_option maxHeartbeats 4000000 in
theorem q_s14 (o p z : Ot) (hC : ∀ W, Ret 38 #[.int .u8 14, val o.k o.n o.s, val p.k p.n p.s] W (ov z.k z.n z.s z.e)) (a : Option Addr) (c : Nat) (w : World) (h : Outs w a 2 [o, p]) : Ret 20 #[.int .u8 14, .slice a 2 c] w (enc z) := by
  obtain ⟨g, q, x0, rfl, e0, hg, c0, c1, c2, c3⟩ := h.at_ 0 (by omega)
  obtain rfl : o = x0 := Option.some.inj e0
  obtain ⟨g', q', x1, e1, e2, hg', m0, m1, m2, m3⟩ := h.at_ 1 (by omega)
  cases e1
  obtain rfl : p = x1 := Option.some.inj e2
  simp only [Nat.zero_mul, Nat.one_mul, Nat.add_zero] at c0 c1 c2 c3 m0 m1 m2 m3
  have KP : Hid (∀ W', Below w.heap.size w W' → W'.cell? ⟨g, q, none⟩ = some (.int .u8 o.k) ∧ W'.cell? ⟨g, q + 1, none⟩ = some (.int .i64 o.n) ∧ W'.cell? ⟨g, q + 2, none⟩ = some (.string o.s) ∧ W'.cell? ⟨g, q + 3, none⟩ = some (.int .i64 o.e) ∧ W'.cell? ⟨g, q + 4, none⟩ = some (.int .u8 p.k) ∧ W'.cell? ⟨g, q + 4 + 1, none⟩ = some (.int .i64 p.n) ∧ W'.cell? ⟨g, q + 4 + 2, none⟩ = some (.string p.s) ∧ W'.cell? ⟨g, q + 4 + 3, none⟩ = some (.int .i64 p.e)) := fun W' hb => ⟨(hb.cell (p := ⟨g, _, none⟩) hg).trans c0, (hb.cell (p := ⟨g, _, none⟩) hg).trans c1, (hb.cell (p := ⟨g, _, none⟩) hg).trans c2, (hb.cell (p := ⟨g, _, none⟩) hg).trans c3,
    (hb.cell (p := ⟨g, _, none⟩) hg).trans m0, (hb.cell (p := ⟨g, _, none⟩) hg).trans m1, (hb.cell (p := ⟨g, _, none⟩) hg).trans m2, (hb.cell (p := ⟨g, _, none⟩) hg).trans m3⟩
  have HX : Hid (Box (w.alloc (.cells #[.int .u8 0, .int .i64 0, .string ⟨#[]⟩, .int .i64 0] 29)) w.heap.size nul) := Box.new w nul
  clear e0 e2 h
  go_enter Tryz.func20, Tryz.ntmps20
  go_upto_region 18 with fail
  go_region_held3 (fun W' => W'.cell? ⟨g, q, none⟩ = some (.int .u8 o.k) ∧ W'.cell? ⟨g, q + 1, none⟩ = some (.int .i64 o.n) ∧ W'.cell? ⟨g, q + 2, none⟩ = some (.string o.s) ∧ W'.cell? ⟨g, q + 3, none⟩ = some (.int .i64 o.e) ∧ W'.cell? ⟨g, q + 4, none⟩ = some (.int .u8 p.k) ∧ W'.cell? ⟨g, q + 4 + 1, none⟩ = some (.int .i64 p.n) ∧ W'.cell? ⟨g, q + 4 + 2, none⟩ = some (.string p.s) ∧ W'.cell? ⟨g, q + 4 + 3, none⟩ = some (.int .i64 p.e)) (exact KP.out _ (by repeat (first | exact Below.refl _ _ | assumption | exact Go.Proofs.YtdipalinddfekaaGreatDoor.V.below_drewN _ _ | (refine bel_trans ?_ (Go.Proofs.YtdipalinddfekaaGreatDoor.V.below_drewN _ _)) | (refine bel_trans ?_ (by assumption)) | (with_reducible apply bel_alloc) | (with_reducible apply Below.drew) | apply bel_alloc | apply Below.drew | refine bel_set ?_ (by simp; try omega) _)))
    (first | (go_at_call 38; refine (hC _).mono ?_; rintro e w1 ⟨rfl, hb1⟩; obtain ⟨hx, d0, d1, d2, d3, f0, f1, f2, f3⟩ := HX.out.below (show Below (w.alloc (.cells #[.int .u8 0, .int .i64 0, .string ⟨#[]⟩, .int .i64 0] 29)).heap.size (w.alloc (.cells #[.int .u8 0, .int .i64 0, .string ⟨#[]⟩, .int .i64 0] 29)) w1 from by repeat (first | exact Below.refl _ _ | assumption | exact Go.Proofs.YtdipalinddfekaaGreatDoor.V.below_drewN _ _ | (refine bel_trans ?_ (Go.Proofs.YtdipalinddfekaaGreatDoor.V.below_drewN _ _)) | (refine bel_trans ?_ (by assumption)) | (with_reducible apply bel_alloc) | (with_reducible apply Below.drew) | apply bel_alloc | apply Below.drew | refine bel_set ?_ (by simp; try omega) _))))
  go_wp2
  exact bodyPost_ret (v := ov z.k z.n z.s z.e) (by simp [results, Tryz.results20, go_sem, *]) rfl ⟨rfl, by repeat (first | exact Below.refl _ _ | assumption | exact Go.Proofs.YtdipalinddfekaaGreatDoor.V.below_drewN _ _ | (refine bel_trans ?_ (Go.Proofs.YtdipalinddfekaaGreatDoor.V.below_drewN _ _)) | (refine bel_trans ?_ (by assumption)) | (with_reducible apply bel_alloc) | (with_reducible apply Below.drew) | apply bel_alloc | apply Below.drew | refine bel_set ?_ (by simp; try omega) _)⟩
set_option maxRecDepth 100000 in
set_option maxHeartbeats 4000000 in
theorem q_s15 (o p z : Ot) (hC : ∀ W, Ret 38 #[.int .u8 15, val o.k o.n o.s, val p.k p.n p.s] W (ov z.k z.n z.s z.e)) (a : Option Addr) (c : Nat) (w : World) (h : Outs w a 2 [o, p]) : Ret 20 #[.int .u8 15, .slice a 2 c] w (enc z) := by
  obtain ⟨g, q, x0, rfl, e0, hg, c0, c1, c2, c3⟩ := h.at_ 0 (by omega)
  obtain rfl : o = x0 := Option.some.inj e0
  obtain ⟨g', q', x1, e1, e2, hg', m0, m1, m2, m3⟩ := h.at_ 1 (by omega)
  cases e1
  obtain rfl : p = x1 := Option.some.inj e2
  simp only [Nat.zero_mul, Nat.one_mul, Nat.add_zero] at c0 c1 c2 c3 m0 m1 m2 m3
  have KP : Hid (∀ W', Below w.heap.size w W' → W'.cell? ⟨g, q, none⟩ = some (.int .u8 o.k) ∧ W'.cell? ⟨g, q + 1, none⟩ = some (.int .i64 o.n) ∧ W'.cell? ⟨g, q + 2, none⟩ = some (.string o.s) ∧ W'.cell? ⟨g, q + 3, none⟩ = some (.int .i64 o.e) ∧ W'.cell? ⟨g, q + 4, none⟩ = some (.int .u8 p.k) ∧ W'.cell? ⟨g, q + 4 + 1, none⟩ = some (.int .i64 p.n) ∧ W'.cell? ⟨g, q + 4 + 2, none⟩ = some (.string p.s) ∧ W'.cell? ⟨g, q + 4 + 3, none⟩ = some (.int .i64 p.e)) := fun W' hb => ⟨(hb.cell (p := ⟨g, _, none⟩) hg).trans c0, (hb.cell (p := ⟨g, _, none⟩) hg).trans c1, (hb.cell (p := ⟨g, _, none⟩) hg).trans c2, (hb.cell (p := ⟨g, _, none⟩) hg).trans c3,
    (hb.cell (p := ⟨g, _, none⟩) hg).trans m0, (hb.cell (p := ⟨g, _, none⟩) hg).trans m1, (hb.cell (p := ⟨g, _, none⟩) hg).trans m2, (hb.cell (p := ⟨g, _, none⟩) hg).trans m3⟩
  have HX : Hid (Box (w.alloc (.cells #[.int .u8 0, .int .i64 0, .string ⟨#[]⟩, .int .i64 0] 29)) w.heap.size nul) := Box.new w nul
  clear e0 e2 h
  go_enter Tryz.func20, Tryz.ntmps20
  go_upto_region 18 with fail
  go_region_held3 (fun W' => W'.cell? ⟨g, q, none⟩ = some (.int .u8 o.k) ∧ W'.cell? ⟨g, q + 1, none⟩ = some (.int .i64 o.n) ∧ W'.cell? ⟨g, q + 2, none⟩ = some (.string o.s) ∧ W'.cell? ⟨g, q + 3, none⟩ = some (.int .i64 o.e) ∧ W'.cell? ⟨g, q + 4, none⟩ = some (.int .u8 p.k) ∧ W'.cell? ⟨g, q + 4 + 1, none⟩ = some (.int .i64 p.n) ∧ W'.cell? ⟨g, q + 4 + 2, none⟩ = some (.string p.s) ∧ W'.cell? ⟨g, q + 4 + 3, none⟩ = some (.int .i64 p.e)) (exact KP.out _ (by repeat (first | exact Below.refl _ _ | assumption | exact Go.Proofs.YtdipalinddfekaaGreatDoor.V.below_drewN _ _ | (refine bel_trans ?_ (Go.Proofs.YtdipalinddfekaaGreatDoor.V.below_drewN _ _)) | (refine bel_trans ?_ (by assumption)) | (with_reducible apply bel_alloc) | (with_reducible apply Below.drew) | apply bel_alloc | apply Below.drew | refine bel_set ?_ (by simp; try omega) _)))
    (first | (go_at_call 38; refine (hC _).mono ?_; rintro e w1 ⟨rfl, hb1⟩; obtain ⟨hx, d0, d1, d2, d3, f0, f1, f2, f3⟩ := HX.out.below (show Below (w.alloc (.cells #[.int .u8 0, .int .i64 0, .string ⟨#[]⟩, .int .i64 0] 29)).heap.size (w.alloc (.cells #[.int .u8 0, .int .i64 0, .string ⟨#[]⟩, .int .i64 0] 29)) w1 from by repeat (first | exact Below.refl _ _ | assumption | exact Go.Proofs.YtdipalinddfekaaGreatDoor.V.below_drewN _ _ | (refine bel_trans ?_ (Go.Proofs.YtdipalinddfekaaGreatDoor.V.below_drewN _ _)) | (refine bel_trans ?_ (by assumption)) | (with_reducible apply bel_alloc) | (with_reducible apply Below.drew) | apply bel_alloc | apply Below.drew | refine bel_set ?_ (by simp; try omega) _))))
  go_wp2
  exact bodyPost_ret (v := ov z.k z.n z.s z.e) (by simp [results, Tryz.results20, go_sem, *]) rfl ⟨rfl, by repeat (first | exact Below.refl _ _ | assumption | exact Go.Proofs.YtdipalinddfekaaGreatDoor.V.below_drewN _ _ | (refine bel_trans ?_ (Go.Proofs.YtdipalinddfekaaGreatDoor.V.below_drewN _ _)) | (refine bel_trans ?_ (by assumption)) | (with_reducible apply bel_alloc) | (with_reducible apply Below.drew) | apply bel_alloc | apply Below.drew | refine bel_set ?_ (by simp; try omega) _)⟩
set_option maxRecDepth 100000 in
set_option maxHeartbeats 4000000 in
theorem q_s16 (o p z : Ot) (hC : ∀ W, Ret 38 #[.int .u8 16, val o.k o.n o.s, val p.k p.n p.s] W (ov z.k z.n z.s z.e)) (a : Option Addr) (c : Nat) (w : World) (h : Outs w a 2 [o, p]) : Ret 20 #[.int .u8 16, .slice a 2 c] w (enc z) := by
  obtain ⟨g, q, x0, rfl, e0, hg, c0, c1, c2, c3⟩ := h.at_ 0 (by omega)
  obtain rfl : o = x0 := Option.some.inj e0
  obtain ⟨g', q', x1, e1, e2, hg', m0, m1, m2, m3⟩ := h.at_ 1 (by omega)
  cases e1
  obtain rfl : p = x1 := Option.some.inj e2
  simp only [Nat.zero_mul, Nat.one_mul, Nat.add_zero] at c0 c1 c2 c3 m0 m1 m2 m3
  have KP : Hid (∀ W', Below w.heap.size w W' → W'.cell? ⟨g, q, none⟩ = some (.int .u8 o.k) ∧ W'.cell? ⟨g, q + 1, none⟩ = some (.int .i64 o.n) ∧ W'.cell? ⟨g, q + 2, none⟩ = some (.string o.s) ∧ W'.cell? ⟨g, q + 3, none⟩ = some (.int .i64 o.e) ∧ W'.cell? ⟨g, q + 4, none⟩ = some (.int .u8 p.k) ∧ W'.cell? ⟨g, q + 4 + 1, none⟩ = some (.int .i64 p.n) ∧ W'.cell? ⟨g, q + 4 + 2, none⟩ = some (.string p.s) ∧ W'.cell? ⟨g, q + 4 + 3, none⟩ = some (.int .i64 p.e)) := fun W' hb => ⟨(hb.cell (p := ⟨g, _, none⟩) hg).trans c0, (hb.cell (p := ⟨g, _, none⟩) hg).trans c1, (hb.cell (p := ⟨g, _, none⟩) hg).trans c2, (hb.cell (p := ⟨g, _, none⟩) hg).trans c3,
    (hb.cell (p := ⟨g, _, none⟩) hg).trans m0, (hb.cell (p := ⟨g, _, none⟩) hg).trans m1, (hb.cell (p := ⟨g, _, none⟩) hg).trans m2, (hb.cell (p := ⟨g, _, none⟩) hg).trans m3⟩
  have HX : Hid (Box (w.alloc (.cells #[.int .u8 0, .int .i64 0, .string ⟨#[]⟩, .int .i64 0] 29)) w.heap.size nul) := Box.new w nul
  clear e0 e2 h
  go_enter Tryz.func20, Tryz.ntmps20
  go_upto_region 18 with fail
  go_region_held3 (fun W' => W'.cell? ⟨g, q, none⟩ = some (.int .u8 o.k) ∧ W'.cell? ⟨g, q + 1, none⟩ = some (.int .i64 o.n) ∧ W'.cell? ⟨g, q + 2, none⟩ = some (.string o.s) ∧ W'.cell? ⟨g, q + 3, none⟩ = some (.int .i64 o.e) ∧ W'.cell? ⟨g, q + 4, none⟩ = some (.int .u8 p.k) ∧ W'.cell? ⟨g, q + 4 + 1, none⟩ = some (.int .i64 p.n) ∧ W'.cell? ⟨g, q + 4 + 2, none⟩ = some (.string p.s) ∧ W'.cell? ⟨g, q + 4 + 3, none⟩ = some (.int .i64 p.e)) (exact KP.out _ (by repeat (first | exact Below.refl _ _ | assumption | exact Go.Proofs.YtdipalinddfekaaGreatDoor.V.below_drewN _ _ | (refine bel_trans ?_ (Go.Proofs.YtdipalinddfekaaGreatDoor.V.below_drewN _ _)) | (refine bel_trans ?_ (by assumption)) | (with_reducible apply bel_alloc) | (with_reducible apply Below.drew) | apply bel_alloc | apply Below.drew | refine bel_set ?_ (by simp; try omega) _)))
    (first | (go_at_call 38; refine (hC _).mono ?_; rintro e w1 ⟨rfl, hb1⟩; obtain ⟨hx, d0, d1, d2, d3, f0, f1, f2, f3⟩ := HX.out.below (show Below (w.alloc (.cells #[.int .u8 0, .int .i64 0, .string ⟨#[]⟩, .int .i64 0] 29)).heap.size (w.alloc (.cells #[.int .u8 0, .int .i64 0, .string ⟨#[]⟩, .int .i64 0] 29)) w1 from by repeat (first | exact Below.refl _ _ | assumption | exact Go.Proofs.YtdipalinddfekaaGreatDoor.V.below_drewN _ _ | (refine bel_trans ?_ (Go.Proofs.YtdipalinddfekaaGreatDoor.V.below_drewN _ _)) | (refine bel_trans ?_ (by assumption)) | (with_reducible apply bel_alloc) | (with_reducible apply Below.drew) | apply bel_alloc | apply Below.drew | refine bel_set ?_ (by simp; try omega) _))))
  go_wp2
  exact bodyPost_ret (v := ov z.k z.n z.s z.e) (by simp [results, Tryz.results20, go_sem, *]) rfl ⟨rfl, by repeat (first | exact Below.refl _ _ | assumption | exact Go.Proofs.YtdipalinddfekaaGreatDoor.V.below_drewN _ _ | (refine bel_trans ?_ (Go.Proofs.YtdipalinddfekaaGreatDoor.V.below_drewN _ _)) | (refine bel_trans ?_ (by assumption)) | (with_reducible apply bel_alloc) | (with_reducible apply Below.drew) | apply bel_alloc | apply Below.drew | refine bel_set ?_ (by simp; try omega) _)⟩
set_option maxRecDepth 100000 in
set_option maxHeartbeats 4000000 in
theorem q_s17 (o p z : Ot) (hC : ∀ W, Ret 38 #[.int .u8 17, val o.k o.n o.s, val p.k p.n p.s] W (ov z.k z.n z.s z.e)) (a : Option Addr) (c : Nat) (w : World) (h : Outs w a 2 [o, p]) : Ret 20 #[.int .u8 17, .slice a 2 c] w (enc z) := by
  obtain ⟨g, q, x0, rfl, e0, hg, c0, c1, c2, c3⟩ := h.at_ 0 (by omega)
  obtain rfl : o = x0 := Option.some.inj e0
  obtain ⟨g', q', x1, e1, e2, hg', m0, m1, m2, m3⟩ := h.at_ 1 (by omega)
  cases e1
  obtain rfl : p = x1 := Option.some.inj e2
  simp only [Nat.zero_mul, Nat.one_mul, Nat.add_zero] at c0 c1 c2 c3 m0 m1 m2 m3
  have KP : Hid (∀ W', Below w.heap.size w W' → W'.cell? ⟨g, q, none⟩ = some (.int .u8 o.k) ∧ W'.cell? ⟨g, q + 1, none⟩ = some (.int .i64 o.n) ∧ W'.cell? ⟨g, q + 2, none⟩ = some (.string o.s) ∧ W'.cell? ⟨g, q + 3, none⟩ = some (.int .i64 o.e) ∧ W'.cell? ⟨g, q + 4, none⟩ = some (.int .u8 p.k) ∧ W'.cell? ⟨g, q + 4 + 1, none⟩ = some (.int .i64 p.n) ∧ W'.cell? ⟨g, q + 4 + 2, none⟩ = some (.string p.s) ∧ W'.cell? ⟨g, q + 4 + 3, none⟩ = some (.int .i64 p.e)) := fun W' hb => ⟨(hb.cell (p := ⟨g, _, none⟩) hg).trans c0, (hb.cell (p := ⟨g, _, none⟩) hg).trans c1, (hb.cell (p := ⟨g, _, none⟩) hg).trans c2, (hb.cell (p := ⟨g, _, none⟩) hg).trans c3,
    (hb.cell (p := ⟨g, _, none⟩) hg).trans m0, (hb.cell (p := ⟨g, _, none⟩) hg).trans m1, (hb.cell (p := ⟨g, _, none⟩) hg).trans m2, (hb.cell (p := ⟨g, _, none⟩) hg).trans m3⟩
  have HX : Hid (Box (w.alloc (.cells #[.int .u8 0, .int .i64 0, .string ⟨#[]⟩, .int .i64 0] 29)) w.heap.size nul) := Box.new w nul
  clear e0 e2 h
  go_enter Tryz.func20, Tryz.ntmps20
  go_upto_region 18 with fail
  go_region_held3 (fun W' => W'.cell? ⟨g, q, none⟩ = some (.int .u8 o.k) ∧ W'.cell? ⟨g, q + 1, none⟩ = some (.int .i64 o.n) ∧ W'.cell? ⟨g, q + 2, none⟩ = some (.string o.s) ∧ W'.cell? ⟨g, q + 3, none⟩ = some (.int .i64 o.e) ∧ W'.cell? ⟨g, q + 4, none⟩ = some (.int .u8 p.k) ∧ W'.cell? ⟨g, q + 4 + 1, none⟩ = some (.int .i64 p.n) ∧ W'.cell? ⟨g, q + 4 + 2, none⟩ = some (.string p.s) ∧ W'.cell? ⟨g, q + 4 + 3, none⟩ = some (.int .i64 p.e)) (exact KP.out _ (by repeat (first | exact Below.refl _ _ | assumption | exact Go.Proofs.YtdipalinddfekaaGreatDoor.V.below_drewN _ _ | (refine bel_trans ?_ (Go.Proofs.YtdipalinddfekaaGreatDoor.V.below_drewN _ _)) | (refine bel_trans ?_ (by assumption)) | (with_reducible apply bel_alloc) | (with_reducible apply Below.drew) | apply bel_alloc | apply Below.drew | refine bel_set ?_ (by simp; try omega) _)))
    (first | (go_at_call 38; refine (hC _).mono ?_; rintro e w1 ⟨rfl, hb1⟩; obtain ⟨hx, d0, d1, d2, d3, f0, f1, f2, f3⟩ := HX.out.below (show Below (w.alloc (.cells #[.int .u8 0, .int .i64 0, .string ⟨#[]⟩, .int .i64 0] 29)).heap.size (w.alloc (.cells #[.int .u8 0, .int .i64 0, .string ⟨#[]⟩, .int .i64 0] 29)) w1 from by repeat (first | exact Below.refl _ _ | assumption | exact Go.Proofs.YtdipalinddfekaaGreatDoor.V.below_drewN _ _ | (refine bel_trans ?_ (Go.Proofs.YtdipalinddfekaaGreatDoor.V.below_drewN _ _)) | (refine bel_trans ?_ (by assumption)) | (with_reducible apply bel_alloc) | (with_reducible apply Below.drew) | apply bel_alloc | apply Below.drew | refine bel_set ?_ (by simp; try omega) _))))
  go_wp2
  exact bodyPost_ret (v := ov z.k z.n z.s z.e) (by simp [results, Tryz.results20, go_sem, *]) rfl ⟨rfl, by repeat (first | exact Below.refl _ _ | assumption | exact Go.Proofs.YtdipalinddfekaaGreatDoor.V.below_drewN _ _ | (refine bel_trans ?_ (Go.Proofs.YtdipalinddfekaaGreatDoor.V.below_drewN _ _)) | (refine bel_trans ?_ (by assumption)) | (with_reducible apply bel_alloc) | (with_reducible apply Below.drew) | apply bel_alloc | apply Below.drew | refine bel_set ?_ (by simp; try omega) _)⟩
set_option maxRecDepth 100000 in
set_option maxHeartbeats 4000000 in
theorem q_s19 (o p : Ot) (hs : o.s.size ≤ 100) (hp : p.s.size ≤ 100) (a : Option Addr) (c : Nat) (w : World) (h : Outs w a 2 [o, p]) : Ret 20 #[.int .u8 19, .slice a 2 c] w (enc (bo (matchB o.s p.s))) := by
  obtain ⟨g, q, x0, rfl, e0, hg, c0, c1, c2, c3⟩ := h.at_ 0 (by omega)
  obtain rfl : o = x0 := Option.some.inj e0
  obtain ⟨g', q', x1, e1, e2, hg', m0, m1, m2, m3⟩ := h.at_ 1 (by omega)
  cases e1
  obtain rfl : p = x1 := Option.some.inj e2
  simp only [Nat.zero_mul, Nat.one_mul, Nat.add_zero] at c0 c1 c2 c3 m0 m1 m2 m3
  have KP : Hid (∀ W', Below w.heap.size w W' → W'.cell? ⟨g, q, none⟩ = some (.int .u8 o.k) ∧ W'.cell? ⟨g, q + 1, none⟩ = some (.int .i64 o.n) ∧ W'.cell? ⟨g, q + 2, none⟩ = some (.string o.s) ∧ W'.cell? ⟨g, q + 3, none⟩ = some (.int .i64 o.e) ∧ W'.cell? ⟨g, q + 4, none⟩ = some (.int .u8 p.k) ∧ W'.cell? ⟨g, q + 4 + 1, none⟩ = some (.int .i64 p.n) ∧ W'.cell? ⟨g, q + 4 + 2, none⟩ = some (.string p.s) ∧ W'.cell? ⟨g, q + 4 + 3, none⟩ = some (.int .i64 p.e)) := fun W' hb => ⟨(hb.cell (p := ⟨g, _, none⟩) hg).trans c0, (hb.cell (p := ⟨g, _, none⟩) hg).trans c1, (hb.cell (p := ⟨g, _, none⟩) hg).trans c2, (hb.cell (p := ⟨g, _, none⟩) hg).trans c3,
    (hb.cell (p := ⟨g, _, none⟩) hg).trans m0, (hb.cell (p := ⟨g, _, none⟩) hg).trans m1, (hb.cell (p := ⟨g, _, none⟩) hg).trans m2, (hb.cell (p := ⟨g, _, none⟩) hg).trans m3⟩
  have HX : Hid (Box (w.alloc (.cells #[.int .u8 0, .int .i64 0, .string ⟨#[]⟩, .int .i64 0] 29)) w.heap.size nul) := Box.new w nul
  clear e0 e2 h
  have hM := fun W => r_Matches o.s p.s (by omega) (by omega) W
  generalize matchB o.s p.s = b at hM ⊢
  have hT := fun W => r_Bool5 b W
  have hz : (bo b).k = 3 ∧ (bo b).n = (if b then 1 else 0) ∧ (bo b).s = ⟨#[]⟩ ∧ (bo b).e = 0 := ⟨rfl, rfl, rfl, rfl⟩
  generalize (if b = true then 1 else 0 : Int) = m at hT hz
  obtain ⟨h1, h2, h3, h4⟩ := hz
  show Ret 20 _ _ (ov (bo b).k (bo b).n (bo b).s (bo b).e)
  rw [h1, h2, h3, h4]
  clear h1 h2 h3 h4 hs hp
  go_enter Tryz.func20, Tryz.ntmps20
  go_upto_region 15 with fail
  go_region_held3 (fun W' => W'.cell? ⟨g, q, none⟩ = some (.int .u8 o.k) ∧ W'.cell? ⟨g, q + 1, none⟩ = some (.int .i64 o.n) ∧ W'.cell? ⟨g, q + 2, none⟩ = some (.string o.s) ∧ W'.cell? ⟨g, q + 3, none⟩ = some (.int .i64 o.e) ∧ W'.cell? ⟨g, q + 4, none⟩ = some (.int .u8 p.k) ∧ W'.cell? ⟨g, q + 4 + 1, none⟩ = some (.int .i64 p.n) ∧ W'.cell? ⟨g, q + 4 + 2, none⟩ = some (.string p.s) ∧ W'.cell? ⟨g, q + 4 + 3, none⟩ = some (.int .i64 p.e)) (exact KP.out _ (by repeat (first | exact Below.refl _ _ | assumption | exact Go.Proofs.YtdipalinddfekaaGreatDoor.V.below_drewN _ _ | (refine bel_trans ?_ (Go.Proofs.YtdipalinddfekaaGreatDoor.V.below_drewN _ _)) | (refine bel_trans ?_ (by assumption)) | (with_reducible apply bel_alloc) | (with_reducible apply Below.drew) | apply bel_alloc | apply Below.drew | refine bel_set ?_ (by simp; try omega) _)))
    (first | (go_at_call 37; refine (hM _).mono ?_; rintro e w1 ⟨rfl, hb1⟩) | (go_at_call 17; refine (hT _).mono ?_; rintro e w2 ⟨rfl, hb2⟩; obtain ⟨hx, d0, d1, d2, d3, f0, f1, f2, f3⟩ := HX.out.below (show Below (w.alloc (.cells #[.int .u8 0, .int .i64 0, .string ⟨#[]⟩, .int .i64 0] 29)).heap.size (w.alloc (.cells #[.int .u8 0, .int .i64 0, .string ⟨#[]⟩, .int .i64 0] 29)) w2 from by repeat (first | exact Below.refl _ _ | assumption | exact Go.Proofs.YtdipalinddfekaaGreatDoor.V.below_drewN _ _ | (refine bel_trans ?_ (Go.Proofs.YtdipalinddfekaaGreatDoor.V.below_drewN _ _)) | (refine bel_trans ?_ (by assumption)) | (with_reducible apply bel_alloc) | (with_reducible apply Below.drew) | apply bel_alloc | apply Below.drew | refine bel_set ?_ (by simp; try omega) _))))
  go_wp2
  exact bodyPost_ret (v := ov 3 m ⟨#[]⟩ 0) (by simp [results, Tryz.results20, go_sem, *]) rfl ⟨rfl, by repeat (first | exact Below.refl _ _ | assumption | exact Go.Proofs.YtdipalinddfekaaGreatDoor.V.below_drewN _ _ | (refine bel_trans ?_ (Go.Proofs.YtdipalinddfekaaGreatDoor.V.below_drewN _ _)) | (refine bel_trans ?_ (by assumption)) | (with_reducible apply bel_alloc) | (with_reducible apply Below.drew) | apply bel_alloc | apply Below.drew | refine bel_set ?_ (by simp; try omega) _)⟩
set_option maxRecDepth 100000 in
set_option maxHeartbeats 4000000 in
theorem q_s4 (o : Ot) (ho : Fits o.n) (a : Option Addr) (c : Nat) (w : World) (h : Outs w a 1 [o]) : Ret 20 #[.int .u8 4, .slice a 1 c] w (enc (numO 4 o.n o.n)) := by
  have hA : ∀ W, Outs W a 1 [o] → Ret 34 #[.int .u8 4, .slice a 1 c] W (enc (numO 4 o.n o.n)) := fun W h => r_num4 o ho a c W h
  generalize numO 4 o.n o.n = z at hA ⊢
  have HL := Lib.hid h
  clear h ho
  go_enter Tryz.func20, Tryz.ntmps20
  go_wp2_with fail
  refine (hA _ (HL.out.below (bel_alloc (Below.refl _ _) _))).mono ?_; rintro e w1 ⟨rfl, hbw1⟩; obtain ⟨hcw1, hfw1⟩ := bcell hbw1; have hzw1 := hbw1.size; (try simp at hzw1); have hk0w1 : w.heap.size < w1.heap.size := (by omega)
  go_wp2
  exact bodyPost_ret (v := ov z.k z.n z.s z.e) (by simp [results, Tryz.results20, go_sem, *]) rfl ⟨rfl, by repeat (first | exact Below.refl _ _ | assumption | exact Go.Proofs.YtdipalinddfekaaGreatDoor.V.below_drewN _ _ | (refine bel_trans ?_ (Go.Proofs.YtdipalinddfekaaGreatDoor.V.below_drewN _ _)) | (refine bel_trans ?_ (by assumption)) | (with_reducible apply bel_alloc) | (with_reducible apply Below.drew) | apply bel_alloc | apply Below.drew | refine bel_set ?_ (by simp; try omega) _)⟩
set_option maxRecDepth 100000 in
set_option maxHeartbeats 4000000 in
theorem q_s5 (o p : Ot) (ho : Fits o.n) (hp : Fits p.n) (a : Option Addr) (c : Nat) (w : World) (h : Outs w a 2 [o, p]) : Ret 20 #[.int .u8 5, .slice a 2 c] w (enc (numO 5 o.n p.n)) := by
  have hA : ∀ W, Outs W a 2 [o, p] → Ret 34 #[.int .u8 5, .slice a 2 c] W (enc (numO 5 o.n p.n)) := fun W h => r_num5 o p ho hp a c W h
  generalize numO 5 o.n p.n = z at hA ⊢
  have HL := Lib.hid h
  clear h ho hp
  go_enter Tryz.func20, Tryz.ntmps20
  go_wp2_with fail
  refine (hA _ (HL.out.below (bel_alloc (Below.refl _ _) _))).mono ?_; rintro e w1 ⟨rfl, hbw1⟩; obtain ⟨hcw1, hfw1⟩ := bcell hbw1; have hzw1 := hbw1.size; (try simp at hzw1); have hk0w1 : w.heap.size < w1.heap.size := (by omega)
  go_wp2
  exact bodyPost_ret (v := ov z.k z.n z.s z.e) (by simp [results, Tryz.results20, go_sem, *]) rfl ⟨rfl, by repeat (first | exact Below.refl _ _ | assumption | exact Go.Proofs.YtdipalinddfekaaGreatDoor.V.below_drewN _ _ | (refine bel_trans ?_ (Go.Proofs.YtdipalinddfekaaGreatDoor.V.below_drewN _ _)) | (refine bel_trans ?_ (by assumption)) | (with_reducible apply bel_alloc) | (with_reducible apply Below.drew) | apply bel_alloc | apply Below.drew | refine bel_set ?_ (by simp; try omega) _)⟩
set_option maxRecDepth 100000 in
set_option maxHeartbeats 4000000 in
theorem q_s6 (o p : Ot) (ho : Fits o.n) (hp : Fits p.n) (a : Option Addr) (c : Nat) (w : World) (h : Outs w a 2 [o, p]) : Ret 20 #[.int .u8 6, .slice a 2 c] w (enc (numO 6 o.n p.n)) := by
  have hA : ∀ W, Outs W a 2 [o, p] → Ret 34 #[.int .u8 6, .slice a 2 c] W (enc (numO 6 o.n p.n)) := fun W h => r_num6 o p ho hp a c W h
  generalize numO 6 o.n p.n = z at hA ⊢
  have HL := Lib.hid h
  clear h ho hp
  go_enter Tryz.func20, Tryz.ntmps20
  go_wp2_with fail
  refine (hA _ (HL.out.below (bel_alloc (Below.refl _ _) _))).mono ?_; rintro e w1 ⟨rfl, hbw1⟩; obtain ⟨hcw1, hfw1⟩ := bcell hbw1; have hzw1 := hbw1.size; (try simp at hzw1); have hk0w1 : w.heap.size < w1.heap.size := (by omega)
  go_wp2
  exact bodyPost_ret (v := ov z.k z.n z.s z.e) (by simp [results, Tryz.results20, go_sem, *]) rfl ⟨rfl, by repeat (first | exact Below.refl _ _ | assumption | exact Go.Proofs.YtdipalinddfekaaGreatDoor.V.below_drewN _ _ | (refine bel_trans ?_ (Go.Proofs.YtdipalinddfekaaGreatDoor.V.below_drewN _ _)) | (refine bel_trans ?_ (by assumption)) | (with_reducible apply bel_alloc) | (with_reducible apply Below.drew) | apply bel_alloc | apply Below.drew | refine bel_set ?_ (by simp; try omega) _)⟩
set_option maxRecDepth 100000 in
set_option maxHeartbeats 4000000 in
theorem q_s7 (o p : Ot) (ho : Fits o.n) (hp : Fits p.n) (a : Option Addr) (c : Nat) (w : World) (h : Outs w a 2 [o, p]) : Ret 20 #[.int .u8 7, .slice a 2 c] w (enc (numO 7 o.n p.n)) := by
  have hA : ∀ W, Outs W a 2 [o, p] → Ret 34 #[.int .u8 7, .slice a 2 c] W (enc (numO 7 o.n p.n)) := fun W h => r_num7 o p ho hp a c W h
  generalize numO 7 o.n p.n = z at hA ⊢
  have HL := Lib.hid h
  clear h ho hp
  go_enter Tryz.func20, Tryz.ntmps20
  go_wp2_with fail
  refine (hA _ (HL.out.below (bel_alloc (Below.refl _ _) _))).mono ?_; rintro e w1 ⟨rfl, hbw1⟩; obtain ⟨hcw1, hfw1⟩ := bcell hbw1; have hzw1 := hbw1.size; (try simp at hzw1); have hk0w1 : w.heap.size < w1.heap.size := (by omega)
  go_wp2
  exact bodyPost_ret (v := ov z.k z.n z.s z.e) (by simp [results, Tryz.results20, go_sem, *]) rfl ⟨rfl, by repeat (first | exact Below.refl _ _ | assumption | exact Go.Proofs.YtdipalinddfekaaGreatDoor.V.below_drewN _ _ | (refine bel_trans ?_ (Go.Proofs.YtdipalinddfekaaGreatDoor.V.below_drewN _ _)) | (refine bel_trans ?_ (by assumption)) | (with_reducible apply bel_alloc) | (with_reducible apply Below.drew) | apply bel_alloc | apply Below.drew | refine bel_set ?_ (by simp; try omega) _)⟩
set_option maxRecDepth 100000 in
set_option maxHeartbeats 4000000 in
theorem q_s8 (o p : Ot) (ho : Fits o.n) (hp : Fits p.n) (a : Option Addr) (c : Nat) (w : World) (h : Outs w a 2 [o, p]) : Ret 20 #[.int .u8 8, .slice a 2 c] w (enc (numO 8 o.n p.n)) := by
  have hA : ∀ W, Outs W a 2 [o, p] → Ret 34 #[.int .u8 8, .slice a 2 c] W (enc (numO 8 o.n p.n)) := fun W h => r_num8 o p ho hp a c W h
  generalize numO 8 o.n p.n = z at hA ⊢
  have HL := Lib.hid h
  clear h ho hp
  go_enter Tryz.func20, Tryz.ntmps20
  go_wp2_with fail
  refine (hA _ (HL.out.below (bel_alloc (Below.refl _ _) _))).mono ?_; rintro e w1 ⟨rfl, hbw1⟩; obtain ⟨hcw1, hfw1⟩ := bcell hbw1; have hzw1 := hbw1.size; (try simp at hzw1); have hk0w1 : w.heap.size < w1.heap.size := (by omega)
  go_wp2
  exact bodyPost_ret (v := ov z.k z.n z.s z.e) (by simp [results, Tryz.results20, go_sem, *]) rfl ⟨rfl, by repeat (first | exact Below.refl _ _ | assumption | exact Go.Proofs.YtdipalinddfekaaGreatDoor.V.below_drewN _ _ | (refine bel_trans ?_ (Go.Proofs.YtdipalinddfekaaGreatDoor.V.below_drewN _ _)) | (refine bel_trans ?_ (by assumption)) | (with_reducible apply bel_alloc) | (with_reducible apply Below.drew) | apply bel_alloc | apply Below.drew | refine bel_set ?_ (by simp; try omega) _)⟩
set_option maxRecDepth 100000 in
set_option maxHeartbeats 4000000 in
theorem q_s9 (o p : Ot) (ho : Fits o.n) (hp : Fits p.n) (a : Option Addr) (c : Nat) (w : World) (h : Outs w a 2 [o, p]) : Ret 20 #[.int .u8 9, .slice a 2 c] w (enc (numO 9 o.n p.n)) := by
  have hA : ∀ W, Outs W a 2 [o, p] → Ret 34 #[.int .u8 9, .slice a 2 c] W (enc (numO 9 o.n p.n)) := fun W h => r_num9 o p ho hp a c W h
  generalize numO 9 o.n p.n = z at hA ⊢
  have HL := Lib.hid h
  clear h ho hp
  go_enter Tryz.func20, Tryz.ntmps20
  go_wp2_with fail
  refine (hA _ (HL.out.below (bel_alloc (Below.refl _ _) _))).mono ?_; rintro e w1 ⟨rfl, hbw1⟩; obtain ⟨hcw1, hfw1⟩ := bcell hbw1; have hzw1 := hbw1.size; (try simp at hzw1); have hk0w1 : w.heap.size < w1.heap.size := (by omega)
  go_wp2
  exact bodyPost_ret (v := ov z.k z.n z.s z.e) (by simp [results, Tryz.results20, go_sem, *]) rfl ⟨rfl, by repeat (first | exact Below.refl _ _ | assumption | exact Go.Proofs.YtdipalinddfekaaGreatDoor.V.below_drewN _ _ | (refine bel_trans ?_ (Go.Proofs.YtdipalinddfekaaGreatDoor.V.below_drewN _ _)) | (refine bel_trans ?_ (by assumption)) | (with_reducible apply bel_alloc) | (with_reducible apply Below.drew) | apply bel_alloc | apply Below.drew | refine bel_set ?_ (by simp; try omega) _)⟩
set_option maxRecDepth 100000 in
set_option maxHeartbeats 4000000 in
theorem q_s11 (o : Ot) (a : Option Addr) (c : Nat) (w : World) (h : Outs w a 1 [o]) : Ret 20 #[.int .u8 11, .slice a 1 c] w (ov 1 (o.s.size : Int) ⟨#[]⟩ 0) := by
  obtain ⟨g, q, x0, rfl, e0, hg, c0, c1, c2, c3⟩ := h.at_ 0 (by omega)
  obtain rfl : o = x0 := Option.some.inj e0
  simp only [Nat.zero_mul, Nat.add_zero] at c0 c1 c2 c3
  clear e0 h
  go_enter Tryz.func20, Tryz.ntmps20
  go_wp2_with fail
  refine (r_Int (o.s.size : Int) _).mono ?_; rintro e w1 ⟨rfl, hbw1⟩; obtain ⟨hcw1, hfw1⟩ := bcell hbw1; have hzw1 := hbw1.size; (try simp at hzw1); have hk0w1 : w.heap.size < w1.heap.size := (by omega)
  go_wp2
  exact bodyPost_ret (v := ov 1 (o.s.size : Int) ⟨#[]⟩ 0) (by simp [results, Tryz.results20, go_sem, *]) rfl ⟨rfl, by repeat (first | exact Below.refl _ _ | assumption | exact Go.Proofs.YtdipalinddfekaaGreatDoor.V.below_drewN _ _ | (refine bel_trans ?_ (Go.Proofs.YtdipalinddfekaaGreatDoor.V.below_drewN _ _)) | (refine bel_trans ?_ (by assumption)) | (with_reducible apply bel_alloc) | (with_reducible apply Below.drew) | apply bel_alloc | apply Below.drew | refine bel_set ?_ (by simp; try omega) _)⟩
set_option maxRecDepth 100000 in
set_option maxHeartbeats 4000000 in
theorem q_s22 (o : Ot) (a : Option Addr) (c : Nat) (w : World) (h : Outs w a 1 [o]) : Ret 20 #[.int .u8 22, .slice a 1 c] w (enc (bo (!isT o))) := by
  obtain ⟨g, q, x0, rfl, e0, hg, c0, c1, c2, c3⟩ := h.at_ 0 (by omega)
  obtain rfl : o = x0 := Option.some.inj e0
  simp only [Nat.zero_mul, Nat.add_zero] at c0 c1 c2 c3
  clear e0 h
  have hT := fun W => r_isTrue o W
  cases ht : isT o with
  | true =>
    rw [ht] at hT
    clear ht
    go_enter Tryz.func20, Tryz.ntmps20
    go_wp2_with fail
    refine (hT _).mono ?_; rintro e w1 ⟨rfl, hbw1⟩; obtain ⟨hcw1, hfw1⟩ := bcell hbw1; have hzw1 := hbw1.size; (try simp at hzw1); have hk0w1 : w.heap.size < w1.heap.size := (by omega)
    go_wp2_with fail
    refine (r_Bool5 false _).mono ?_; rintro e w2 ⟨rfl, hbw2⟩; obtain ⟨hcw2, hfw2⟩ := bcell hbw2; have hzw2 := hbw2.size; (try simp at hzw2); have hk0w2 : w.heap.size < w2.heap.size := (by omega)
    go_wp2
    exact bodyPost_ret (v := ov 3 0 ⟨#[]⟩ 0) (by simp [results, Tryz.results20, go_sem, *]) rfl ⟨rfl, by repeat (first | exact Below.refl _ _ | assumption | exact Go.Proofs.YtdipalinddfekaaGreatDoor.V.below_drewN _ _ | (refine bel_trans ?_ (Go.Proofs.YtdipalinddfekaaGreatDoor.V.below_drewN _ _)) | (refine bel_trans ?_ (by assumption)) | (with_reducible apply bel_alloc) | (with_reducible apply Below.drew) | apply bel_alloc | apply Below.drew | refine bel_set ?_ (by simp; try omega) _)⟩
  | false =>
    rw [ht] at hT
    clear ht
    go_enter Tryz.func20, Tryz.ntmps20
    go_wp2_with fail
    refine (hT _).mono ?_; rintro e w1 ⟨rfl, hbw1⟩; obtain ⟨hcw1, hfw1⟩ := bcell hbw1; have hzw1 := hbw1.size; (try simp at hzw1); have hk0w1 : w.heap.size < w1.heap.size := (by omega)
    go_wp2_with fail
    refine (r_Bool5 true _).mono ?_; rintro e w2 ⟨rfl, hbw2⟩; obtain ⟨hcw2, hfw2⟩ := bcell hbw2; have hzw2 := hbw2.size; (try simp at hzw2); have hk0w2 : w.heap.size < w2.heap.size := (by omega)
    go_wp2
    exact bodyPost_ret (v := ov 3 1 ⟨#[]⟩ 0) (by simp [results, Tryz.results20, go_sem, *]) rfl ⟨rfl, by repeat (first | exact Below.refl _ _ | assumption | exact Go.Proofs.YtdipalinddfekaaGreatDoor.V.below_drewN _ _ | (refine bel_trans ?_ (Go.Proofs.YtdipalinddfekaaGreatDoor.V.below_drewN _ _)) | (refine bel_trans ?_ (by assumption)) | (with_reducible apply bel_alloc) | (with_reducible apply Below.drew) | apply bel_alloc | apply Below.drew | refine bel_set ?_ (by simp; try omega) _)⟩
end Go.Proofs.YtdipalinddfekaaGreatDoor.U
