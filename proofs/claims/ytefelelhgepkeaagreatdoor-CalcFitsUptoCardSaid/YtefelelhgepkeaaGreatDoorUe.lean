/- Null-strict nodes: IS TRUE. -/
import Derived.Test.YtefelelhgepkeaaGreatDoorUd
namespace Go.Proofs.YtefelelhgepkeaaGreatDoor.U
open Go.ChangeShapes Go.WideShapes Go.ChangeAt Go.RowKit Go.Proofs.YtefelelhgepkeaaGreatDoor.V Go.Proofs.YtefelelhgepkeaaGreatDoor.K Go.Proofs.YtefelelhgepkeaaGreatDoor.T
set_option maxRecDepth 100000 in
set_option maxHeartbeats 4000000 in
theorem c_strict21 (u1 u2 : Int) (u3 : ByteArray) (hv : vd u1 u2 u3 = true) (a : Option Addr) (c : Nat) (w : World) (h : Outs w a 1 [ofV (u1, u2, u3)]) : Ret 55 #[.int .u8 21, .slice a 1 c] w (enc (bo (isT (ofV (u1, u2, u3))))) := by
  have HL := Lib.hid h
  have hE : errs 0 [ofV (u1, u2, u3)] = 0 := by simp [errs, ofV, lst]
  have hLe : ∀ W, Outs W a 1 [ofV (u1, u2, u3)] → Ret 62 #[.slice a 1 c] W (.int .i64 0) := fun W h => by have := c_least a 1 c _ (by omega) W h; rwa [hE] at this
  clear h hE
  go_enter Tryz.func55, Tryz.ntmps55
  go_upto_region 4 with (go_at_call 62; refine (hLe _ (HL.out.below (bel_alloc (Below.refl _ _) _))).mono ?_; rintro e w1 ⟨rfl, hb1⟩)
  have B1 : Hid (Below w.heap.size w w1) := bel_trans (bel_alloc (Below.refl _ _) _) hb1
  have X1 : Hid (Box w1 w.heap.size nul) := (Box.new w nul).below hb1
  clear hb1
  go_cut [6, 7] from 8 (fun s6 s7 wc => ∃ b6 b7, Hid (w.heap.size < b6) ∧ s6 = .pointer (some ⟨b6, 0, none⟩) ∧ s7 = .pointer (some ⟨b7, 0, none⟩) ∧
    Hid (b6 < wc.heap.size ∧ wc.cell? ⟨b6, 0, none⟩ = some (.int .u8 u1) ∧ wc.cell? ⟨b6, 1, none⟩ = some (.int .i64 u2) ∧ wc.cell? ⟨b6, 2, none⟩ = some (.string u3)) ∧
    Hid (b7 < wc.heap.size ∧ wc.cell? ⟨b7, 0, none⟩ = some (.int .u8 u1) ∧ wc.cell? ⟨b7, 1, none⟩ = some (.int .i64 u2) ∧ wc.cell? ⟨b7, 2, none⟩ = some (.string u3)) ∧ Hid (Below w1.heap.size w1 wc))
  case first =>
    obtain ⟨g, p, o, rfl, e1, hg, c0, c1, c2, c3⟩ := (HL.out.below B1.out).at_ 0 (by omega)
    obtain rfl : ofV (u1, u2, u3) = o := Option.some.inj e1
    simp only [ofV, Nat.zero_mul, Nat.add_zero] at c0 c1 c2
    clear e1 c3
    have hw : IntKind.i64.wrap (1 - 1) = 1 - 1 := by decide
    have hw1 : IntKind.i64.wrap 0 = 0 := by decide
    go_region_held3 (fun w' => w'.cell? ⟨g, p, none⟩ = some (.int .u8 u1) ∧ w'.cell? ⟨g, p + 1, none⟩ = some (.int .i64 u2) ∧ w'.cell? ⟨g, p + 2, none⟩ = some (.string u3)) (simp [*, go_sem, World.cell?_alloc_past]) (fail)
    all_goals
      go_wp2
      go_meet
      refine ⟨_, _, ?_, rfl, rfl, ?_, ?_, ?_⟩
      · show _ < _; have := X1.out.lt; simp <;> omega
      · exact ⟨by simp <;> omega, by simp [*, go_sem, World.cell?_alloc_past], by simp [*, go_sem, World.cell?_alloc_past], by simp [*, go_sem, World.cell?_alloc_past]⟩
      · exact ⟨by simp <;> omega, by simp [*, go_sem, World.cell?_alloc_past], by simp [*, go_sem, World.cell?_alloc_past], by simp [*, go_sem, World.cell?_alloc_past]⟩
      · show Below _ _ _
        repeat (first | exact Below.refl _ _ | (refine bel_trans ?_ (by assumption)) | (with_reducible apply bel_alloc) | (with_reducible apply Below.drew) | apply bel_alloc | apply Below.drew | refine bel_set ?_ (by simp; try omega) _)
  case rest =>
    obtain ⟨b6, b7, HLT, rfl, rfl, U, V, B⟩ := hcut
    have B2 : Hid (Below w.heap.size w wc) := bel_trans B1.out B.out
    have X2 : Hid (Box wc w.heap.size nul) := X1.out.below B.out
    obtain ⟨ul, c0, c1, c2⟩ := U.out
    clear B1 X1 B hLe HL U V
    have KP : Hid (∀ W', Below wc.heap.size wc W' → W'.cell? ⟨b6, 0, none⟩ = some (.int .u8 u1) ∧ W'.cell? ⟨b6, 1, none⟩ = some (.int .i64 u2) ∧ W'.cell? ⟨b6, 2, none⟩ = some (.string u3)) := fun W' hb => ⟨(hb.cell (p := ⟨b6, 0, none⟩) ul).trans c0, (hb.cell (p := ⟨b6, 1, none⟩) ul).trans c1, (hb.cell (p := ⟨b6, 2, none⟩) ul).trans c2⟩
    have n1 : ¬ b6 = w.heap.size := by have := HLT.out; omega
    have n2 : ¬ w.heap.size = b6 := by omega
    clear c0 c1 c2 ul HLT
    by_cases hq : u1 = 3 ∧ u2 = 1
    · obtain ⟨rfl, rfl⟩ := hq
      have e3 : u3 = ⟨#[]⟩ := by
        unfold vd at hv
        simp at hv
        exact ba_nil hv
      subst e3
      have hR : Hid (isT (ofV (3, 1, ⟨#[]⟩)) = true) := by show _ = _; rfl
      clear hv
      go_upto_region 11 with fail
      go_region_held3 (fun W' => W'.cell? ⟨b6, 0, none⟩ = some (.int .u8 3) ∧ W'.cell? ⟨b6, 1, none⟩ = some (.int .i64 1) ∧ W'.cell? ⟨b6, 2, none⟩ = some (.string ⟨#[]⟩)) (first | (simp [*, go_sem]; done) | exact KP.out _ (by repeat (first | exact Below.refl _ _ | assumption | exact Go.Proofs.YtefelelhgepkeaaGreatDoor.V.below_drewN _ _ | (refine bel_trans ?_ (Go.Proofs.YtefelelhgepkeaaGreatDoor.V.below_drewN _ _)) | (refine bel_trans ?_ (by assumption)) | (with_reducible apply bel_alloc) | (with_reducible apply Below.drew) | apply bel_alloc | apply Below.drew | refine bel_set ?_ (by simp; try omega) _)))
        (first | (go_at_call 89; refine (c_Bool_t _).mono ?_; rintro e w3 ⟨rfl, hb3⟩) | (go_at_call 59; refine (c_truth true _).mono ?_; rintro e w4 ⟨rfl, hb4⟩; have B5 : Below wc.heap.size wc w4 := (by repeat (first | exact Below.refl _ _ | assumption | exact Go.Proofs.YtefelelhgepkeaaGreatDoor.V.below_drewN _ _ | (refine bel_trans ?_ (Go.Proofs.YtefelelhgepkeaaGreatDoor.V.below_drewN _ _)) | (refine bel_trans ?_ (by assumption)) | (with_reducible apply bel_alloc) | (with_reducible apply Below.drew) | apply bel_alloc | apply Below.drew | refine bel_set ?_ (by simp; try omega) _)); obtain ⟨t0, t1, t2⟩ := KP.out w4 B5; obtain ⟨hx, z0, z1, z2, z3, e0, e1, e2, e3⟩ := X2.out.below B5))
      have B4 : Hid (Below w.heap.size w w4) := bel_trans B2.out B5
      go_wp2
      exact bodyPost_ret (v := ov 3 1 ⟨#[]⟩ 0) (by simp [results, Tryz.results55, go_sem, *]) rfl ⟨ret_v (by rw [hR.out]; rfl), put4_below (o := bo true) B4.out (Nat.le_refl _)⟩
    · have hR : Hid (isT (ofV (u1, u2, u3)) = false) := by
        show _ = _
        simp only [isT, ofV]
        by_cases h1 : u1 = 3
        · have h2 : ¬ u2 = 1 := fun h2 => hq ⟨h1, h2⟩
          simp [h1, h2]
        · simp [h1]
      clear hv
      by_cases h1 : u1 = 3
      · have h2 : ¬ u2 = 1 := fun h2 => hq ⟨h1, h2⟩
        clear hq
        go_upto_region 11 with fail
        go_region_held3 (fun W' => W'.cell? ⟨b6, 0, none⟩ = some (.int .u8 u1) ∧ W'.cell? ⟨b6, 1, none⟩ = some (.int .i64 u2) ∧ W'.cell? ⟨b6, 2, none⟩ = some (.string u3)) (first | (simp [*, go_sem]; done) | exact KP.out _ (by repeat (first | exact Below.refl _ _ | assumption | exact Go.Proofs.YtefelelhgepkeaaGreatDoor.V.below_drewN _ _ | (refine bel_trans ?_ (Go.Proofs.YtefelelhgepkeaaGreatDoor.V.below_drewN _ _)) | (refine bel_trans ?_ (by assumption)) | (with_reducible apply bel_alloc) | (with_reducible apply Below.drew) | apply bel_alloc | apply Below.drew | refine bel_set ?_ (by simp; try omega) _)))
          (first | (go_at_call 89; refine (c_Bool_t _).mono ?_; rintro e w3 ⟨rfl, hb3⟩) | (go_at_call 59; refine (c_truth false _).mono ?_; rintro e w4 ⟨rfl, hb4⟩; have B5 : Below wc.heap.size wc w4 := (by repeat (first | exact Below.refl _ _ | assumption | exact Go.Proofs.YtefelelhgepkeaaGreatDoor.V.below_drewN _ _ | (refine bel_trans ?_ (Go.Proofs.YtefelelhgepkeaaGreatDoor.V.below_drewN _ _)) | (refine bel_trans ?_ (by assumption)) | (with_reducible apply bel_alloc) | (with_reducible apply Below.drew) | apply bel_alloc | apply Below.drew | refine bel_set ?_ (by simp; try omega) _)); obtain ⟨t0, t1, t2⟩ := KP.out w4 B5; obtain ⟨hx, z0, z1, z2, z3, e0, e1, e2, e3⟩ := X2.out.below B5))
        have B4 : Hid (Below w.heap.size w w4) := bel_trans B2.out B5
        go_wp2
        exact bodyPost_ret (v := ov 3 0 ⟨#[]⟩ 0) (by simp [results, Tryz.results55, go_sem, *]) rfl ⟨ret_v (by rw [hR.out]; rfl), put4_below (o := bo false) B4.out (Nat.le_refl _)⟩
      · clear hq
        go_upto_region 11 with fail
        go_region_held3 (fun W' => W'.cell? ⟨b6, 0, none⟩ = some (.int .u8 u1) ∧ W'.cell? ⟨b6, 1, none⟩ = some (.int .i64 u2) ∧ W'.cell? ⟨b6, 2, none⟩ = some (.string u3)) (first | (simp [*, go_sem]; done) | exact KP.out _ (by repeat (first | exact Below.refl _ _ | assumption | exact Go.Proofs.YtefelelhgepkeaaGreatDoor.V.below_drewN _ _ | (refine bel_trans ?_ (Go.Proofs.YtefelelhgepkeaaGreatDoor.V.below_drewN _ _)) | (refine bel_trans ?_ (by assumption)) | (with_reducible apply bel_alloc) | (with_reducible apply Below.drew) | apply bel_alloc | apply Below.drew | refine bel_set ?_ (by simp; try omega) _)))
          (first | (go_at_call 89; refine (c_Bool_t _).mono ?_; rintro e w3 ⟨rfl, hb3⟩) | (go_at_call 59; refine (c_truth false _).mono ?_; rintro e w4 ⟨rfl, hb4⟩; have B5 : Below wc.heap.size wc w4 := (by repeat (first | exact Below.refl _ _ | assumption | exact Go.Proofs.YtefelelhgepkeaaGreatDoor.V.below_drewN _ _ | (refine bel_trans ?_ (Go.Proofs.YtefelelhgepkeaaGreatDoor.V.below_drewN _ _)) | (refine bel_trans ?_ (by assumption)) | (with_reducible apply bel_alloc) | (with_reducible apply Below.drew) | apply bel_alloc | apply Below.drew | refine bel_set ?_ (by simp; try omega) _)); obtain ⟨t0, t1, t2⟩ := KP.out w4 B5; obtain ⟨hx, z0, z1, z2, z3, e0, e1, e2, e3⟩ := X2.out.below B5))
        have B4 : Hid (Below w.heap.size w w4) := bel_trans B2.out B5
        go_wp2
        exact bodyPost_ret (v := ov 3 0 ⟨#[]⟩ 0) (by simp [results, Tryz.results55, go_sem, *]) rfl ⟨ret_v (by rw [hR.out]; rfl), put4_below (o := bo false) B4.out (Nat.le_refl _)⟩
end Go.Proofs.YtefelelhgepkeaaGreatDoor.U
