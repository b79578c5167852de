/- Null-strict nodes: failures, IS NULL and IS TRUE. -/
import Derived.Test.YtefelelhgepkeaaGreatDoorUc
import Derived.Test.YtefelelhgepkeaaGreatDoorTp
namespace Go.Proofs.YtefelelhgepkeaaGreatDoor.U
open Go.ChangeShapes Go.WideShapes Go.ChangeAt Go.RowKit Go.Proofs.YtefelelhgepkeaaGreatDoor.V Go.Proofs.YtefelelhgepkeaaGreatDoor.K Go.Proofs.YtefelelhgepkeaaGreatDoor.T
set_option maxRecDepth 100000 in
set_option maxHeartbeats 4000000 in
theorem c_strict_err (op : Int) (a : Option Addr) (n c : Nat) (l : List Ot) (hn : n ≤ 9223372036854775000) (he : errs 0 l ≠ 0) (w : World) (h : Outs w a n l) : Ret 55 #[.int .u8 op, .slice a n c] w (enc (fl (errs 0 l))) := by
  have HL := Lib.hid h
  have hLe : ∀ W, Outs W a n l → Ret 62 #[.slice a n c] W (.int .i64 (errs 0 l)) := fun W h => c_least a n c l (by omega) W h
  generalize errs 0 l = q at he hLe ⊢
  have he2 : (q != 0) = true := by simpa using he
  clear h he
  go_enter Tryz.func55, Tryz.ntmps55
  go_upto_region 3 with (go_at_call 62; refine (hLe _ (HL.out.below (bel_alloc (Below.refl _ _) _))).mono ?_; rintro e w1 ⟨rfl, hb1⟩)
  have B1 : Hid (Below w.heap.size w w1) := bel_trans (bel_alloc (Below.refl _ _) _) hb1
  have X1 : Hid (Box w1 w.heap.size nul) := (Box.new w nul).below hb1
  clear hb1 hLe
  go_wp2_with (go_at_call 50; refine (c_failing q _).mono ?_; rintro e w4 ⟨rfl, hb4⟩; obtain ⟨hx, d0, d1, d2, d3, e0, e1, e2, e3⟩ := X1.out.below hb4)
  exact bodyPost_ret (v := ov 0 0 ⟨#[]⟩ q) (by simp [results, Tryz.results55, go_sem, *]) rfl ⟨rfl, put4_below (o := fl q) (bel_trans B1.out hb4) (Nat.le_refl _)⟩
set_option maxRecDepth 100000 in
set_option maxHeartbeats 4000000 in
theorem c_strict20 (u1 u2 : Int) (u3 : ByteArray) (hv : vd u1 u2 u3 = true) (a : Option Addr) (c : Nat) (w : World) (h : Outs w a 1 [ofV (u1, u2, u3)]) : Ret 55 #[.int .u8 20, .slice a 1 c] w (enc (bo (isN (ofV (u1, u2, u3))))) := by
  have HL := Lib.hid h
  have hE : errs 0 [ofV (u1, u2, u3)] = 0 := by simp [errs, ofV, lst]
  have hLe : ∀ W, Outs W a 1 [ofV (u1, u2, u3)] → Ret 62 #[.slice a 1 c] W (.int .i64 0) := fun W h => by have := c_least a 1 c _ (by omega) W h; rwa [hE] at this
  clear h hE
  go_enter Tryz.func55, Tryz.ntmps55
  go_upto_region 4 with (go_at_call 62; refine (hLe _ (HL.out.below (bel_alloc (Below.refl _ _) _))).mono ?_; rintro e w1 ⟨rfl, hb1⟩)
  have B1 : Hid (Below w.heap.size w w1) := bel_trans (bel_alloc (Below.refl _ _) _) hb1
  have X1 : Hid (Box w1 w.heap.size nul) := (Box.new w nul).below hb1
  clear hb1
  go_cut [6, 7] from 8 (fun s6 s7 wc => ∃ b6 b7, s6 = .pointer (some ⟨b6, 0, none⟩) ∧ s7 = .pointer (some ⟨b7, 0, none⟩) ∧
    Hid (b6 < wc.heap.size ∧ wc.cell? ⟨b6, 0, none⟩ = some (.int .u8 u1) ∧ wc.cell? ⟨b6, 1, none⟩ = some (.int .i64 u2) ∧ wc.cell? ⟨b6, 2, none⟩ = some (.string u3)) ∧
    Hid (b7 < wc.heap.size ∧ wc.cell? ⟨b7, 0, none⟩ = some (.int .u8 u1) ∧ wc.cell? ⟨b7, 1, none⟩ = some (.int .i64 u2) ∧ wc.cell? ⟨b7, 2, none⟩ = some (.string u3)) ∧ Hid (Below w1.heap.size w1 wc))
  case first =>
    obtain ⟨g, p, o, rfl, e1, hg, c0, c1, c2, c3⟩ := (HL.out.below B1.out).at_ 0 (by omega)
    obtain rfl : ofV (u1, u2, u3) = o := Option.some.inj e1
    simp only [ofV, Nat.zero_mul, Nat.add_zero] at c0 c1 c2
    clear e1 c3
    have hw : IntKind.i64.wrap (1 - 1) = 1 - 1 := by decide
    have hw1 : IntKind.i64.wrap 0 = 0 := by decide
    go_region_held3 (fun w' => w'.cell? ⟨g, p, none⟩ = some (.int .u8 u1) ∧ w'.cell? ⟨g, p + 1, none⟩ = some (.int .i64 u2) ∧ w'.cell? ⟨g, p + 2, none⟩ = some (.string u3)) (simp [*, go_sem, World.cell?_alloc_past]) (fail)
    all_goals
      go_wp2
      go_meet
      refine ⟨_, _, rfl, rfl, ?_, ?_, ?_⟩
      · exact ⟨by simp <;> omega, by simp [*, go_sem, World.cell?_alloc_past], by simp [*, go_sem, World.cell?_alloc_past], by simp [*, go_sem, World.cell?_alloc_past]⟩
      · exact ⟨by simp <;> omega, by simp [*, go_sem, World.cell?_alloc_past], by simp [*, go_sem, World.cell?_alloc_past], by simp [*, go_sem, World.cell?_alloc_past]⟩
      · show Below _ _ _
        repeat (first | exact Below.refl _ _ | (refine bel_trans ?_ (by assumption)) | (with_reducible apply bel_alloc) | (with_reducible apply Below.drew) | apply bel_alloc | apply Below.drew | refine bel_set ?_ (by simp; try omega) _)
  case rest =>
    obtain ⟨b6, b7, rfl, rfl, U, V, B⟩ := hcut
    have B2 : Hid (Below w.heap.size w wc) := bel_trans B1.out B.out
    have X2 : Hid (Box wc w.heap.size nul) := X1.out.below B.out
    obtain ⟨ul, c0, c1, c2⟩ := U.out
    clear B1 X1 B hLe HL U V
    by_cases hq : u1 = 0
    · have hn := ok_null (o := ofV (u1, u2, u3)) (by unfold Ot.ok; exact hv) (by simp [isN, ofV, hq])
      have e1 : u1 = 0 := hq
      have e2 : u2 = 0 := congrArg Ot.n hn
      have e3 : u3 = ⟨#[]⟩ := congrArg Ot.s hn
      subst e1; subst e2; subst e3
      have hR : Hid (isN (ofV (0, 0, ⟨#[]⟩)) = true) := by show _ = _; rfl
      clear hn hv hq
      go_wp2_with (go_at_call 59; refine (c_truth true _).mono ?_; rintro e w4 ⟨rfl, hb4⟩; obtain ⟨hx, z0, z1, z2, z3, e0, e1, e2, e3⟩ := X2.out.below hb4)
      have B4 : Hid (Below w.heap.size w w4) := bel_trans B2.out hb4
      exact bodyPost_ret (v := ov 3 1 ⟨#[]⟩ 0) (by simp [results, Tryz.results55, go_sem, *]) rfl ⟨ret_v (by rw [hR.out]; rfl), put4_below (o := bo true) B4.out (Nat.le_refl _)⟩
    · have hR : Hid (isN (ofV (u1, u2, u3)) = false) := by show _ = _; simp [isN, ofV, hq]
      clear hv
      go_wp2_with (go_at_call 59; refine (c_truth false _).mono ?_; rintro e w4 ⟨rfl, hb4⟩; obtain ⟨hx, z0, z1, z2, z3, e0, e1, e2, e3⟩ := X2.out.below hb4)
      have B4 : Hid (Below w.heap.size w w4) := bel_trans B2.out hb4
      exact bodyPost_ret (v := ov 3 0 ⟨#[]⟩ 0) (by simp [results, Tryz.results55, go_sem, *]) rfl ⟨ret_v (by rw [hR.out]; rfl), put4_below (o := bo false) B4.out (Nat.le_refl _)⟩
end Go.Proofs.YtefelelhgepkeaaGreatDoor.U
