/- Null-strict nodes of two kids. -/
import Derived.Test.YtefelelhgepkeaaGreatDoorTa
import Derived.Test.YtefelelhgepkeaaGreatDoorTc
import Derived.Deep.Cut
namespace Go.Proofs.YtefelelhgepkeaaGreatDoor.T
open Go.ChangeShapes Go.WideShapes Go.ChangeAt Go.RowKit Go.Proofs.YtefelelhgepkeaaGreatDoor.V Go.Proofs.YtefelelhgepkeaaGreatDoor.K
set_option maxRecDepth 100000 in
set_option maxHeartbeats 4000000 in
theorem c_strict2 (op : Int) (h18 : (op == 18) = false) (h20 : (op == 20) = false) (h21 : (op == 21) = false) (u v : Vl) (nu : ¬ u.1 = 0) (nv : ¬ v.1 = 0) (z : Ot) (hN : ∀ w, Ret 91 #[.int .u8 op, val u.1 u.2.1 u.2.2, val v.1 v.2.1 v.2.2] w (ov z.k z.n z.s z.e))
    (a : Option Addr) (c : Nat) (w : World) (h : Outs w a 2 [ofV u, ofV v]) : Ret 55 #[.int .u8 op, .slice a 2 c] w (ov z.k z.n z.s z.e) := by
  have HL := Lib.hid h
  have hE : errs 0 [ofV u, ofV v] = 0 := by simp [errs, ofV, lst]
  have hC : [ofV u, ofV v].any isNul = false := by simp [isNul, ofV, nu, nv]
  have hLe : ∀ W, Outs W a 2 [ofV u, ofV v] → Ret 62 #[.slice a 2 c] W (.int .i64 0) := fun W h => by have := c_least a 2 c _ (by omega) W h; rwa [hE] at this
  have hCo : ∀ W, Outs W a 2 [ofV u, ofV v] → Ret 90 #[.slice a 2 c, ov 0 0 ⟨#[]⟩ 0] W (.bool false) := fun W h => by have := l_ContainsN a 2 c _ (by omega) W h; rwa [hC] at this
  clear h hE hC
  go_enter Tryz.func55, Tryz.ntmps55
  go_upto_region 4 with (go_at_call 62; refine (hLe _ (HL.out.below (bel_alloc (Below.refl _ _) _))).mono ?_; rintro e w1 ⟨rfl, hb1⟩)
  have B1 : Hid (Below w.heap.size w w1) := bel_trans (bel_alloc (Below.refl _ _) _) hb1
  have X1 : Hid (Box w1 w.heap.size nul) := (Box.new w nul).below hb1
  clear hb1
  go_cut [6, 7] from 8 (fun s6 s7 wc => ∃ b6 b7, s6 = .pointer (some ⟨b6, 0, none⟩) ∧ s7 = .pointer (some ⟨b7, 0, none⟩) ∧
    Hid (b6 < wc.heap.size ∧ wc.cell? ⟨b6, 0, none⟩ = some (.int .u8 u.1) ∧ wc.cell? ⟨b6, 1, none⟩ = some (.int .i64 u.2.1) ∧ wc.cell? ⟨b6, 2, none⟩ = some (.string u.2.2)) ∧
    Hid (b7 < wc.heap.size ∧ wc.cell? ⟨b7, 0, none⟩ = some (.int .u8 v.1) ∧ wc.cell? ⟨b7, 1, none⟩ = some (.int .i64 v.2.1) ∧ wc.cell? ⟨b7, 2, none⟩ = some (.string v.2.2)) ∧ Hid (Below w1.heap.size w1 wc))
  case first =>
    obtain ⟨g, p, o, rfl, e1, hg, c0, c1, c2, c3⟩ := (HL.out.below B1.out).at_ 0 (by omega)
    obtain ⟨g', p', o', e2, e3, -, d0, d1, d2, d3⟩ := (HL.out.below B1.out).at_ 1 (by omega)
    injection e2 with e2
    injection e2 with e4 e5
    subst e4; subst e5
    obtain rfl : ofV u = o := Option.some.inj e1
    obtain rfl : ofV v = o' := Option.some.inj e3
    simp only [ofV, Nat.zero_mul, Nat.one_mul, Nat.add_zero] at c0 c1 c2 d0 d1 d2
    clear e1 e3 c3 d3
    obtain ⟨u1, u2, u3⟩ := u
    obtain ⟨v1, v2, v3⟩ := v
    simp only at c0 c1 c2 d0 d1 d2
    have hw : IntKind.i64.wrap (2 - 1) = 2 - 1 := by decide
    have hw1 : IntKind.i64.wrap 1 = 1 := by decide
    go_region_held3 (fun w' => w'.cell? ⟨g, p, none⟩ = some (.int .u8 u1) ∧ w'.cell? ⟨g, p + 1, none⟩ = some (.int .i64 u2) ∧ w'.cell? ⟨g, p + 2, none⟩ = some (.string u3) ∧ w'.cell? ⟨g, p + 4, none⟩ = some (.int .u8 v1) ∧ w'.cell? ⟨g, p + 4 + 1, none⟩ = some (.int .i64 v2) ∧ w'.cell? ⟨g, p + 4 + 2, none⟩ = some (.string v3)) (simp [*, go_sem, World.cell?_alloc_past]) (fail)
    all_goals
      go_wp2
      go_meet
      refine ⟨_, _, rfl, rfl, ?_, ?_, ?_⟩
      · exact ⟨by simp <;> omega, by simp [*, go_sem, World.cell?_alloc_past], by simp [*, go_sem, World.cell?_alloc_past], by simp [*, go_sem, World.cell?_alloc_past]⟩
      · exact ⟨by simp <;> omega, by simp [*, go_sem, World.cell?_alloc_past], by simp [*, go_sem, World.cell?_alloc_past], by simp [*, go_sem, World.cell?_alloc_past]⟩
      · show Below _ _ _
        repeat (first | exact Below.refl _ _ | (refine bel_trans ?_ (by assumption)) | (with_reducible apply bel_alloc) | (with_reducible apply Below.drew) | apply bel_alloc | apply Below.drew | refine bel_set ?_ (by simp; try omega) _)
  case rest =>
    obtain ⟨b6, b7, rfl, rfl, U, V, B⟩ := hcut
    have B2 : Hid (Below w.heap.size w wc) := bel_trans B1.out B.out
    have X2 : Hid (Box wc w.heap.size nul) := X1.out.below B.out
    clear B1 X1 B hLe
    go_wp2_with fail
    refine (c_null _).mono ?_
    rintro e w2 ⟨rfl, hb2⟩
    go_wp2_with fail
    refine (hCo _ (HL.out.below (bel_trans B2.out hb2))).mono ?_
    rintro e w3 ⟨rfl, hb3⟩
    have hs : Below wc.heap.size wc w3 := bel_trans hb2 hb3
    have B3 : Hid (Below w.heap.size w w3) := bel_trans B2.out hs
    have X3 : Hid (Box w3 w.heap.size nul) := X2.out.below hs
    obtain ⟨u0, u1, u2, u3⟩ := U.out
    obtain ⟨v0, v1, v2, v3⟩ := V.out
    replace u1 := (hs.cell (p := ⟨b6, 0, none⟩) u0).trans u1
    replace u2 := (hs.cell (p := ⟨b6, 1, none⟩) u0).trans u2
    replace u3 := (hs.cell (p := ⟨b6, 2, none⟩) u0).trans u3
    replace v1 := (hs.cell (p := ⟨b7, 0, none⟩) v0).trans v1
    replace v2 := (hs.cell (p := ⟨b7, 1, none⟩) v0).trans v2
    replace v3 := (hs.cell (p := ⟨b7, 2, none⟩) v0).trans v3
    clear hb2 hb3 hs U V B2 X2 hCo
    go_wp2_with fail
    refine (hN _).mono ?_
    rintro e w4 ⟨rfl, hb4⟩
    have B4 : Hid (Below w.heap.size w w4) := bel_trans B3.out hb4
    obtain ⟨hx, d0, d1, d2, d3, e0, e1, e2, e3⟩ := X3.out.below hb4
    clear hb4
    go_wp2
    exact bodyPost_ret (v := ov z.k z.n z.s z.e) (by simp [results, Tryz.results55, go_sem, *]) rfl ⟨rfl, put4_below B4.out (Nat.le_refl _) _⟩
end Go.Proofs.YtefelelhgepkeaaGreatDoor.T
