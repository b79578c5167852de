/- NOT as a node. -/
import Derived.Test.YtdbhencjomnjhaaGreatDoorGaf
import Derived.Test.YtdbhencjomnjhaaGreatDoorGaa
namespace Go.Proofs.YtdbhencjomnjhaaGreatDoor.T
open Go.ChangeShapes Go.WideShapes Go.ChangeAt Go.RowKit Go.Proofs.YtdbhencjomnjhaaGreatDoor.V Go.Proofs.YtdbhencjomnjhaaGreatDoor.K
set_option maxRecDepth 100000 in
set_option maxHeartbeats 2000000 in
theorem ns_22 (n : Int) (hn : n = 0 ∨ n = 1) (w : World) : Ret 43 #[.int .u8 22, val 3 n ⟨#[]⟩, val 3 n ⟨#[]⟩] w (ov 3 (if n = 0 then 1 else 0) ⟨#[]⟩ 0) := by
  have hC : ∀ w, Ret 57 #[val 3 n ⟨#[]⟩, val 3 n ⟨#[]⟩] w (.int .i64 (cmpI n n)) := fun w => c_Compare_3 n ⟨#[]⟩ n ⟨#[]⟩ (Nat.zero_le _) (Nat.zero_le _) w
  generalize cmpI n n = q at hC
  have hT := fun w => c_not_b n hn w
  generalize (if n = 0 then 1 else 0 : Int) = m at hT ⊢
  clear hn
  go_enter Tryz.func43, Tryz.ntmps43
  go_wp2_with fail
  refine (hC _).mono ?_; rintro e w1 ⟨rfl, hbw1⟩; obtain ⟨hcw1, hfw1⟩ := bcell hbw1; have hzw1 := hbw1.size; (try simp at hzw1); have hk0w1 : w.heap.size < w1.heap.size := (by omega); have hk1w1 : w.heap.size + 1 < w1.heap.size := (by omega); have hk2w1 : w.heap.size + 1 + 1 < w1.heap.size := (by omega)
  go_wp2_with fail
  refine (hT _).mono ?_; rintro e w2 ⟨rfl, hbw2⟩; obtain ⟨hcw2, hfw2⟩ := bcell hbw2; have hzw2 := hbw2.size; (try simp at hzw2); have hk0w2 : w.heap.size < w2.heap.size := (by omega); have hk1w2 : w.heap.size + 1 < w2.heap.size := (by omega); have hk2w2 : w.heap.size + 1 + 1 < w2.heap.size := (by omega)
  go_wp2
  exact bodyPost_ret (v := ov 3 m ⟨#[]⟩ 0) (by simp [results, Tryz.results43, go_sem, *]) rfl ⟨rfl, by repeat (first | exact Below.refl _ _ | assumption | exact Go.Proofs.YtdbhencjomnjhaaGreatDoor.V.below_drewN _ _ | (refine bel_trans ?_ (Go.Proofs.YtdbhencjomnjhaaGreatDoor.V.below_drewN _ _)) | (refine bel_trans ?_ (by assumption)) | (with_reducible apply bel_alloc) | (with_reducible apply Below.drew) | apply bel_alloc | apply Below.drew | refine bel_set ?_ (by simp; try omega) _)⟩
set_option maxRecDepth 100000 in
set_option maxHeartbeats 4000000 in
theorem c_strict1 (op : Int) (h18 : (op == 18) = false) (h20 : (op == 20) = false) (h21 : (op == 21) = false) (u : Vl) (nu : ¬ u.1 = 0) (z : Ot) (hN : ∀ w, Ret 43 #[.int .u8 op, val u.1 u.2.1 u.2.2, val u.1 u.2.1 u.2.2] w (ov z.k z.n z.s z.e))
    (a : Option Addr) (c : Nat) (w : World) (h : Outs w a 1 [ofV u]) : Ret 18 #[.int .u8 op, .slice a 1 c] w (ov z.k z.n z.s z.e) := by
  have HL := Lib.hid h
  have hE : errs 0 [ofV u] = 0 := by simp [errs, ofV, lst]
  have hC : [ofV u].any isNul = false := by simp [isNul, ofV, nu]
  have hLe : ∀ W, Outs W a 1 [ofV u] → Ret 40 #[.slice a 1 c] W (.int .i64 0) := fun W h => by have := c_least a 1 c _ (by omega) W h; rwa [hE] at this
  have hCo : ∀ W, Outs W a 1 [ofV u] → Ret 42 #[.slice a 1 c, ov 0 0 ⟨#[]⟩ 0] W (.bool false) := fun W h => by have := l_ContainsN a 1 c _ (by omega) W h; rwa [hC] at this
  clear h hE hC
  go_enter Tryz.func18, Tryz.ntmps18
  go_upto_region 4 with (go_at_call 40; refine (hLe _ (HL.out.below (bel_alloc (Below.refl _ _) _))).mono ?_; rintro e w1 ⟨rfl, hb1⟩)
  have B1 : Hid (Below w.heap.size w w1) := bel_trans (bel_alloc (Below.refl _ _) _) hb1
  have X1 : Hid (Box w1 w.heap.size nul) := (Box.new w nul).below hb1
  clear hb1
  go_cut [6, 7] from 8 (fun s6 s7 wc => ∃ b6 b7, s6 = .pointer (some ⟨b6, 0, none⟩) ∧ s7 = .pointer (some ⟨b7, 0, none⟩) ∧
    Hid (b6 < wc.heap.size ∧ wc.cell? ⟨b6, 0, none⟩ = some (.int .u8 u.1) ∧ wc.cell? ⟨b6, 1, none⟩ = some (.int .i64 u.2.1) ∧ wc.cell? ⟨b6, 2, none⟩ = some (.string u.2.2)) ∧
    Hid (b7 < wc.heap.size ∧ wc.cell? ⟨b7, 0, none⟩ = some (.int .u8 u.1) ∧ wc.cell? ⟨b7, 1, none⟩ = some (.int .i64 u.2.1) ∧ wc.cell? ⟨b7, 2, none⟩ = some (.string u.2.2)) ∧ Hid (Below w1.heap.size w1 wc))
  case first =>
    obtain ⟨g, p, o, rfl, e1, hg, c0, c1, c2, c3⟩ := (HL.out.below B1.out).at_ 0 (by omega)
    obtain rfl : ofV u = o := Option.some.inj e1
    simp only [ofV, Nat.zero_mul, Nat.add_zero] at c0 c1 c2
    clear e1 c3
    obtain ⟨u1, u2, u3⟩ := u
    simp only at c0 c1 c2
    have hw : IntKind.i64.wrap (1 - 1) = 1 - 1 := by decide
    have hw1 : IntKind.i64.wrap 0 = 0 := by decide
    go_region_held3 (fun w' => w'.cell? ⟨g, p, none⟩ = some (.int .u8 u1) ∧ w'.cell? ⟨g, p + 1, none⟩ = some (.int .i64 u2) ∧ w'.cell? ⟨g, p + 2, none⟩ = some (.string u3)) (simp [*, go_sem, World.cell?_alloc_past]) (fail)
    all_goals
      go_wp2
      go_meet
      refine ⟨_, _, rfl, rfl, ?_, ?_, ?_⟩
      · exact ⟨by simp <;> omega, by simp [*, go_sem, World.cell?_alloc_past], by simp [*, go_sem, World.cell?_alloc_past], by simp [*, go_sem, World.cell?_alloc_past]⟩
      · exact ⟨by simp <;> omega, by simp [*, go_sem, World.cell?_alloc_past], by simp [*, go_sem, World.cell?_alloc_past], by simp [*, go_sem, World.cell?_alloc_past]⟩
      · show Below _ _ _
        repeat (first | exact Below.refl _ _ | (refine bel_trans ?_ (by assumption)) | (with_reducible apply bel_alloc) | (with_reducible apply Below.drew) | apply bel_alloc | apply Below.drew | refine bel_set ?_ (by simp; try omega) _)
  case rest =>
    obtain ⟨b6, b7, rfl, rfl, U, V, B⟩ := hcut
    have B2 : Hid (Below w.heap.size w wc) := bel_trans B1.out B.out
    have X2 : Hid (Box wc w.heap.size nul) := X1.out.below B.out
    clear B1 X1 B hLe
    go_wp2_with fail
    refine (c_null _).mono ?_
    rintro e w2 ⟨rfl, hb2⟩
    go_wp2_with fail
    refine (hCo _ (HL.out.below (bel_trans B2.out hb2))).mono ?_
    rintro e w3 ⟨rfl, hb3⟩
    have hs : Below wc.heap.size wc w3 := bel_trans hb2 hb3
    have B3 : Hid (Below w.heap.size w w3) := bel_trans B2.out hs
    have X3 : Hid (Box w3 w.heap.size nul) := X2.out.below hs
    obtain ⟨u0, u1, u2, u3⟩ := U.out
    obtain ⟨v0, v1, v2, v3⟩ := V.out
    replace u1 := (hs.cell (p := ⟨b6, 0, none⟩) u0).trans u1
    replace u2 := (hs.cell (p := ⟨b6, 1, none⟩) u0).trans u2
    replace u3 := (hs.cell (p := ⟨b6, 2, none⟩) u0).trans u3
    replace v1 := (hs.cell (p := ⟨b7, 0, none⟩) v0).trans v1
    replace v2 := (hs.cell (p := ⟨b7, 1, none⟩) v0).trans v2
    replace v3 := (hs.cell (p := ⟨b7, 2, none⟩) v0).trans v3
    clear hb2 hb3 hs U V B2 X2 hCo
    go_wp2_with fail
    refine (hN _).mono ?_
    rintro e w4 ⟨rfl, hb4⟩
    have B4 : Hid (Below w.heap.size w w4) := bel_trans B3.out hb4
    obtain ⟨hx, d0, d1, d2, d3, e0, e1, e2, e3⟩ := X3.out.below hb4
    clear hb4
    go_wp2
    exact bodyPost_ret (v := ov z.k z.n z.s z.e) (by simp [results, Tryz.results18, go_sem, *]) rfl ⟨rfl, put4_below B4.out (Nat.le_refl _) _⟩
set_option maxRecDepth 100000 in
set_option maxHeartbeats 4000000 in
theorem c_strict1n (op : Int) (h18 : (op == 18) = false) (h20 : (op == 20) = false) (h21 : (op == 21) = false) (u : Vl) (hC : [ofV u].any isNul = true)
    (a : Option Addr) (c : Nat) (w : World) (h : Outs w a 1 [ofV u]) : Ret 18 #[.int .u8 op, .slice a 1 c] w (ov 0 0 ⟨#[]⟩ 0) := by
  have HL := Lib.hid h
  have hE : errs 0 [ofV u] = 0 := by simp [errs, ofV, lst]
  have hLe : ∀ W, Outs W a 1 [ofV u] → Ret 40 #[.slice a 1 c] W (.int .i64 0) := fun W h => by have := c_least a 1 c _ (by omega) W h; rwa [hE] at this
  have hCo : ∀ W, Outs W a 1 [ofV u] → Ret 42 #[.slice a 1 c, ov 0 0 ⟨#[]⟩ 0] W (.bool true) := fun W h => by have := l_ContainsN a 1 c _ (by omega) W h; rwa [hC] at this
  clear h hE hC
  go_enter Tryz.func18, Tryz.ntmps18
  go_upto_region 4 with (go_at_call 40; refine (hLe _ (HL.out.below (bel_alloc (Below.refl _ _) _))).mono ?_; rintro e w1 ⟨rfl, hb1⟩)
  have B1 : Hid (Below w.heap.size w w1) := bel_trans (bel_alloc (Below.refl _ _) _) hb1
  have X1 : Hid (Box w1 w.heap.size nul) := (Box.new w nul).below hb1
  clear hb1
  go_cut [6, 7] from 8 (fun s6 s7 wc => ∃ b6 b7, s6 = .pointer (some ⟨b6, 0, none⟩) ∧ s7 = .pointer (some ⟨b7, 0, none⟩) ∧
    Hid (b6 < wc.heap.size ∧ wc.cell? ⟨b6, 0, none⟩ = some (.int .u8 u.1) ∧ wc.cell? ⟨b6, 1, none⟩ = some (.int .i64 u.2.1) ∧ wc.cell? ⟨b6, 2, none⟩ = some (.string u.2.2)) ∧
    Hid (b7 < wc.heap.size ∧ wc.cell? ⟨b7, 0, none⟩ = some (.int .u8 u.1) ∧ wc.cell? ⟨b7, 1, none⟩ = some (.int .i64 u.2.1) ∧ wc.cell? ⟨b7, 2, none⟩ = some (.string u.2.2)) ∧ Hid (Below w1.heap.size w1 wc))
  case first =>
    obtain ⟨g, p, o, rfl, e1, hg, c0, c1, c2, c3⟩ := (HL.out.below B1.out).at_ 0 (by omega)
    obtain rfl : ofV u = o := Option.some.inj e1
    simp only [ofV, Nat.zero_mul, Nat.add_zero] at c0 c1 c2
    clear e1 c3
    obtain ⟨u1, u2, u3⟩ := u
    simp only at c0 c1 c2
    have hw : IntKind.i64.wrap (1 - 1) = 1 - 1 := by decide
    have hw1 : IntKind.i64.wrap 0 = 0 := by decide
    go_region_held3 (fun w' => w'.cell? ⟨g, p, none⟩ = some (.int .u8 u1) ∧ w'.cell? ⟨g, p + 1, none⟩ = some (.int .i64 u2) ∧ w'.cell? ⟨g, p + 2, none⟩ = some (.string u3)) (simp [*, go_sem, World.cell?_alloc_past]) (fail)
    all_goals
      go_wp2
      go_meet
      refine ⟨_, _, rfl, rfl, ?_, ?_, ?_⟩
      · exact ⟨by simp <;> omega, by simp [*, go_sem, World.cell?_alloc_past], by simp [*, go_sem, World.cell?_alloc_past], by simp [*, go_sem, World.cell?_alloc_past]⟩
      · exact ⟨by simp <;> omega, by simp [*, go_sem, World.cell?_alloc_past], by simp [*, go_sem, World.cell?_alloc_past], by simp [*, go_sem, World.cell?_alloc_past]⟩
      · show Below _ _ _
        repeat (first | exact Below.refl _ _ | (refine bel_trans ?_ (by assumption)) | (with_reducible apply bel_alloc) | (with_reducible apply Below.drew) | apply bel_alloc | apply Below.drew | refine bel_set ?_ (by simp; try omega) _)
  case rest =>
    obtain ⟨b6, b7, rfl, rfl, U, V, B⟩ := hcut
    have B2 : Hid (Below w.heap.size w wc) := bel_trans B1.out B.out
    have X2 : Hid (Box wc w.heap.size nul) := X1.out.below B.out
    clear B1 X1 B hLe
    go_wp2_with fail
    refine (c_null _).mono ?_
    rintro e w2 ⟨rfl, hb2⟩
    go_wp2_with fail
    refine (hCo _ (HL.out.below (bel_trans B2.out hb2))).mono ?_
    rintro e w3 ⟨rfl, hb3⟩
    have hs : Below wc.heap.size wc w3 := bel_trans hb2 hb3
    have B3 : Hid (Below w.heap.size w w3) := bel_trans B2.out hs
    have X3 : Hid (Box w3 w.heap.size nul) := X2.out.below hs
    clear hb2 hb3 hs U V B2 X2 hCo
    go_wp2_with fail
    refine (c_null _).mono ?_
    rintro e w4 ⟨rfl, hb4⟩
    have B4 : Hid (Below w.heap.size w w4) := bel_trans B3.out hb4
    obtain ⟨hx, d0, d1, d2, d3, e0, e1, e2, e3⟩ := X3.out.below hb4
    clear hb4
    go_wp2
    exact bodyPost_ret (v := ov 0 0 ⟨#[]⟩ 0) (by simp [results, Tryz.results18, go_sem, *]) rfl ⟨rfl, put4_below B4.out (Nat.le_refl _) nul⟩
theorem c_strict1_fl (op e : Int) (he : isErr e = true) (a : Option Addr) (c : Nat) (w : World) (h : Outs w a 1 [fl e]) : Ret 18 #[.int .u8 op, .slice a 1 c] w (ov 0 0 ⟨#[]⟩ e) := by
  have HL := Lib.hid h
  have h0 : ¬ e = 0 := by intro h; rw [h] at he; cases he
  have hE : errs 0 [fl e] = e := by simp [errs, lst]
  have hLe : ∀ W, Outs W a 1 [fl e] → Ret 40 #[.slice a 1 c] W (.int .i64 e) := fun W h => by have := c_least a 1 c _ (by omega) W h; rwa [hE] at this
  have h1 : (e != 0) = true := by simpa using h0
  clear h hE he
  go_enter Tryz.func18, Tryz.ntmps18
  go_wp2_with fail
  refine (hLe _ (HL.out.below (bel_alloc (Below.refl _ _) _))).mono ?_
  rintro e1 w1 ⟨rfl, hb1⟩
  have B1 : Hid (Below w.heap.size w w1) := bel_trans (bel_alloc (Below.refl _ _) _) hb1
  have X1 : Hid (Box w1 w.heap.size nul) := (Box.new w nul).below hb1
  clear hb1 hLe
  go_wp2_with fail
  refine (c_failing e _).mono ?_
  rintro e2 w4 ⟨rfl, hb4⟩
  have B4 : Hid (Below w.heap.size w w4) := bel_trans B1.out hb4
  obtain ⟨hx, d0, d1, d2, d3, e0, e1, e2, e3⟩ := X1.out.below hb4
  clear hb4
  go_wp2
  exact bodyPost_ret (v := ov 0 0 ⟨#[]⟩ e) (by simp [results, Tryz.results18, go_sem, *]) rfl ⟨rfl, put4_below B4.out (Nat.le_refl _) (fl e)⟩
theorem c_strict_not (o : Ot) (ht : tr o = true) (a : Option Addr) (c : Nat) (w : World) (h : Outs w a 1 [o]) : Ret 18 #[.int .u8 22, .slice a 1 c] w (enc (neg o)) := by
  rcases tr_cases ht with rfl | rfl | rfl | ⟨e, he, rfl⟩
  · exact c_strict1n 22 rfl rfl rfl (0, 0, ⟨#[]⟩) (by decide +kernel) a c w h
  · exact c_strict1 22 rfl rfl rfl (3, 1, ⟨#[]⟩) (by decide) (bo false) (fun w => ns_22 1 (.inr rfl) w) a c w h
  · exact c_strict1 22 rfl rfl rfl (3, 0, ⟨#[]⟩) (by decide) (bo true) (fun w => ns_22 0 (.inl rfl) w) a c w h
  · exact c_strict1_fl 22 e he a c w h
end Go.Proofs.YtdbhencjomnjhaaGreatDoor.T
namespace Go.Proofs.YtdbhencjomnjhaaGreatDoor.T
open Go.ChangeShapes Go.WideShapes Go.ChangeAt Go.RowKit Go.Proofs.YtdbhencjomnjhaaGreatDoor.V Go.Proofs.YtdbhencjomnjhaaGreatDoor.K
set_option maxRecDepth 100000 in
set_option maxHeartbeats 4000000 in
theorem c_Node_not (o : Ot) (ht : tr o = true) (a : Option Addr) (c : Nat) (w : World) (h : Outs w a 1 [o]) : Ret 5 #[.int .u8 22, .slice a 1 c] w (enc (neg o)) := by
  have HL := Lib.hid h
  have hK : Hid (kind 22 ([o].map (·.k)) = (3, 0)) := by
    show _ = _
    rcases tr_cases ht with rfl | rfl | rfl | ⟨e, he, rfl⟩
    · decide +kernel
    · decide +kernel
    · decide +kernel
    · exact (by decide +kernel : kind 22 [0] = (3, 0))
  have hV : Hid ([o].all Ot.ok = true) := by
    have h1 := ht
    unfold tr at h1
    rw [Bool.and_eq_true] at h1
    show _ = _
    simp [h1.1]
  have hS := Lib.hid (fun W h => c_strict_not o ht a c W h)
  clear h ht
  go_enter Tryz.func5, Tryz.ntmps5
  go_wp2_with fail
  have HL0 := Lib.hid (HL.out.below (bel_alloc (Below.refl _ w) (.cells #[.int .u8 0, .int .i64 0, .string ⟨#[]⟩, .int .i64 0] 31)))
  refine (c_kindsOf a 1 c [o] (by omega) _ HL0.out).mono ?_
  rintro e w1 ⟨⟨a2, rfl, hone⟩, hb1⟩
  have HX1 : Hid (Box w1 w.heap.size nul) := (Box.new w nul).below hb1
  have B1 : Hid (Below w.heap.size w w1) := bel_trans (bel_alloc (Below.refl _ _) _) hb1
  have HO := Lib.hid hone
  clear hb1 hone HL0
  go_wp2_with fail
  refine (c_Kind 22 a2 1 1 ([o].map (·.k)) (Nat.le_refl _) (by omega) (by omega) _ HO.out).mono ?_
  rw [hK.out]
  rintro e w2 ⟨rfl, hb2⟩
  have HX2 := Lib.hid (HX1.out.below hb2)
  have B2 : Hid (Below w.heap.size w w2) := bel_trans B1.out hb2
  clear hb2 HX1 B1 HO
  simp only [kV]
  go_wp2_with fail
  refine (c_areValid a 1 c [o] (by omega) _ (HL.out.below B2.out)).mono ?_
  rw [hV.out]
  rintro e w3 ⟨rfl, hb3⟩
  have HX3 := Lib.hid (HX2.out.below hb3)
  have B3 : Hid (Below w.heap.size w w3) := bel_trans B2.out hb3
  clear hb3 HX2 B2
  go_wp2_with fail
  refine (hS.out _ (HL.out.below B3.out)).mono ?_
  rintro e w4 ⟨rfl, hb4⟩
  obtain ⟨hx, d0, d1, d2, d3, e0, e1, e2, e3⟩ := HX3.out.below hb4
  have B4 : Hid (Below w.heap.size w w4) := bel_trans B3.out hb4
  clear hb4
  generalize hz : neg o = z
  have hz := Lib.hid hz
  go_wp2
  exact bodyPost_ret (v := ov z.k z.n z.s z.e) (by simp [results, Tryz.results5, go_sem, *]) rfl ⟨ret_v (by rw [hz.out]), put4_below B4.out (Nat.le_refl _) _⟩
end Go.Proofs.YtdbhencjomnjhaaGreatDoor.T
namespace Go.Proofs.YtdbhencjomnjhaaGreatDoor.U
open Go.ChangeShapes Go.WideShapes Go.ChangeAt Go.RowKit Go.Proofs.YtdbhencjomnjhaaGreatDoor.V Go.Proofs.YtdbhencjomnjhaaGreatDoor.K Go.Proofs.YtdbhencjomnjhaaGreatDoor.T
set_option maxRecDepth 100000 in
set_option maxHeartbeats 4000000 in
theorem c_Node_kind (op : Int) (kk ee : Int) (he : ee ≠ 0) (a : Option Addr) (n c : Nat) (l : List Ot) (hsz : 40 * n ≤ 140737488351232) (hk : kind op (l.map (·.k)) = (kk, ee)) (w : World) (h : Outs w a n l) :
    Ret 5 #[.int .u8 op, .slice a n c] w (enc (fl 1)) := by
  have HL := Lib.hid h
  have hK := Lib.hid hk
  have he2 : (ee != 0) = true := by simpa using he
  clear h hk
  go_enter Tryz.func5, Tryz.ntmps5
  go_wp2_with fail
  have HL0 := Lib.hid (HL.out.below (bel_alloc (Below.refl _ w) (.cells #[.int .u8 0, .int .i64 0, .string ⟨#[]⟩, .int .i64 0] 31)))
  refine (c_kindsOf a n c l (by omega) _ HL0.out).mono ?_
  rintro e w1 ⟨⟨a2, rfl, hone⟩, hb1⟩
  have HX1 : Hid (Box w1 w.heap.size nul) := (Box.new w nul).below hb1
  have B1 : Hid (Below w.heap.size w w1) := bel_trans (bel_alloc (Below.refl _ _) _) hb1
  have HO := Lib.hid hone
  clear hb1 hone HL0
  go_wp2_with fail
  refine (c_Kind op a2 n n (l.map (·.k)) (Nat.le_refl _) (by omega) (by omega) _ HO.out).mono ?_
  rw [hK.out]
  rintro e w2 ⟨rfl, hb2⟩
  have HX2 := Lib.hid (HX1.out.below hb2)
  have B2 : Hid (Below w.heap.size w w2) := bel_trans B1.out hb2
  clear hb2 HX1 B1 HO
  simp only [kV]
  go_wp2_with fail
  refine (c_failing 1 _).mono ?_
  rintro e w4 ⟨rfl, hb4⟩
  obtain ⟨hx, d0, d1, d2, d3, e0, e1, e2, e3⟩ := HX2.out.below hb4
  have B4 : Hid (Below w.heap.size w w4) := bel_trans B2.out hb4
  clear hb4
  go_wp2
  exact bodyPost_ret (v := ov 0 0 ⟨#[]⟩ 1) (by simp [results, Tryz.results5, go_sem, *]) rfl ⟨rfl, put4_below (o := fl 1) B4.out (Nat.le_refl _)⟩
set_option maxRecDepth 100000 in
set_option maxHeartbeats 4000000 in
theorem c_Node_bad (op : Int) (kk : Int) (a : Option Addr) (n c : Nat) (l : List Ot) (hsz : 40 * n ≤ 140737488351232) (hk : kind op (l.map (·.k)) = (kk, 0)) (hv : l.all Ot.ok = false) (w : World) (h : Outs w a n l) :
    Ret 5 #[.int .u8 op, .slice a n c] w (enc (fl 1)) := by
  have HL := Lib.hid h
  have hK := Lib.hid hk
  have hV := Lib.hid hv
  clear h hk hv
  go_enter Tryz.func5, Tryz.ntmps5
  go_wp2_with fail
  have HL0 := Lib.hid (HL.out.below (bel_alloc (Below.refl _ w) (.cells #[.int .u8 0, .int .i64 0, .string ⟨#[]⟩, .int .i64 0] 31)))
  refine (c_kindsOf a n c l (by omega) _ HL0.out).mono ?_
  rintro e w1 ⟨⟨a2, rfl, hone⟩, hb1⟩
  have HX1 : Hid (Box w1 w.heap.size nul) := (Box.new w nul).below hb1
  have B1 : Hid (Below w.heap.size w w1) := bel_trans (bel_alloc (Below.refl _ _) _) hb1
  have HO := Lib.hid hone
  clear hb1 hone HL0
  go_wp2_with fail
  refine (c_Kind op a2 n n (l.map (·.k)) (Nat.le_refl _) (by omega) (by omega) _ HO.out).mono ?_
  rw [hK.out]
  rintro e w2 ⟨rfl, hb2⟩
  have HX2 := Lib.hid (HX1.out.below hb2)
  have B2 : Hid (Below w.heap.size w w2) := bel_trans B1.out hb2
  clear hb2 HX1 B1 HO
  simp only [kV]
  go_wp2_with fail
  refine (c_areValid a n c l (by omega) _ (HL.out.below B2.out)).mono ?_
  rw [hV.out]
  rintro e w3 ⟨rfl, hb3⟩
  have HX3 := Lib.hid (HX2.out.below hb3)
  have B3 : Hid (Below w.heap.size w w3) := bel_trans B2.out hb3
  clear hb3 HX2 B2
  go_wp2_with fail
  refine (c_failing 1 _).mono ?_
  rintro e w4 ⟨rfl, hb4⟩
  obtain ⟨hx, d0, d1, d2, d3, e0, e1, e2, e3⟩ := HX3.out.below hb4
  have B4 : Hid (Below w.heap.size w w4) := bel_trans B3.out hb4
  clear hb4
  go_wp2
  exact bodyPost_ret (v := ov 0 0 ⟨#[]⟩ 1) (by simp [results, Tryz.results5, go_sem, *]) rfl ⟨rfl, put4_below (o := fl 1) B4.out (Nat.le_refl _)⟩
theorem c_Node_no (op : Int) (a : Option Addr) (n c : Nat) (l : List Ot) (hsz : 40 * n ≤ 140737488351232) (hf : fits op l = false) (w : World) (h : Outs w a n l) : Ret 5 #[.int .u8 op, .slice a n c] w (enc (node op l)) := by
  have hn : node op l = fl 1 := by unfold node; rw [hf]; rfl
  rw [hn]
  cases hq : kind op (l.map (·.k)) with
  | mk kk ee =>
    by_cases he : ee = 0
    · subst he
      have hv : l.all Ot.ok = false := by
        unfold fits at hf
        rw [hq] at hf
        simpa using hf
      exact c_Node_bad op kk a n c l hsz hq hv w h
    · exact c_Node_kind op kk ee he a n c l hsz hq w h
set_option maxRecDepth 100000 in
set_option maxHeartbeats 4000000 in
theorem c_Node_strict (op : Int) (h23 : op ≠ 23) (h24 : op ≠ 24) (h25 : op ≠ 25) (h26 : op ≠ 26) (z : Ot) (kk : Int) (a : Option Addr) (n c : Nat) (l : List Ot) (hsz : 40 * n ≤ 140737488351232) (hk : kind op (l.map (·.k)) = (kk, 0)) (hv : l.all Ot.ok = true)
    (hs : ∀ W, Outs W a n l → Ret 18 #[.int .u8 op, .slice a n c] W (enc z)) (w : World) (h : Outs w a n l) : Ret 5 #[.int .u8 op, .slice a n c] w (enc z) := by
  have HL := Lib.hid h
  have hK := Lib.hid hk
  have hV := Lib.hid hv
  have hS := Lib.hid hs
  have e23 : (op == 23) = false := by simp; omega
  have e24 : (op == 24) = false := by simp; omega
  have e25 : (op == 25) = false := by simp; omega
  have e26 : (op == 26) = false := by simp; omega
  clear h hk hv hs
  go_enter Tryz.func5, Tryz.ntmps5
  go_wp2_with fail
  have HL0 := Lib.hid (HL.out.below (bel_alloc (Below.refl _ w) (.cells #[.int .u8 0, .int .i64 0, .string ⟨#[]⟩, .int .i64 0] 31)))
  refine (c_kindsOf a n c l (by omega) _ HL0.out).mono ?_
  rintro e w1 ⟨⟨a2, rfl, hone⟩, hb1⟩
  have HX1 : Hid (Box w1 w.heap.size nul) := (Box.new w nul).below hb1
  have B1 : Hid (Below w.heap.size w w1) := bel_trans (bel_alloc (Below.refl _ _) _) hb1
  have HO := Lib.hid hone
  clear hb1 hone HL0
  go_wp2_with fail
  refine (c_Kind op a2 n n (l.map (·.k)) (Nat.le_refl _) (by omega) (by omega) _ HO.out).mono ?_
  rw [hK.out]
  rintro e w2 ⟨rfl, hb2⟩
  have HX2 := Lib.hid (HX1.out.below hb2)
  have B2 : Hid (Below w.heap.size w w2) := bel_trans B1.out hb2
  clear hb2 HX1 B1 HO
  simp only [kV]
  go_wp2_with fail
  refine (c_areValid a n c l (by omega) _ (HL.out.below B2.out)).mono ?_
  rw [hV.out]
  rintro e w3 ⟨rfl, hb3⟩
  have HX3 := Lib.hid (HX2.out.below hb3)
  have B3 : Hid (Below w.heap.size w w3) := bel_trans B2.out hb3
  clear hb3 HX2 B2
  go_wp2_with fail
  refine (hS.out _ (HL.out.below B3.out)).mono ?_
  rintro e w4 ⟨rfl, hb4⟩
  obtain ⟨hx, d0, d1, d2, d3, e0, e1, e2, e3⟩ := HX3.out.below hb4
  have B4 : Hid (Below w.heap.size w w4) := bel_trans B3.out hb4
  clear hb4
  go_wp2
  exact bodyPost_ret (v := ov z.k z.n z.s z.e) (by simp [results, Tryz.results5, go_sem, *]) rfl ⟨rfl, put4_below B4.out (Nat.le_refl _) _⟩
set_option maxRecDepth 100000 in
set_option maxHeartbeats 4000000 in
theorem c_Node_25c (z : Ot) (kk : Int) (a : Option Addr) (n c : Nat) (l : List Ot) (hsz : 40 * n ≤ 140737488351232) (hk : kind 25 (l.map (·.k)) = (kk, 0)) (hv : l.all Ot.ok = true)
    (hs : ∀ W, Outs W a n l → Ret 16 #[.slice a n c] W (enc z)) (w : World) (h : Outs w a n l) : Ret 5 #[.int .u8 25, .slice a n c] w (enc z) := by
  have HL := Lib.hid h
  have hK := Lib.hid hk
  have hV := Lib.hid hv
  have hS := Lib.hid hs
  clear h hk hv hs
  go_enter Tryz.func5, Tryz.ntmps5
  go_wp2_with fail
  have HL0 := Lib.hid (HL.out.below (bel_alloc (Below.refl _ w) (.cells #[.int .u8 0, .int .i64 0, .string ⟨#[]⟩, .int .i64 0] 31)))
  refine (c_kindsOf a n c l (by omega) _ HL0.out).mono ?_
  rintro e w1 ⟨⟨a2, rfl, hone⟩, hb1⟩
  have HX1 : Hid (Box w1 w.heap.size nul) := (Box.new w nul).below hb1
  have B1 : Hid (Below w.heap.size w w1) := bel_trans (bel_alloc (Below.refl _ _) _) hb1
  have HO := Lib.hid hone
  clear hb1 hone HL0
  go_wp2_with fail
  refine (c_Kind 25 a2 n n (l.map (·.k)) (Nat.le_refl _) (by omega) (by omega) _ HO.out).mono ?_
  rw [hK.out]
  rintro e w2 ⟨rfl, hb2⟩
  have HX2 := Lib.hid (HX1.out.below hb2)
  have B2 : Hid (Below w.heap.size w w2) := bel_trans B1.out hb2
  clear hb2 HX1 B1 HO
  simp only [kV]
  go_wp2_with fail
  refine (c_areValid a n c l (by omega) _ (HL.out.below B2.out)).mono ?_
  rw [hV.out]
  rintro e w3 ⟨rfl, hb3⟩
  have HX3 := Lib.hid (HX2.out.below hb3)
  have B3 : Hid (Below w.heap.size w w3) := bel_trans B2.out hb3
  clear hb3 HX2 B2
  go_wp2_with fail
  refine (hS.out _ (HL.out.below B3.out)).mono ?_
  rintro e w4 ⟨rfl, hb4⟩
  obtain ⟨hx, d0, d1, d2, d3, e0, e1, e2, e3⟩ := HX3.out.below hb4
  have B4 : Hid (Below w.heap.size w w4) := bel_trans B3.out hb4
  clear hb4
  go_wp2
  exact bodyPost_ret (v := ov z.k z.n z.s z.e) (by simp [results, Tryz.results5, go_sem, *]) rfl ⟨rfl, put4_below B4.out (Nat.le_refl _) _⟩
set_option maxRecDepth 100000 in
set_option maxHeartbeats 4000000 in
theorem c_Node_26c (z : Ot) (kk : Int) (a : Option Addr) (n c : Nat) (l : List Ot) (hsz : 40 * n ≤ 140737488351232) (hk : kind 26 (l.map (·.k)) = (kk, 0)) (hv : l.all Ot.ok = true)
    (hs : ∀ W, Outs W a n l → Ret 17 #[.slice a n c] W (enc z)) (w : World) (h : Outs w a n l) : Ret 5 #[.int .u8 26, .slice a n c] w (enc z) := by
  have HL := Lib.hid h
  have hK := Lib.hid hk
  have hV := Lib.hid hv
  have hS := Lib.hid hs
  clear h hk hv hs
  go_enter Tryz.func5, Tryz.ntmps5
  go_wp2_with fail
  have HL0 := Lib.hid (HL.out.below (bel_alloc (Below.refl _ w) (.cells #[.int .u8 0, .int .i64 0, .string ⟨#[]⟩, .int .i64 0] 31)))
  refine (c_kindsOf a n c l (by omega) _ HL0.out).mono ?_
  rintro e w1 ⟨⟨a2, rfl, hone⟩, hb1⟩
  have HX1 : Hid (Box w1 w.heap.size nul) := (Box.new w nul).below hb1
  have B1 : Hid (Below w.heap.size w w1) := bel_trans (bel_alloc (Below.refl _ _) _) hb1
  have HO := Lib.hid hone
  clear hb1 hone HL0
  go_wp2_with fail
  refine (c_Kind 26 a2 n n (l.map (·.k)) (Nat.le_refl _) (by omega) (by omega) _ HO.out).mono ?_
  rw [hK.out]
  rintro e w2 ⟨rfl, hb2⟩
  have HX2 := Lib.hid (HX1.out.below hb2)
  have B2 : Hid (Below w.heap.size w w2) := bel_trans B1.out hb2
  clear hb2 HX1 B1 HO
  simp only [kV]
  go_wp2_with fail
  refine (c_areValid a n c l (by omega) _ (HL.out.below B2.out)).mono ?_
  rw [hV.out]
  rintro e w3 ⟨rfl, hb3⟩
  have HX3 := Lib.hid (HX2.out.below hb3)
  have B3 : Hid (Below w.heap.size w w3) := bel_trans B2.out hb3
  clear hb3 HX2 B2
  go_wp2_with fail
  refine (hS.out _ (HL.out.below B3.out)).mono ?_
  rintro e w4 ⟨rfl, hb4⟩
  obtain ⟨hx, d0, d1, d2, d3, e0, e1, e2, e3⟩ := HX3.out.below hb4
  have B4 : Hid (Below w.heap.size w w4) := bel_trans B3.out hb4
  clear hb4
  go_wp2
  exact bodyPost_ret (v := ov z.k z.n z.s z.e) (by simp [results, Tryz.results5, go_sem, *]) rfl ⟨rfl, put4_below B4.out (Nat.le_refl _) _⟩
set_option maxRecDepth 100000 in
set_option maxHeartbeats 4000000 in
theorem c_first1 (o : Ot) (w : World) : Ret 39 #[enc o] w (.bool (!isNul o)) := by
  obtain ⟨ok, on, os, oe⟩ := o
  by_cases hq : ok = 0 ∧ on = 0 ∧ os.toList = [] ∧ oe = 0
  · have hR : Hid (isNul ⟨ok, on, os, oe⟩ = true) := by show _ = _; unfold isNul; exact decide_eq_true hq
    obtain ⟨rfl, rfl, hs, rfl⟩ := hq
    go_enter Tryz.func39, Tryz.ntmps39
    go_wp2_with fail
    refine region_far (by kernel_rfl) (by kernel_rfl) ?_
    repeat (go_big_quiet_step ((go_at_call 37; with_reducible exact call_far (c_null _))))
    refine wpQuiet_nil ?_
    intro wq hbq
    go_wp2
    go_ret
    exact ⟨ret_bool (by rw [hR.out]; rfl), bel_trans (bel_alloc (Below.refl _ _) _) hbq⟩
  · have hR : Hid (isNul ⟨ok, on, os, oe⟩ = false) := by show _ = _; unfold isNul; exact decide_eq_false hq
    by_cases h1 : ok = 0
    · by_cases h2 : on = 0
      · by_cases h3 : os.toList = []
        · have h4 : ¬ oe = 0 := fun h4 => hq ⟨h1, h2, h3, h4⟩
          clear hq
          go_enter Tryz.func39, Tryz.ntmps39
          go_wp2_with fail
          refine region_far (by kernel_rfl) (by kernel_rfl) ?_
          repeat (go_big_quiet_step ((go_at_call 37; with_reducible exact call_far (c_null _))))
          refine wpQuiet_nil ?_
          intro wq hbq
          go_wp2
          go_ret
          exact ⟨ret_bool (by rw [hR.out]; rfl), bel_trans (bel_alloc (Below.refl _ _) _) hbq⟩
        · clear hq
          go_enter Tryz.func39, Tryz.ntmps39
          go_wp2_with fail
          refine region_far (by kernel_rfl) (by kernel_rfl) ?_
          repeat (go_big_quiet_step ((go_at_call 37; with_reducible exact call_far (c_null _))))
          refine wpQuiet_nil ?_
          intro wq hbq
          go_wp2
          go_ret
          exact ⟨ret_bool (by rw [hR.out]; rfl), bel_trans (bel_alloc (Below.refl _ _) _) hbq⟩
      · clear hq
        go_enter Tryz.func39, Tryz.ntmps39
        go_wp2_with fail
        refine region_far (by kernel_rfl) (by kernel_rfl) ?_
        repeat (go_big_quiet_step ((go_at_call 37; with_reducible exact call_far (c_null _))))
        refine wpQuiet_nil ?_
        intro wq hbq
        go_wp2
        go_ret
        exact ⟨ret_bool (by rw [hR.out]; rfl), bel_trans (bel_alloc (Below.refl _ _) _) hbq⟩
    · clear hq
      go_enter Tryz.func39, Tryz.ntmps39
      go_wp2_with fail
      refine region_far (by kernel_rfl) (by kernel_rfl) ?_
      repeat (go_big_quiet_step ((go_at_call 37; with_reducible exact call_far (c_null _))))
      refine wpQuiet_nil ?_
      intro wq hbq
      go_wp2
      go_ret
      exact ⟨ret_bool (by rw [hR.out]; rfl), bel_trans (bel_alloc (Below.refl _ _) _) hbq⟩
theorem nul_isN {o : Ot} (h : o.ok = true) : isNul o = isN o := by
  cases hn : isN o with
  | true =>
    have := ok_null h hn
    subst this
    unfold isNul nul
    exact decide_eq_true ⟨rfl, rfl, ba_nil', rfl⟩
  | false =>
    unfold isNul
    apply decide_eq_false
    rintro ⟨h1, h2, h3, h4⟩
    unfold isN at hn
    rw [h1, h4] at hn
    simp at hn
theorem first_idx : ∀ (l : List Ot) (k0 : Nat), l.all Ot.ok = true → (idx (fun o => !isNul o) l k0 = -1 ∧ first l = nul) ∨ ∃ (j : Nat) (o : Ot), idx (fun o => !isNul o) l k0 = ((k0 + j : Nat) : Int) ∧ l[j]? = some o ∧ first l = o
  | [], k0, _ => .inl ⟨rfl, rfl⟩
  | o :: t, k0, h => by
    rw [List.all_cons, Bool.and_eq_true] at h
    have hn := nul_isN h.1
    cases hc : isN o with
    | true =>
      rw [hc] at hn
      have e1 : first (o :: t) = first t := by rw [first, hc, if_pos rfl]
      have e2 : idx (fun o => !isNul o) (o :: t) k0 = idx (fun o => !isNul o) t (k0 + 1) := by rw [idx, hn]; rfl
      rw [e1, e2]
      rcases first_idx t (k0 + 1) h.2 with h' | ⟨j, x, h1, h2, h3⟩
      · exact .inl h'
      · exact .inr ⟨j + 1, x, by rw [h1]; congr 1; omega, h2, h3⟩
    | false =>
      rw [hc] at hn
      refine .inr ⟨0, o, ?_, rfl, by rw [first, hc]; rfl⟩
      rw [idx, hn]
      rfl
set_option maxRecDepth 100000 in
set_option maxHeartbeats 4000000 in
theorem c_firstKnown (a : Option Addr) (n c : Nat) (l : List Ot) (hn : n ≤ 9223372036854775000) (hv : l.all Ot.ok = true) (w : World) (h : Outs w a n l) : Ret 17 #[.slice a n c] w (enc (first l)) := by
  have HL := Lib.hid h
  have hI : ∀ W, Outs W a n l → Ret 38 #[.slice a n c, .func (.func 39) #[] #[]] W (.int .i64 (idx (fun o => !isNul o) l 0)) := fun W h => l_IndexOut 39 #[] (fun _ _ => by kernel_rfl) (fun o => !isNul o) a n c l (by omega) W h (fun o _ w' _ => c_first1 o w')
  rcases first_idx l 0 hv with ⟨h1, h2⟩ | ⟨j, o, h1, h2, h3⟩
  · rw [h1] at hI
    rw [h2]
    clear h h1 h2 hv
    go_enter Tryz.func17, Tryz.ntmps17
    go_upto_region 3 with (go_at_call 38; refine (hI _ (HL.out.below (bel_alloc (Below.refl _ _) _))).mono ?_; rintro e w1 ⟨rfl, hb1⟩)
    have X1 : Hid (Box w1 w.heap.size nul) := (Box.new w nul).below hb1
    have B1 : Hid (Below w.heap.size w w1) := bel_trans (bel_alloc (Below.refl _ _) _) hb1
    clear hb1 hI
    go_wp2_with fail
    refine (c_null _).mono ?_
    rintro e w4 ⟨rfl, hb4⟩
    obtain ⟨hx, d0, d1, d2, d3, e0, e1, e2, e3⟩ := X1.out.below hb4
    have B4 : Hid (Below w.heap.size w w4) := bel_trans B1.out hb4
    clear hb4
    go_wp2
    exact bodyPost_ret (v := ov 0 0 ⟨#[]⟩ 0) (by simp [results, Tryz.results17, go_sem, *]) rfl ⟨rfl, put4_below (o := nul) B4.out (Nat.le_refl _)⟩
  · rw [h1, Nat.zero_add] at hI
    rw [h3]
    have hjl : j < n := by rw [h.len]; exact (List.getElem?_eq_some_iff.1 h2).1
    have HJ := Lib.hid h2
    clear h h1 h2 h3 hv
    go_enter Tryz.func17, Tryz.ntmps17
    go_upto_region 2 with (go_at_call 38; refine (hI _ (HL.out.below (bel_alloc (Below.refl _ _) _))).mono ?_; rintro e w1 ⟨rfl, hb1⟩)
    have B1 : Hid (Below w.heap.size w w1) := bel_trans (bel_alloc (Below.refl _ _) _) hb1
    obtain ⟨hx, d0, d1, d2, d3, e0, e1, e2, e3⟩ := (Box.new w nul).below hb1
    obtain ⟨g, q, o', rfl, hlk, hg, c0, c1, c2, c3⟩ := (HL.out.below B1.out).at_ j hjl
    obtain rfl : o' = o := Option.some.inj (hlk.symm.trans HJ.out)
    clear hb1 hI hlk
    go_wp2
    exact bodyPost_ret (v := ov o'.k o'.n o'.s o'.e) (by simp [results, Tryz.results17, go_sem, *]) rfl ⟨rfl, put4_below B1.out (Nat.le_refl _) _⟩
theorem fits_kind {op : Int} {l : List Ot} (h : fits op l = true) : l.all Ot.ok = true ∧ kind op (l.map (·.k)) = ((kind op (l.map (·.k))).1, 0) := by
  unfold fits at h
  rw [Bool.and_eq_true, beq_iff_eq] at h
  refine ⟨h.1, ?_⟩
  have h2 := h.2
  generalize kind op (l.map (·.k)) = q at h2 ⊢
  obtain ⟨q1, q2⟩ := q
  subst h2
  rfl
theorem c_Node_first (a : Option Addr) (n c : Nat) (l : List Ot) (hsz : 40 * n ≤ 140737488351232) (w : World) (h : Outs w a n l) : Ret 5 #[.int .u8 26, .slice a n c] w (enc (node 26 l)) := by
  cases hf : fits 26 l with
  | false => exact c_Node_no 26 a n c l hsz hf w h
  | true =>
    obtain ⟨hv, hk⟩ := fits_kind hf
    rw [node_26 hf]
    exact c_Node_26c (first l) _ a n c l hsz hk hv (fun W h => c_firstKnown a n c l (by omega) hv W h) w h
end Go.Proofs.YtdbhencjomnjhaaGreatDoor.U
namespace Go.Proofs.YtdbhencjomnjhaaGreatDoor.V
open Go.ChangeShapes Go.WideShapes Go.ChangeAt Go.RowKit
/-- The absolute value. -/
def mag (n : Int) : Int := if n < 0 then -n else n
theorem mag_bd (n : Int) (h : Fits n) : 0 ≤ mag n ∧ mag n ≤ 9223372036854775808 := by unfold mag Fits at *; split <;> omega
theorem c_mag (n : Int) (h : Fits n) (w : World) : Calls Tryz.prog 90 #[.int .i64 n] w fun e w' => e = .returned (.int .u64 (mag n)) ∧ w = w' := by
  obtain ⟨h1, h2⟩ := h
  by_cases hn : n < 0
  · have e : mag n = -n := if_pos hn
    have E := Lib.hid e; clear e
    go_enter Tryz.func90, Tryz.ntmps90
    go_wp2
    go_ret
    exact ⟨ret_int (by rw [E.out]; simp only [IntKind.wrap_u64]; omega), rfl⟩
  · have e : mag n = n := if_neg hn
    have E := Lib.hid e; clear e
    go_enter Tryz.func90, Tryz.ntmps90
    go_wp2
    go_ret
    exact ⟨ret_int (by rw [E.out]), rfl⟩
theorem mul64 (x y : Int) (hx : 0 ≤ x) (hx' : x ≤ 9223372036854775808) (hy : 0 ≤ y) (hy' : y ≤ 9223372036854775808) (w : World) :
    Calls Tryz.prog 89 #[.int .u64 x, .int .u64 y] w fun e w' => e = .returned (.tuple #[.int .u64 (x * y / 18446744073709551616), .int .u64 (x * y % 18446744073709551616)]) ∧ w = w' := by
  obtain ⟨x, rfl⟩ := Int.eq_ofNat_of_zero_le hx
  obtain ⟨y, rfl⟩ := Int.eq_ofNat_of_zero_le hy
  refine (Tryz.bits_Mul64 x y (by omega) (by omega) w).mono ?_
  rintro e w' ⟨rfl, rfl⟩
  exact ⟨by simp, rfl⟩
/-- The product by the absolute values. -/
theorem mul_pos (a b : Int) (h : (a < 0) ↔ (b < 0)) : a * b = mag a * mag b := by
  unfold mag
  by_cases ha : a < 0
  · rw [if_pos ha, if_pos (h.1 ha), Int.neg_mul_neg]
  · rw [if_neg ha, if_neg (fun hb => ha (h.2 hb))]
theorem mul_neg (a b : Int) (h : ¬ ((a < 0) ↔ (b < 0))) : a * b = -(mag a * mag b) := by
  unfold mag
  by_cases ha : a < 0
  · rw [if_pos ha, if_neg (fun hb => h ⟨fun _ => hb, fun _ => ha⟩), Int.neg_mul, Int.neg_neg]
  · have hb : b < 0 := by
      by_cases hb : b < 0
      · exact hb
      · exact absurd ⟨fun h => absurd h ha, fun h => absurd h hb⟩ h
    rw [if_neg ha, if_pos hb, Int.mul_neg, Int.neg_neg]
set_option maxHeartbeats 400000 in
theorem mul_1 (a b A B : Int) (ha : Fits a) (hb : Fits b) (hA : mag a = A) (hB : mag b = B) (sa : ¬ a < 0) (sb : ¬ b < 0) (w : World) :
    Calls Tryz.prog 75 #[.int .i64 a, .int .i64 b] w fun e w' => e = .returned (exact (A * B)) ∧ w = w' := by
  have bA := mag_bd a ha
  have bB := mag_bd b hb
  rw [hA] at bA; rw [hB] at bB
  obtain ⟨a1, a2⟩ := bA; obtain ⟨b1, b2⟩ := bB
  have p0 := Int.mul_nonneg a1 b1
  have HA := Lib.hid hA
  have HB := Lib.hid hB
  have Ha := Lib.hid ha
  have Hb := Lib.hid hb
  have ea : decide (a < 0) = false := by simpa using sa
  have eb : decide (b < 0) = false := by simpa using sb
  clear hA hB ha hb
  go_enter Tryz.func75, Tryz.ntmps75
  go_wp2_with (first | (go_at_call 90; first | ((with_reducible refine (c_mag a Ha.out _).mono ?_); rintro e w' ⟨rfl, rfl⟩; rw [HA.out]) | ((with_reducible refine (c_mag b Hb.out _).mono ?_); rintro e w' ⟨rfl, rfl⟩; rw [HB.out])) | (go_at_call 89; refine (mul64 A B a1 a2 b1 b2 _).mono ?_; rintro e w' ⟨rfl, rfl⟩))
  all_goals (go_ret2; exact ⟨fin _ _ _ (by (try simp only [and_true]); unfold Fits; (try unfold wrap64); omega), rfl⟩)
set_option maxHeartbeats 400000 in
theorem mul_2 (a b A B : Int) (ha : Fits a) (hb : Fits b) (hA : mag a = A) (hB : mag b = B) (sa : a < 0) (sb : b < 0) (w : World) :
    Calls Tryz.prog 75 #[.int .i64 a, .int .i64 b] w fun e w' => e = .returned (exact (A * B)) ∧ w = w' := by
  have bA := mag_bd a ha
  have bB := mag_bd b hb
  rw [hA] at bA; rw [hB] at bB
  obtain ⟨a1, a2⟩ := bA; obtain ⟨b1, b2⟩ := bB
  have p0 := Int.mul_nonneg a1 b1
  have HA := Lib.hid hA
  have HB := Lib.hid hB
  have Ha := Lib.hid ha
  have Hb := Lib.hid hb
  have ea : decide (a < 0) = true := by simpa using sa
  have eb : decide (b < 0) = true := by simpa using sb
  clear hA hB ha hb
  go_enter Tryz.func75, Tryz.ntmps75
  go_wp2_with (first | (go_at_call 90; first | ((with_reducible refine (c_mag a Ha.out _).mono ?_); rintro e w' ⟨rfl, rfl⟩; rw [HA.out]) | ((with_reducible refine (c_mag b Hb.out _).mono ?_); rintro e w' ⟨rfl, rfl⟩; rw [HB.out])) | (go_at_call 89; refine (mul64 A B a1 a2 b1 b2 _).mono ?_; rintro e w' ⟨rfl, rfl⟩))
  all_goals (go_ret2; exact ⟨fin _ _ _ (by (try simp only [and_true]); unfold Fits; (try unfold wrap64); omega), rfl⟩)
set_option maxHeartbeats 400000 in
theorem mul_3 (a b A B : Int) (ha : Fits a) (hb : Fits b) (hA : mag a = A) (hB : mag b = B) (sa : a < 0) (sb : ¬ b < 0) (w : World) :
    Calls Tryz.prog 75 #[.int .i64 a, .int .i64 b] w fun e w' => e = .returned (exact (-(A * B))) ∧ w = w' := by
  have bA := mag_bd a ha
  have bB := mag_bd b hb
  rw [hA] at bA; rw [hB] at bB
  obtain ⟨a1, a2⟩ := bA; obtain ⟨b1, b2⟩ := bB
  have p0 := Int.mul_nonneg a1 b1
  have HA := Lib.hid hA
  have HB := Lib.hid hB
  have Ha := Lib.hid ha
  have Hb := Lib.hid hb
  have ea : decide (a < 0) = true := by simpa using sa
  have eb : decide (b < 0) = false := by simpa using sb
  clear hA hB ha hb
  go_enter Tryz.func75, Tryz.ntmps75
  go_wp2_with (first | (go_at_call 90; first | ((with_reducible refine (c_mag a Ha.out _).mono ?_); rintro e w' ⟨rfl, rfl⟩; rw [HA.out]) | ((with_reducible refine (c_mag b Hb.out _).mono ?_); rintro e w' ⟨rfl, rfl⟩; rw [HB.out])) | (go_at_call 89; refine (mul64 A B a1 a2 b1 b2 _).mono ?_; rintro e w' ⟨rfl, rfl⟩))
  all_goals (go_ret2; exact ⟨fin _ _ _ (by (try simp only [IntKind.wrap_u64, and_true]); unfold Fits; (try unfold wrap64); omega), rfl⟩)
set_option maxHeartbeats 400000 in
theorem mul_4 (a b A B : Int) (ha : Fits a) (hb : Fits b) (hA : mag a = A) (hB : mag b = B) (sa : ¬ a < 0) (sb : b < 0) (w : World) :
    Calls Tryz.prog 75 #[.int .i64 a, .int .i64 b] w fun e w' => e = .returned (exact (-(A * B))) ∧ w = w' := by
  have bA := mag_bd a ha
  have bB := mag_bd b hb
  rw [hA] at bA; rw [hB] at bB
  obtain ⟨a1, a2⟩ := bA; obtain ⟨b1, b2⟩ := bB
  have p0 := Int.mul_nonneg a1 b1
  have HA := Lib.hid hA
  have HB := Lib.hid hB
  have Ha := Lib.hid ha
  have Hb := Lib.hid hb
  have ea : decide (a < 0) = false := by simpa using sa
  have eb : decide (b < 0) = true := by simpa using sb
  clear hA hB ha hb
  go_enter Tryz.func75, Tryz.ntmps75
  go_wp2_with (first | (go_at_call 90; first | ((with_reducible refine (c_mag a Ha.out _).mono ?_); rintro e w' ⟨rfl, rfl⟩; rw [HA.out]) | ((with_reducible refine (c_mag b Hb.out _).mono ?_); rintro e w' ⟨rfl, rfl⟩; rw [HB.out])) | (go_at_call 89; refine (mul64 A B a1 a2 b1 b2 _).mono ?_; rintro e w' ⟨rfl, rfl⟩))
  all_goals (go_ret2; exact ⟨fin _ _ _ (by (try simp only [IntKind.wrap_u64, and_true]); unfold Fits; (try unfold wrap64); omega), rfl⟩)
theorem c_Mul (a b : Int) (ha : Fits a) (hb : Fits b) (w : World) : Calls Tryz.prog 75 #[.int .i64 a, .int .i64 b] w fun e w' => e = .returned (exact (a * b)) ∧ w = w' := by
  by_cases sa : a < 0
  · by_cases sb : b < 0
    · rw [mul_pos a b ⟨fun _ => sb, fun _ => sa⟩]; exact mul_2 a b _ _ ha hb rfl rfl sa sb w
    · rw [mul_neg a b (fun h => sb (h.1 sa))]; exact mul_3 a b _ _ ha hb rfl rfl sa sb w
  · by_cases sb : b < 0
    · rw [mul_neg a b (fun h => sa (h.2 sb))]; exact mul_4 a b _ _ ha hb rfl rfl sa sb w
    · rw [mul_pos a b ⟨fun h => absurd h sa, fun h => absurd h sb⟩]; exact mul_1 a b _ _ ha hb rfl rfl sa sb w
end Go.Proofs.YtdbhencjomnjhaaGreatDoor.V
