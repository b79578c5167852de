/- The reference's numbers and comparisons. -/
import Derived.Test.YtdipalinddfekaaGreatDoorGai
import Derived.Test.YtdipalinddfekaaGreatDoorGab
namespace Go.Proofs.YtdipalinddfekaaGreatDoor.U
open Go.ChangeShapes Go.WideShapes Go.ChangeAt Go.RowKit Go.Proofs.YtdipalinddfekaaGreatDoor.V Go.Proofs.YtdipalinddfekaaGreatDoor.K Go.Proofs.YtdipalinddfekaaGreatDoor.T
set_option maxRecDepth 100000 in
set_option maxHeartbeats 4000000 in
theorem r_num4 (o : Ot) (ho : Fits o.n) (a : Option Addr) (c : Nat) (w : World) (h : Outs w a 1 [o]) : Ret 34 #[.int .u8 4, .slice a 1 c] w (enc (numO 4 o.n o.n)) := by
  obtain ⟨g, q, x0, rfl, e0, hg, c0, c1, c2, c3⟩ := h.at_ 0 (by omega)
  obtain rfl : o = x0 := Option.some.inj e0
  simp only [Nat.zero_mul, Nat.add_zero] at c0 c1 c2 c3
  clear e0 h
  obtain ⟨x, hxo⟩ : ∃ x, x = o.n := ⟨_, rfl⟩
  obtain ⟨y, hyo⟩ : ∃ y, y = o.n := ⟨_, rfl⟩
  have hx : Fits x := by rw [hxo]; exact ho
  have hy : Fits y := by rw [hyo]; exact ho
  rw [← hxo] at c1
  rw [← hxo]
  obtain rfl : y = x := hyo.trans hxo.symm
  have hA : ∀ W, Calls Tryz.prog 69 #[.int .i64 0, .int .i64 y] W fun e w' => e = .returned (pair (arith 4 y y).1 (arith 4 y y).2) ∧ W = w' := fun W => by rw [show arith 4 y y = ex (0 - y) from rfl, ← exact_ex]; exact r_Sub 0 y (by unfold Fits; omega) hy W
  unfold numO
  generalize arith 4 y y = r at hA ⊢
  obtain ⟨n, e⟩ := r
  clear hx hy hxo hyo ho
  by_cases he : e = 0
  · subst he
    have hz : (if ((n, (0 : Int)).2 ≠ 0) then fl (n, (0 : Int)).2 else ⟨1, (n, (0 : Int)).1, ⟨#[]⟩, 0⟩ : Ot) = ⟨1, n, ⟨#[]⟩, 0⟩ := rfl
    rw [hz]
    clear hz
    go_enter Tryz.func34, Tryz.ntmps34
    go_wp2_with (first | (go_at_call 69; refine (hA _).mono ?_; rintro e w' ⟨rfl, rfl⟩) | (go_at_call 36; refine (r_Int n _).mono ?_; rintro e w1 ⟨rfl, hbw1⟩; obtain ⟨hcw1, hfw1⟩ := bcell hbw1; have hzw1 := hbw1.size; (try simp at hzw1); have hk0w1 : w.heap.size < w1.heap.size := (by omega)))
    exact bodyPost_ret (v := ov 1 n ⟨#[]⟩ 0) (by simp [results, Tryz.results34, go_sem, *]) rfl ⟨rfl, by repeat (first | exact Below.refl _ _ | assumption | exact Go.Proofs.YtdipalinddfekaaGreatDoor.V.below_drewN _ _ | (refine bel_trans ?_ (Go.Proofs.YtdipalinddfekaaGreatDoor.V.below_drewN _ _)) | (refine bel_trans ?_ (by assumption)) | (with_reducible apply bel_alloc) | (with_reducible apply Below.drew) | apply bel_alloc | apply Below.drew | refine bel_set ?_ (by simp; try omega) _)⟩
  · have hz : (if ((n, e).2 ≠ 0) then fl (n, e).2 else ⟨1, (n, e).1, ⟨#[]⟩, 0⟩ : Ot) = fl e := if_pos he
    rw [hz]
    have he2 : (e != 0) = true := by simpa using he
    clear hz he
    go_enter Tryz.func34, Tryz.ntmps34
    go_wp2_with (first | (go_at_call 69; refine (hA _).mono ?_; rintro e w' ⟨rfl, rfl⟩) | (go_at_call 11; refine (r_Fail e _).mono ?_; rintro e w1 ⟨rfl, hbw1⟩; obtain ⟨hcw1, hfw1⟩ := bcell hbw1; have hzw1 := hbw1.size; (try simp at hzw1); have hk0w1 : w.heap.size < w1.heap.size := (by omega)))
    exact bodyPost_ret (v := ov 0 0 ⟨#[]⟩ e) (by simp [results, Tryz.results34, go_sem, *]) rfl ⟨rfl, by repeat (first | exact Below.refl _ _ | assumption | exact Go.Proofs.YtdipalinddfekaaGreatDoor.V.below_drewN _ _ | (refine bel_trans ?_ (Go.Proofs.YtdipalinddfekaaGreatDoor.V.below_drewN _ _)) | (refine bel_trans ?_ (by assumption)) | (with_reducible apply bel_alloc) | (with_reducible apply Below.drew) | apply bel_alloc | apply Below.drew | refine bel_set ?_ (by simp; try omega) _)⟩
set_option maxRecDepth 100000 in
set_option maxHeartbeats 4000000 in
theorem r_num5 (o p : Ot) (ho : Fits o.n) (hp : Fits p.n) (a : Option Addr) (c : Nat) (w : World) (h : Outs w a 2 [o, p]) : Ret 34 #[.int .u8 5, .slice a 2 c] w (enc (numO 5 o.n p.n)) := by
  obtain ⟨g, q, x0, rfl, e0, hg, c0, c1, c2, c3⟩ := h.at_ 0 (by omega)
  obtain rfl : o = x0 := Option.some.inj e0
  obtain ⟨g', q', x1, e1, e2, hg', m0, m1, m2, m3⟩ := h.at_ 1 (by omega)
  cases e1
  obtain rfl : p = x1 := Option.some.inj e2
  simp only [Nat.zero_mul, Nat.one_mul, Nat.add_zero] at c0 c1 c2 c3 m0 m1 m2 m3
  clear e0 e2 h
  obtain ⟨x, hxo⟩ : ∃ x, x = o.n := ⟨_, rfl⟩
  obtain ⟨y, hyo⟩ : ∃ y, y = p.n := ⟨_, rfl⟩
  have hx : Fits x := by rw [hxo]; exact ho
  have hy : Fits y := by rw [hyo]; exact hp
  rw [← hxo] at c1
  rw [← hxo, ← hyo]
  rw [← hyo] at m1
  have hA : ∀ W, Calls Tryz.prog 70 #[.int .i64 x, .int .i64 y] W fun e w' => e = .returned (pair (arith 5 x y).1 (arith 5 x y).2) ∧ W = w' := fun W => by rw [show arith 5 x y = ex (x + y) from rfl, ← exact_ex]; exact r_Add x y hx hy W
  unfold numO
  generalize arith 5 x y = r at hA ⊢
  obtain ⟨n, e⟩ := r
  clear hx hy hxo hyo ho hp
  by_cases he : e = 0
  · subst he
    have hz : (if ((n, (0 : Int)).2 ≠ 0) then fl (n, (0 : Int)).2 else ⟨1, (n, (0 : Int)).1, ⟨#[]⟩, 0⟩ : Ot) = ⟨1, n, ⟨#[]⟩, 0⟩ := rfl
    rw [hz]
    clear hz
    go_enter Tryz.func34, Tryz.ntmps34
    go_wp2_with (first | (go_at_call 70; refine (hA _).mono ?_; rintro e w' ⟨rfl, rfl⟩) | (go_at_call 36; refine (r_Int n _).mono ?_; rintro e w1 ⟨rfl, hbw1⟩; obtain ⟨hcw1, hfw1⟩ := bcell hbw1; have hzw1 := hbw1.size; (try simp at hzw1); have hk0w1 : w.heap.size < w1.heap.size := (by omega)))
    exact bodyPost_ret (v := ov 1 n ⟨#[]⟩ 0) (by simp [results, Tryz.results34, go_sem, *]) rfl ⟨rfl, by repeat (first | exact Below.refl _ _ | assumption | exact Go.Proofs.YtdipalinddfekaaGreatDoor.V.below_drewN _ _ | (refine bel_trans ?_ (Go.Proofs.YtdipalinddfekaaGreatDoor.V.below_drewN _ _)) | (refine bel_trans ?_ (by assumption)) | (with_reducible apply bel_alloc) | (with_reducible apply Below.drew) | apply bel_alloc | apply Below.drew | refine bel_set ?_ (by simp; try omega) _)⟩
  · have hz : (if ((n, e).2 ≠ 0) then fl (n, e).2 else ⟨1, (n, e).1, ⟨#[]⟩, 0⟩ : Ot) = fl e := if_pos he
    rw [hz]
    have he2 : (e != 0) = true := by simpa using he
    clear hz he
    go_enter Tryz.func34, Tryz.ntmps34
    go_wp2_with (first | (go_at_call 70; refine (hA _).mono ?_; rintro e w' ⟨rfl, rfl⟩) | (go_at_call 11; refine (r_Fail e _).mono ?_; rintro e w1 ⟨rfl, hbw1⟩; obtain ⟨hcw1, hfw1⟩ := bcell hbw1; have hzw1 := hbw1.size; (try simp at hzw1); have hk0w1 : w.heap.size < w1.heap.size := (by omega)))
    exact bodyPost_ret (v := ov 0 0 ⟨#[]⟩ e) (by simp [results, Tryz.results34, go_sem, *]) rfl ⟨rfl, by repeat (first | exact Below.refl _ _ | assumption | exact Go.Proofs.YtdipalinddfekaaGreatDoor.V.below_drewN _ _ | (refine bel_trans ?_ (Go.Proofs.YtdipalinddfekaaGreatDoor.V.below_drewN _ _)) | (refine bel_trans ?_ (by assumption)) | (with_reducible apply bel_alloc) | (with_reducible apply Below.drew) | apply bel_alloc | apply Below.drew | refine bel_set ?_ (by simp; try omega) _)⟩
set_option maxRecDepth 100000 in
set_option maxHeartbeats 4000000 in
theorem r_num6 (o p : Ot) (ho : Fits o.n) (hp : Fits p.n) (a : Option Addr) (c : Nat) (w : World) (h : Outs w a 2 [o, p]) : Ret 34 #[.int .u8 6, .slice a 2 c] w (enc (numO 6 o.n p.n)) := by
  obtain ⟨g, q, x0, rfl, e0, hg, c0, c1, c2, c3⟩ := h.at_ 0 (by omega)
  obtain rfl : o = x0 := Option.some.inj e0
  obtain ⟨g', q', x1, e1, e2, hg', m0, m1, m2, m3⟩ := h.at_ 1 (by omega)
  cases e1
  obtain rfl : p = x1 := Option.some.inj e2
  simp only [Nat.zero_mul, Nat.one_mul, Nat.add_zero] at c0 c1 c2 c3 m0 m1 m2 m3
  clear e0 e2 h
  obtain ⟨x, hxo⟩ : ∃ x, x = o.n := ⟨_, rfl⟩
  obtain ⟨y, hyo⟩ : ∃ y, y = p.n := ⟨_, rfl⟩
  have hx : Fits x := by rw [hxo]; exact ho
  have hy : Fits y := by rw [hyo]; exact hp
  rw [← hxo] at c1
  rw [← hxo, ← hyo]
  rw [← hyo] at m1
  have hA : ∀ W, Calls Tryz.prog 69 #[.int .i64 x, .int .i64 y] W fun e w' => e = .returned (pair (arith 6 x y).1 (arith 6 x y).2) ∧ W = w' := fun W => by rw [show arith 6 x y = ex (x - y) from rfl, ← exact_ex]; exact r_Sub x y hx hy W
  unfold numO
  generalize arith 6 x y = r at hA ⊢
  obtain ⟨n, e⟩ := r
  clear hx hy hxo hyo ho hp
  by_cases he : e = 0
  · subst he
    have hz : (if ((n, (0 : Int)).2 ≠ 0) then fl (n, (0 : Int)).2 else ⟨1, (n, (0 : Int)).1, ⟨#[]⟩, 0⟩ : Ot) = ⟨1, n, ⟨#[]⟩, 0⟩ := rfl
    rw [hz]
    clear hz
    go_enter Tryz.func34, Tryz.ntmps34
    go_wp2_with (first | (go_at_call 69; refine (hA _).mono ?_; rintro e w' ⟨rfl, rfl⟩) | (go_at_call 36; refine (r_Int n _).mono ?_; rintro e w1 ⟨rfl, hbw1⟩; obtain ⟨hcw1, hfw1⟩ := bcell hbw1; have hzw1 := hbw1.size; (try simp at hzw1); have hk0w1 : w.heap.size < w1.heap.size := (by omega)))
    exact bodyPost_ret (v := ov 1 n ⟨#[]⟩ 0) (by simp [results, Tryz.results34, go_sem, *]) rfl ⟨rfl, by repeat (first | exact Below.refl _ _ | assumption | exact Go.Proofs.YtdipalinddfekaaGreatDoor.V.below_drewN _ _ | (refine bel_trans ?_ (Go.Proofs.YtdipalinddfekaaGreatDoor.V.below_drewN _ _)) | (refine bel_trans ?_ (by assumption)) | (with_reducible apply bel_alloc) | (with_reducible apply Below.drew) | apply bel_alloc | apply Below.drew | refine bel_set ?_ (by simp; try omega) _)⟩
  · have hz : (if ((n, e).2 ≠ 0) then fl (n, e).2 else ⟨1, (n, e).1, ⟨#[]⟩, 0⟩ : Ot) = fl e := if_pos he
    rw [hz]
    have he2 : (e != 0) = true := by simpa using he
    clear hz he
    go_enter Tryz.func34, Tryz.ntmps34
    go_wp2_with (first | (go_at_call 69; refine (hA _).mono ?_; rintro e w' ⟨rfl, rfl⟩) | (go_at_call 11; refine (r_Fail e _).mono ?_; rintro e w1 ⟨rfl, hbw1⟩; obtain ⟨hcw1, hfw1⟩ := bcell hbw1; have hzw1 := hbw1.size; (try simp at hzw1); have hk0w1 : w.heap.size < w1.heap.size := (by omega)))
    exact bodyPost_ret (v := ov 0 0 ⟨#[]⟩ e) (by simp [results, Tryz.results34, go_sem, *]) rfl ⟨rfl, by repeat (first | exact Below.refl _ _ | assumption | exact Go.Proofs.YtdipalinddfekaaGreatDoor.V.below_drewN _ _ | (refine bel_trans ?_ (Go.Proofs.YtdipalinddfekaaGreatDoor.V.below_drewN _ _)) | (refine bel_trans ?_ (by assumption)) | (with_reducible apply bel_alloc) | (with_reducible apply Below.drew) | apply bel_alloc | apply Below.drew | refine bel_set ?_ (by simp; try omega) _)⟩
set_option maxRecDepth 100000 in
set_option maxHeartbeats 4000000 in
theorem r_num7 (o p : Ot) (ho : Fits o.n) (hp : Fits p.n) (a : Option Addr) (c : Nat) (w : World) (h : Outs w a 2 [o, p]) : Ret 34 #[.int .u8 7, .slice a 2 c] w (enc (numO 7 o.n p.n)) := by
  obtain ⟨g, q, x0, rfl, e0, hg, c0, c1, c2, c3⟩ := h.at_ 0 (by omega)
  obtain rfl : o = x0 := Option.some.inj e0
  obtain ⟨g', q', x1, e1, e2, hg', m0, m1, m2, m3⟩ := h.at_ 1 (by omega)
  cases e1
  obtain rfl : p = x1 := Option.some.inj e2
  simp only [Nat.zero_mul, Nat.one_mul, Nat.add_zero] at c0 c1 c2 c3 m0 m1 m2 m3
  clear e0 e2 h
  obtain ⟨x, hxo⟩ : ∃ x, x = o.n := ⟨_, rfl⟩
  obtain ⟨y, hyo⟩ : ∃ y, y = p.n := ⟨_, rfl⟩
  have hx : Fits x := by rw [hxo]; exact ho
  have hy : Fits y := by rw [hyo]; exact hp
  rw [← hxo] at c1
  rw [← hxo, ← hyo]
  rw [← hyo] at m1
  have hA : ∀ W, Calls Tryz.prog 71 #[.int .i64 x, .int .i64 y] W fun e w' => e = .returned (pair (arith 7 x y).1 (arith 7 x y).2) ∧ W = w' := fun W => by rw [show arith 7 x y = ex (x * y) from rfl, ← exact_ex]; exact r_Mul x y hx hy W
  unfold numO
  generalize arith 7 x y = r at hA ⊢
  obtain ⟨n, e⟩ := r
  clear hx hy hxo hyo ho hp
  by_cases he : e = 0
  · subst he
    have hz : (if ((n, (0 : Int)).2 ≠ 0) then fl (n, (0 : Int)).2 else ⟨1, (n, (0 : Int)).1, ⟨#[]⟩, 0⟩ : Ot) = ⟨1, n, ⟨#[]⟩, 0⟩ := rfl
    rw [hz]
    clear hz
    go_enter Tryz.func34, Tryz.ntmps34
    go_wp2_with (first | (go_at_call 71; refine (hA _).mono ?_; rintro e w' ⟨rfl, rfl⟩) | (go_at_call 36; refine (r_Int n _).mono ?_; rintro e w1 ⟨rfl, hbw1⟩; obtain ⟨hcw1, hfw1⟩ := bcell hbw1; have hzw1 := hbw1.size; (try simp at hzw1); have hk0w1 : w.heap.size < w1.heap.size := (by omega)))
    exact bodyPost_ret (v := ov 1 n ⟨#[]⟩ 0) (by simp [results, Tryz.results34, go_sem, *]) rfl ⟨rfl, by repeat (first | exact Below.refl _ _ | assumption | exact Go.Proofs.YtdipalinddfekaaGreatDoor.V.below_drewN _ _ | (refine bel_trans ?_ (Go.Proofs.YtdipalinddfekaaGreatDoor.V.below_drewN _ _)) | (refine bel_trans ?_ (by assumption)) | (with_reducible apply bel_alloc) | (with_reducible apply Below.drew) | apply bel_alloc | apply Below.drew | refine bel_set ?_ (by simp; try omega) _)⟩
  · have hz : (if ((n, e).2 ≠ 0) then fl (n, e).2 else ⟨1, (n, e).1, ⟨#[]⟩, 0⟩ : Ot) = fl e := if_pos he
    rw [hz]
    have he2 : (e != 0) = true := by simpa using he
    clear hz he
    go_enter Tryz.func34, Tryz.ntmps34
    go_wp2_with (first | (go_at_call 71; refine (hA _).mono ?_; rintro e w' ⟨rfl, rfl⟩) | (go_at_call 11; refine (r_Fail e _).mono ?_; rintro e w1 ⟨rfl, hbw1⟩; obtain ⟨hcw1, hfw1⟩ := bcell hbw1; have hzw1 := hbw1.size; (try simp at hzw1); have hk0w1 : w.heap.size < w1.heap.size := (by omega)))
    exact bodyPost_ret (v := ov 0 0 ⟨#[]⟩ e) (by simp [results, Tryz.results34, go_sem, *]) rfl ⟨rfl, by repeat (first | exact Below.refl _ _ | assumption | exact Go.Proofs.YtdipalinddfekaaGreatDoor.V.below_drewN _ _ | (refine bel_trans ?_ (Go.Proofs.YtdipalinddfekaaGreatDoor.V.below_drewN _ _)) | (refine bel_trans ?_ (by assumption)) | (with_reducible apply bel_alloc) | (with_reducible apply Below.drew) | apply bel_alloc | apply Below.drew | refine bel_set ?_ (by simp; try omega) _)⟩
set_option maxRecDepth 100000 in
set_option maxHeartbeats 4000000 in
theorem r_num8 (o p : Ot) (ho : Fits o.n) (hp : Fits p.n) (a : Option Addr) (c : Nat) (w : World) (h : Outs w a 2 [o, p]) : Ret 34 #[.int .u8 8, .slice a 2 c] w (enc (numO 8 o.n p.n)) := by
  obtain ⟨g, q, x0, rfl, e0, hg, c0, c1, c2, c3⟩ := h.at_ 0 (by omega)
  obtain rfl : o = x0 := Option.some.inj e0
  obtain ⟨g', q', x1, e1, e2, hg', m0, m1, m2, m3⟩ := h.at_ 1 (by omega)
  cases e1
  obtain rfl : p = x1 := Option.some.inj e2
  simp only [Nat.zero_mul, Nat.one_mul, Nat.add_zero] at c0 c1 c2 c3 m0 m1 m2 m3
  clear e0 e2 h
  obtain ⟨x, hxo⟩ : ∃ x, x = o.n := ⟨_, rfl⟩
  obtain ⟨y, hyo⟩ : ∃ y, y = p.n := ⟨_, rfl⟩
  have hx : Fits x := by rw [hxo]; exact ho
  have hy : Fits y := by rw [hyo]; exact hp
  rw [← hxo] at c1
  rw [← hxo, ← hyo]
  rw [← hyo] at m1
  have hA : ∀ W, Calls Tryz.prog 72 #[.int .i64 x, .int .i64 y] W fun e w' => e = .returned (pair (arith 8 x y).1 (arith 8 x y).2) ∧ W = w' := fun W => by rw [show (pair (arith 8 x y).1 (arith 8 x y).2) = divV x y by (unfold divV; rw [exact_ex, show arith 8 x y = (if y = 0 then (0, 3) else ex (x.tdiv y)) from rfl]; split <;> rfl)]; exact r_Div x y hx hy W
  unfold numO
  generalize arith 8 x y = r at hA ⊢
  obtain ⟨n, e⟩ := r
  clear hx hy hxo hyo ho hp
  by_cases he : e = 0
  · subst he
    have hz : (if ((n, (0 : Int)).2 ≠ 0) then fl (n, (0 : Int)).2 else ⟨1, (n, (0 : Int)).1, ⟨#[]⟩, 0⟩ : Ot) = ⟨1, n, ⟨#[]⟩, 0⟩ := rfl
    rw [hz]
    clear hz
    go_enter Tryz.func34, Tryz.ntmps34
    go_wp2_with (first | (go_at_call 72; refine (hA _).mono ?_; rintro e w' ⟨rfl, rfl⟩) | (go_at_call 36; refine (r_Int n _).mono ?_; rintro e w1 ⟨rfl, hbw1⟩; obtain ⟨hcw1, hfw1⟩ := bcell hbw1; have hzw1 := hbw1.size; (try simp at hzw1); have hk0w1 : w.heap.size < w1.heap.size := (by omega)))
    exact bodyPost_ret (v := ov 1 n ⟨#[]⟩ 0) (by simp [results, Tryz.results34, go_sem, *]) rfl ⟨rfl, by repeat (first | exact Below.refl _ _ | assumption | exact Go.Proofs.YtdipalinddfekaaGreatDoor.V.below_drewN _ _ | (refine bel_trans ?_ (Go.Proofs.YtdipalinddfekaaGreatDoor.V.below_drewN _ _)) | (refine bel_trans ?_ (by assumption)) | (with_reducible apply bel_alloc) | (with_reducible apply Below.drew) | apply bel_alloc | apply Below.drew | refine bel_set ?_ (by simp; try omega) _)⟩
  · have hz : (if ((n, e).2 ≠ 0) then fl (n, e).2 else ⟨1, (n, e).1, ⟨#[]⟩, 0⟩ : Ot) = fl e := if_pos he
    rw [hz]
    have he2 : (e != 0) = true := by simpa using he
    clear hz he
    go_enter Tryz.func34, Tryz.ntmps34
    go_wp2_with (first | (go_at_call 72; refine (hA _).mono ?_; rintro e w' ⟨rfl, rfl⟩) | (go_at_call 11; refine (r_Fail e _).mono ?_; rintro e w1 ⟨rfl, hbw1⟩; obtain ⟨hcw1, hfw1⟩ := bcell hbw1; have hzw1 := hbw1.size; (try simp at hzw1); have hk0w1 : w.heap.size < w1.heap.size := (by omega)))
    exact bodyPost_ret (v := ov 0 0 ⟨#[]⟩ e) (by simp [results, Tryz.results34, go_sem, *]) rfl ⟨rfl, by repeat (first | exact Below.refl _ _ | assumption | exact Go.Proofs.YtdipalinddfekaaGreatDoor.V.below_drewN _ _ | (refine bel_trans ?_ (Go.Proofs.YtdipalinddfekaaGreatDoor.V.below_drewN _ _)) | (refine bel_trans ?_ (by assumption)) | (with_reducible apply bel_alloc) | (with_reducible apply Below.drew) | apply bel_alloc | apply Below.drew | refine bel_set ?_ (by simp; try omega) _)⟩
set_option maxRecDepth 100000 in
set_option maxHeartbeats 4000000 in
theorem r_num9 (o p : Ot) (ho : Fits o.n) (hp : Fits p.n) (a : Option Addr) (c : Nat) (w : World) (h : Outs w a 2 [o, p]) : Ret 34 #[.int .u8 9, .slice a 2 c] w (enc (numO 9 o.n p.n)) := by
  obtain ⟨g, q, x0, rfl, e0, hg, c0, c1, c2, c3⟩ := h.at_ 0 (by omega)
  obtain rfl : o = x0 := Option.some.inj e0
  obtain ⟨g', q', x1, e1, e2, hg', m0, m1, m2, m3⟩ := h.at_ 1 (by omega)
  cases e1
  obtain rfl : p = x1 := Option.some.inj e2
  simp only [Nat.zero_mul, Nat.one_mul, Nat.add_zero] at c0 c1 c2 c3 m0 m1 m2 m3
  clear e0 e2 h
  obtain ⟨x, hxo⟩ : ∃ x, x = o.n := ⟨_, rfl⟩
  obtain ⟨y, hyo⟩ : ∃ y, y = p.n := ⟨_, rfl⟩
  have hx : Fits x := by rw [hxo]; exact ho
  have hy : Fits y := by rw [hyo]; exact hp
  rw [← hxo] at c1
  rw [← hxo, ← hyo]
  rw [← hyo] at m1
  have hA : ∀ W, Calls Tryz.prog 73 #[.int .i64 x, .int .i64 y] W fun e w' => e = .returned (pair (arith 9 x y).1 (arith 9 x y).2) ∧ W = w' := fun W => by rw [show (pair (arith 9 x y).1 (arith 9 x y).2) = modV x y by (unfold modV; rw [show arith 9 x y = (if y = 0 then (0, 3) else (x.tmod y, 0)) from rfl]; split <;> rfl)]; exact r_Mod x y hx W
  unfold numO
  generalize arith 9 x y = r at hA ⊢
  obtain ⟨n, e⟩ := r
  clear hx hy hxo hyo ho hp
  by_cases he : e = 0
  · subst he
    have hz : (if ((n, (0 : Int)).2 ≠ 0) then fl (n, (0 : Int)).2 else ⟨1, (n, (0 : Int)).1, ⟨#[]⟩, 0⟩ : Ot) = ⟨1, n, ⟨#[]⟩, 0⟩ := rfl
    rw [hz]
    clear hz
    go_enter Tryz.func34, Tryz.ntmps34
    go_wp2_with (first | (go_at_call 73; refine (hA _).mono ?_; rintro e w' ⟨rfl, rfl⟩) | (go_at_call 36; refine (r_Int n _).mono ?_; rintro e w1 ⟨rfl, hbw1⟩; obtain ⟨hcw1, hfw1⟩ := bcell hbw1; have hzw1 := hbw1.size; (try simp at hzw1); have hk0w1 : w.heap.size < w1.heap.size := (by omega)))
    exact bodyPost_ret (v := ov 1 n ⟨#[]⟩ 0) (by simp [results, Tryz.results34, go_sem, *]) rfl ⟨rfl, by repeat (first | exact Below.refl _ _ | assumption | exact Go.Proofs.YtdipalinddfekaaGreatDoor.V.below_drewN _ _ | (refine bel_trans ?_ (Go.Proofs.YtdipalinddfekaaGreatDoor.V.below_drewN _ _)) | (refine bel_trans ?_ (by assumption)) | (with_reducible apply bel_alloc) | (with_reducible apply Below.drew) | apply bel_alloc | apply Below.drew | refine bel_set ?_ (by simp; try omega) _)⟩
  · have hz : (if ((n, e).2 ≠ 0) then fl (n, e).2 else ⟨1, (n, e).1, ⟨#[]⟩, 0⟩ : Ot) = fl e := if_pos he
    rw [hz]
    have he2 : (e != 0) = true := by simpa using he
    clear hz he
    go_enter Tryz.func34, Tryz.ntmps34
    go_wp2_with (first | (go_at_call 73; refine (hA _).mono ?_; rintro e w' ⟨rfl, rfl⟩) | (go_at_call 11; refine (r_Fail e _).mono ?_; rintro e w1 ⟨rfl, hbw1⟩; obtain ⟨hcw1, hfw1⟩ := bcell hbw1; have hzw1 := hbw1.size; (try simp at hzw1); have hk0w1 : w.heap.size < w1.heap.size := (by omega)))
    exact bodyPost_ret (v := ov 0 0 ⟨#[]⟩ e) (by simp [results, Tryz.results34, go_sem, *]) rfl ⟨rfl, by repeat (first | exact Below.refl _ _ | assumption | exact Go.Proofs.YtdipalinddfekaaGreatDoor.V.below_drewN _ _ | (refine bel_trans ?_ (Go.Proofs.YtdipalinddfekaaGreatDoor.V.below_drewN _ _)) | (refine bel_trans ?_ (by assumption)) | (with_reducible apply bel_alloc) | (with_reducible apply Below.drew) | apply bel_alloc | apply Below.drew | refine bel_set ?_ (by simp; try omega) _)⟩
set_option maxRecDepth 100000 in
set_option maxHeartbeats 4000000 in
theorem r_cmp12 (k n : Int) (s : ByteArray) (k' n' : Int) (s' : ByteArray) (x : Int) (hx : x = -1 ∨ x = 0 ∨ x = 1) (hC : ∀ w, Ret 74 #[val k n s, val k' n' s'] w (.int .i64 x)) (w : World) :
    Ret 38 #[.int .u8 12, val k n s, val k' n' s'] w (enc (cmpO 12 x)) := by
  rcases hx with rfl | rfl | rfl
  · go_enter Tryz.func38, Tryz.ntmps38
    go_wp2_with fail
    refine (hC _).mono ?_; rintro e w1 ⟨rfl, hbw1⟩; obtain ⟨hcw1, hfw1⟩ := bcell hbw1; have hzw1 := hbw1.size; (try simp at hzw1); have hk0w1 : w.heap.size < w1.heap.size := (by omega); have hk1w1 : w.heap.size + 1 < w1.heap.size := (by omega); have hk2w1 : w.heap.size + 1 + 1 < w1.heap.size := (by omega)
    go_wp2_with fail
    refine (r_Bool5 false _).mono ?_; rintro e w2 ⟨rfl, hbw2⟩; obtain ⟨hcw2, hfw2⟩ := bcell hbw2; have hzw2 := hbw2.size; (try simp at hzw2); have hk0w2 : w.heap.size < w2.heap.size := (by omega); have hk1w2 : w.heap.size + 1 < w2.heap.size := (by omega); have hk2w2 : w.heap.size + 1 + 1 < w2.heap.size := (by omega)
    go_wp2
    exact bodyPost_ret (v := ov 3 0 ⟨#[]⟩ 0) (by simp [results, Tryz.results38, go_sem, *]) rfl ⟨ret_v (by rw [show cmpO 12 (-1) = bo false from rfl]; rfl), by repeat (first | exact Below.refl _ _ | assumption | exact Go.Proofs.YtdipalinddfekaaGreatDoor.V.below_drewN _ _ | (refine bel_trans ?_ (Go.Proofs.YtdipalinddfekaaGreatDoor.V.below_drewN _ _)) | (refine bel_trans ?_ (by assumption)) | (with_reducible apply bel_alloc) | (with_reducible apply Below.drew) | apply bel_alloc | apply Below.drew | refine bel_set ?_ (by simp; try omega) _)⟩
  · go_enter Tryz.func38, Tryz.ntmps38
    go_wp2_with fail
    refine (hC _).mono ?_; rintro e w1 ⟨rfl, hbw1⟩; obtain ⟨hcw1, hfw1⟩ := bcell hbw1; have hzw1 := hbw1.size; (try simp at hzw1); have hk0w1 : w.heap.size < w1.heap.size := (by omega); have hk1w1 : w.heap.size + 1 < w1.heap.size := (by omega); have hk2w1 : w.heap.size + 1 + 1 < w1.heap.size := (by omega)
    go_wp2_with fail
    refine (r_Bool5 true _).mono ?_; rintro e w2 ⟨rfl, hbw2⟩; obtain ⟨hcw2, hfw2⟩ := bcell hbw2; have hzw2 := hbw2.size; (try simp at hzw2); have hk0w2 : w.heap.size < w2.heap.size := (by omega); have hk1w2 : w.heap.size + 1 < w2.heap.size := (by omega); have hk2w2 : w.heap.size + 1 + 1 < w2.heap.size := (by omega)
    go_wp2
    exact bodyPost_ret (v := ov 3 1 ⟨#[]⟩ 0) (by simp [results, Tryz.results38, go_sem, *]) rfl ⟨ret_v (by rw [show cmpO 12 (0) = bo true from rfl]; rfl), by repeat (first | exact Below.refl _ _ | assumption | exact Go.Proofs.YtdipalinddfekaaGreatDoor.V.below_drewN _ _ | (refine bel_trans ?_ (Go.Proofs.YtdipalinddfekaaGreatDoor.V.below_drewN _ _)) | (refine bel_trans ?_ (by assumption)) | (with_reducible apply bel_alloc) | (with_reducible apply Below.drew) | apply bel_alloc | apply Below.drew | refine bel_set ?_ (by simp; try omega) _)⟩
  · go_enter Tryz.func38, Tryz.ntmps38
    go_wp2_with fail
    refine (hC _).mono ?_; rintro e w1 ⟨rfl, hbw1⟩; obtain ⟨hcw1, hfw1⟩ := bcell hbw1; have hzw1 := hbw1.size; (try simp at hzw1); have hk0w1 : w.heap.size < w1.heap.size := (by omega); have hk1w1 : w.heap.size + 1 < w1.heap.size := (by omega); have hk2w1 : w.heap.size + 1 + 1 < w1.heap.size := (by omega)
    go_wp2_with fail
    refine (r_Bool5 false _).mono ?_; rintro e w2 ⟨rfl, hbw2⟩; obtain ⟨hcw2, hfw2⟩ := bcell hbw2; have hzw2 := hbw2.size; (try simp at hzw2); have hk0w2 : w.heap.size < w2.heap.size := (by omega); have hk1w2 : w.heap.size + 1 < w2.heap.size := (by omega); have hk2w2 : w.heap.size + 1 + 1 < w2.heap.size := (by omega)
    go_wp2
    exact bodyPost_ret (v := ov 3 0 ⟨#[]⟩ 0) (by simp [results, Tryz.results38, go_sem, *]) rfl ⟨ret_v (by rw [show cmpO 12 (1) = bo false from rfl]; rfl), by repeat (first | exact Below.refl _ _ | assumption | exact Go.Proofs.YtdipalinddfekaaGreatDoor.V.below_drewN _ _ | (refine bel_trans ?_ (Go.Proofs.YtdipalinddfekaaGreatDoor.V.below_drewN _ _)) | (refine bel_trans ?_ (by assumption)) | (with_reducible apply bel_alloc) | (with_reducible apply Below.drew) | apply bel_alloc | apply Below.drew | refine bel_set ?_ (by simp; try omega) _)⟩
set_option maxRecDepth 100000 in
set_option maxHeartbeats 4000000 in
theorem r_cmp13 (k n : Int) (s : ByteArray) (k' n' : Int) (s' : ByteArray) (x : Int) (hx : x = -1 ∨ x = 0 ∨ x = 1) (hC : ∀ w, Ret 74 #[val k n s, val k' n' s'] w (.int .i64 x)) (w : World) :
    Ret 38 #[.int .u8 13, val k n s, val k' n' s'] w (enc (cmpO 13 x)) := by
  rcases hx with rfl | rfl | rfl
  · go_enter Tryz.func38, Tryz.ntmps38
    go_wp2_with fail
    refine (hC _).mono ?_; rintro e w1 ⟨rfl, hbw1⟩; obtain ⟨hcw1, hfw1⟩ := bcell hbw1; have hzw1 := hbw1.size; (try simp at hzw1); have hk0w1 : w.heap.size < w1.heap.size := (by omega); have hk1w1 : w.heap.size + 1 < w1.heap.size := (by omega); have hk2w1 : w.heap.size + 1 + 1 < w1.heap.size := (by omega)
    go_wp2_with fail
    refine (r_Bool5 true _).mono ?_; rintro e w2 ⟨rfl, hbw2⟩; obtain ⟨hcw2, hfw2⟩ := bcell hbw2; have hzw2 := hbw2.size; (try simp at hzw2); have hk0w2 : w.heap.size < w2.heap.size := (by omega); have hk1w2 : w.heap.size + 1 < w2.heap.size := (by omega); have hk2w2 : w.heap.size + 1 + 1 < w2.heap.size := (by omega)
    go_wp2
    exact bodyPost_ret (v := ov 3 1 ⟨#[]⟩ 0) (by simp [results, Tryz.results38, go_sem, *]) rfl ⟨ret_v (by rw [show cmpO 13 (-1) = bo true from rfl]; rfl), by repeat (first | exact Below.refl _ _ | assumption | exact Go.Proofs.YtdipalinddfekaaGreatDoor.V.below_drewN _ _ | (refine bel_trans ?_ (Go.Proofs.YtdipalinddfekaaGreatDoor.V.below_drewN _ _)) | (refine bel_trans ?_ (by assumption)) | (with_reducible apply bel_alloc) | (with_reducible apply Below.drew) | apply bel_alloc | apply Below.drew | refine bel_set ?_ (by simp; try omega) _)⟩
  · go_enter Tryz.func38, Tryz.ntmps38
    go_wp2_with fail
    refine (hC _).mono ?_; rintro e w1 ⟨rfl, hbw1⟩; obtain ⟨hcw1, hfw1⟩ := bcell hbw1; have hzw1 := hbw1.size; (try simp at hzw1); have hk0w1 : w.heap.size < w1.heap.size := (by omega); have hk1w1 : w.heap.size + 1 < w1.heap.size := (by omega); have hk2w1 : w.heap.size + 1 + 1 < w1.heap.size := (by omega)
    go_wp2_with fail
    refine (r_Bool5 false _).mono ?_; rintro e w2 ⟨rfl, hbw2⟩; obtain ⟨hcw2, hfw2⟩ := bcell hbw2; have hzw2 := hbw2.size; (try simp at hzw2); have hk0w2 : w.heap.size < w2.heap.size := (by omega); have hk1w2 : w.heap.size + 1 < w2.heap.size := (by omega); have hk2w2 : w.heap.size + 1 + 1 < w2.heap.size := (by omega)
    go_wp2
    exact bodyPost_ret (v := ov 3 0 ⟨#[]⟩ 0) (by simp [results, Tryz.results38, go_sem, *]) rfl ⟨ret_v (by rw [show cmpO 13 (0) = bo false from rfl]; rfl), by repeat (first | exact Below.refl _ _ | assumption | exact Go.Proofs.YtdipalinddfekaaGreatDoor.V.below_drewN _ _ | (refine bel_trans ?_ (Go.Proofs.YtdipalinddfekaaGreatDoor.V.below_drewN _ _)) | (refine bel_trans ?_ (by assumption)) | (with_reducible apply bel_alloc) | (with_reducible apply Below.drew) | apply bel_alloc | apply Below.drew | refine bel_set ?_ (by simp; try omega) _)⟩
  · go_enter Tryz.func38, Tryz.ntmps38
    go_wp2_with fail
    refine (hC _).mono ?_; rintro e w1 ⟨rfl, hbw1⟩; obtain ⟨hcw1, hfw1⟩ := bcell hbw1; have hzw1 := hbw1.size; (try simp at hzw1); have hk0w1 : w.heap.size < w1.heap.size := (by omega); have hk1w1 : w.heap.size + 1 < w1.heap.size := (by omega); have hk2w1 : w.heap.size + 1 + 1 < w1.heap.size := (by omega)
    go_wp2_with fail
    refine (r_Bool5 true _).mono ?_; rintro e w2 ⟨rfl, hbw2⟩; obtain ⟨hcw2, hfw2⟩ := bcell hbw2; have hzw2 := hbw2.size; (try simp at hzw2); have hk0w2 : w.heap.size < w2.heap.size := (by omega); have hk1w2 : w.heap.size + 1 < w2.heap.size := (by omega); have hk2w2 : w.heap.size + 1 + 1 < w2.heap.size := (by omega)
    go_wp2
    exact bodyPost_ret (v := ov 3 1 ⟨#[]⟩ 0) (by simp [results, Tryz.results38, go_sem, *]) rfl ⟨ret_v (by rw [show cmpO 13 (1) = bo true from rfl]; rfl), by repeat (first | exact Below.refl _ _ | assumption | exact Go.Proofs.YtdipalinddfekaaGreatDoor.V.below_drewN _ _ | (refine bel_trans ?_ (Go.Proofs.YtdipalinddfekaaGreatDoor.V.below_drewN _ _)) | (refine bel_trans ?_ (by assumption)) | (with_reducible apply bel_alloc) | (with_reducible apply Below.drew) | apply bel_alloc | apply Below.drew | refine bel_set ?_ (by simp; try omega) _)⟩
set_option maxRecDepth 100000 in
set_option maxHeartbeats 4000000 in
theorem r_cmp14 (k n : Int) (s : ByteArray) (k' n' : Int) (s' : ByteArray) (x : Int) (hx : x = -1 ∨ x = 0 ∨ x = 1) (hC : ∀ w, Ret 74 #[val k n s, val k' n' s'] w (.int .i64 x)) (w : World) :
    Ret 38 #[.int .u8 14, val k n s, val k' n' s'] w (enc (cmpO 14 x)) := by
  rcases hx with rfl | rfl | rfl
  · go_enter Tryz.func38, Tryz.ntmps38
    go_wp2_with fail
    refine (hC _).mono ?_; rintro e w1 ⟨rfl, hbw1⟩; obtain ⟨hcw1, hfw1⟩ := bcell hbw1; have hzw1 := hbw1.size; (try simp at hzw1); have hk0w1 : w.heap.size < w1.heap.size := (by omega); have hk1w1 : w.heap.size + 1 < w1.heap.size := (by omega); have hk2w1 : w.heap.size + 1 + 1 < w1.heap.size := (by omega)
    go_wp2_with fail
    refine (r_Bool5 true _).mono ?_; rintro e w2 ⟨rfl, hbw2⟩; obtain ⟨hcw2, hfw2⟩ := bcell hbw2; have hzw2 := hbw2.size; (try simp at hzw2); have hk0w2 : w.heap.size < w2.heap.size := (by omega); have hk1w2 : w.heap.size + 1 < w2.heap.size := (by omega); have hk2w2 : w.heap.size + 1 + 1 < w2.heap.size := (by omega)
    go_wp2
    exact bodyPost_ret (v := ov 3 1 ⟨#[]⟩ 0) (by simp [results, Tryz.results38, go_sem, *]) rfl ⟨ret_v (by rw [show cmpO 14 (-1) = bo true from rfl]; rfl), by repeat (first | exact Below.refl _ _ | assumption | exact Go.Proofs.YtdipalinddfekaaGreatDoor.V.below_drewN _ _ | (refine bel_trans ?_ (Go.Proofs.YtdipalinddfekaaGreatDoor.V.below_drewN _ _)) | (refine bel_trans ?_ (by assumption)) | (with_reducible apply bel_alloc) | (with_reducible apply Below.drew) | apply bel_alloc | apply Below.drew | refine bel_set ?_ (by simp; try omega) _)⟩
  · go_enter Tryz.func38, Tryz.ntmps38
    go_wp2_with fail
    refine (hC _).mono ?_; rintro e w1 ⟨rfl, hbw1⟩; obtain ⟨hcw1, hfw1⟩ := bcell hbw1; have hzw1 := hbw1.size; (try simp at hzw1); have hk0w1 : w.heap.size < w1.heap.size := (by omega); have hk1w1 : w.heap.size + 1 < w1.heap.size := (by omega); have hk2w1 : w.heap.size + 1 + 1 < w1.heap.size := (by omega)
    go_wp2_with fail
    refine (r_Bool5 false _).mono ?_; rintro e w2 ⟨rfl, hbw2⟩; obtain ⟨hcw2, hfw2⟩ := bcell hbw2; have hzw2 := hbw2.size; (try simp at hzw2); have hk0w2 : w.heap.size < w2.heap.size := (by omega); have hk1w2 : w.heap.size + 1 < w2.heap.size := (by omega); have hk2w2 : w.heap.size + 1 + 1 < w2.heap.size := (by omega)
    go_wp2
    exact bodyPost_ret (v := ov 3 0 ⟨#[]⟩ 0) (by simp [results, Tryz.results38, go_sem, *]) rfl ⟨ret_v (by rw [show cmpO 14 (0) = bo false from rfl]; rfl), by repeat (first | exact Below.refl _ _ | assumption | exact Go.Proofs.YtdipalinddfekaaGreatDoor.V.below_drewN _ _ | (refine bel_trans ?_ (Go.Proofs.YtdipalinddfekaaGreatDoor.V.below_drewN _ _)) | (refine bel_trans ?_ (by assumption)) | (with_reducible apply bel_alloc) | (with_reducible apply Below.drew) | apply bel_alloc | apply Below.drew | refine bel_set ?_ (by simp; try omega) _)⟩
  · go_enter Tryz.func38, Tryz.ntmps38
    go_wp2_with fail
    refine (hC _).mono ?_; rintro e w1 ⟨rfl, hbw1⟩; obtain ⟨hcw1, hfw1⟩ := bcell hbw1; have hzw1 := hbw1.size; (try simp at hzw1); have hk0w1 : w.heap.size < w1.heap.size := (by omega); have hk1w1 : w.heap.size + 1 < w1.heap.size := (by omega); have hk2w1 : w.heap.size + 1 + 1 < w1.heap.size := (by omega)
    go_wp2_with fail
    refine (r_Bool5 false _).mono ?_; rintro e w2 ⟨rfl, hbw2⟩; obtain ⟨hcw2, hfw2⟩ := bcell hbw2; have hzw2 := hbw2.size; (try simp at hzw2); have hk0w2 : w.heap.size < w2.heap.size := (by omega); have hk1w2 : w.heap.size + 1 < w2.heap.size := (by omega); have hk2w2 : w.heap.size + 1 + 1 < w2.heap.size := (by omega)
    go_wp2
    exact bodyPost_ret (v := ov 3 0 ⟨#[]⟩ 0) (by simp [results, Tryz.results38, go_sem, *]) rfl ⟨ret_v (by rw [show cmpO 14 (1) = bo false from rfl]; rfl), by repeat (first | exact Below.refl _ _ | assumption | exact Go.Proofs.YtdipalinddfekaaGreatDoor.V.below_drewN _ _ | (refine bel_trans ?_ (Go.Proofs.YtdipalinddfekaaGreatDoor.V.below_drewN _ _)) | (refine bel_trans ?_ (by assumption)) | (with_reducible apply bel_alloc) | (with_reducible apply Below.drew) | apply bel_alloc | apply Below.drew | refine bel_set ?_ (by simp; try omega) _)⟩
set_option maxRecDepth 100000 in
set_option maxHeartbeats 4000000 in
theorem r_cmp15 (k n : Int) (s : ByteArray) (k' n' : Int) (s' : ByteArray) (x : Int) (hx : x = -1 ∨ x = 0 ∨ x = 1) (hC : ∀ w, Ret 74 #[val k n s, val k' n' s'] w (.int .i64 x)) (w : World) :
    Ret 38 #[.int .u8 15, val k n s, val k' n' s'] w (enc (cmpO 15 x)) := by
  rcases hx with rfl | rfl | rfl
  · go_enter Tryz.func38, Tryz.ntmps38
    go_wp2_with fail
    refine (hC _).mono ?_; rintro e w1 ⟨rfl, hbw1⟩; obtain ⟨hcw1, hfw1⟩ := bcell hbw1; have hzw1 := hbw1.size; (try simp at hzw1); have hk0w1 : w.heap.size < w1.heap.size := (by omega); have hk1w1 : w.heap.size + 1 < w1.heap.size := (by omega); have hk2w1 : w.heap.size + 1 + 1 < w1.heap.size := (by omega)
    go_wp2_with fail
    refine (r_Bool5 true _).mono ?_; rintro e w2 ⟨rfl, hbw2⟩; obtain ⟨hcw2, hfw2⟩ := bcell hbw2; have hzw2 := hbw2.size; (try simp at hzw2); have hk0w2 : w.heap.size < w2.heap.size := (by omega); have hk1w2 : w.heap.size + 1 < w2.heap.size := (by omega); have hk2w2 : w.heap.size + 1 + 1 < w2.heap.size := (by omega)
    go_wp2
    exact bodyPost_ret (v := ov 3 1 ⟨#[]⟩ 0) (by simp [results, Tryz.results38, go_sem, *]) rfl ⟨ret_v (by rw [show cmpO 15 (-1) = bo true from rfl]; rfl), by repeat (first | exact Below.refl _ _ | assumption | exact Go.Proofs.YtdipalinddfekaaGreatDoor.V.below_drewN _ _ | (refine bel_trans ?_ (Go.Proofs.YtdipalinddfekaaGreatDoor.V.below_drewN _ _)) | (refine bel_trans ?_ (by assumption)) | (with_reducible apply bel_alloc) | (with_reducible apply Below.drew) | apply bel_alloc | apply Below.drew | refine bel_set ?_ (by simp; try omega) _)⟩
  · go_enter Tryz.func38, Tryz.ntmps38
    go_wp2_with fail
    refine (hC _).mono ?_; rintro e w1 ⟨rfl, hbw1⟩; obtain ⟨hcw1, hfw1⟩ := bcell hbw1; have hzw1 := hbw1.size; (try simp at hzw1); have hk0w1 : w.heap.size < w1.heap.size := (by omega); have hk1w1 : w.heap.size + 1 < w1.heap.size := (by omega); have hk2w1 : w.heap.size + 1 + 1 < w1.heap.size := (by omega)
    go_wp2_with fail
    refine (r_Bool5 true _).mono ?_; rintro e w2 ⟨rfl, hbw2⟩; obtain ⟨hcw2, hfw2⟩ := bcell hbw2; have hzw2 := hbw2.size; (try simp at hzw2); have hk0w2 : w.heap.size < w2.heap.size := (by omega); have hk1w2 : w.heap.size + 1 < w2.heap.size := (by omega); have hk2w2 : w.heap.size + 1 + 1 < w2.heap.size := (by omega)
    go_wp2
    exact bodyPost_ret (v := ov 3 1 ⟨#[]⟩ 0) (by simp [results, Tryz.results38, go_sem, *]) rfl ⟨ret_v (by rw [show cmpO 15 (0) = bo true from rfl]; rfl), by repeat (first | exact Below.refl _ _ | assumption | exact Go.Proofs.YtdipalinddfekaaGreatDoor.V.below_drewN _ _ | (refine bel_trans ?_ (Go.Proofs.YtdipalinddfekaaGreatDoor.V.below_drewN _ _)) | (refine bel_trans ?_ (by assumption)) | (with_reducible apply bel_alloc) | (with_reducible apply Below.drew) | apply bel_alloc | apply Below.drew | refine bel_set ?_ (by simp; try omega) _)⟩
  · go_enter Tryz.func38, Tryz.ntmps38
    go_wp2_with fail
    refine (hC _).mono ?_; rintro e w1 ⟨rfl, hbw1⟩; obtain ⟨hcw1, hfw1⟩ := bcell hbw1; have hzw1 := hbw1.size; (try simp at hzw1); have hk0w1 : w.heap.size < w1.heap.size := (by omega); have hk1w1 : w.heap.size + 1 < w1.heap.size := (by omega); have hk2w1 : w.heap.size + 1 + 1 < w1.heap.size := (by omega)
    go_wp2_with fail
    refine (r_Bool5 false _).mono ?_; rintro e w2 ⟨rfl, hbw2⟩; obtain ⟨hcw2, hfw2⟩ := bcell hbw2; have hzw2 := hbw2.size; (try simp at hzw2); have hk0w2 : w.heap.size < w2.heap.size := (by omega); have hk1w2 : w.heap.size + 1 < w2.heap.size := (by omega); have hk2w2 : w.heap.size + 1 + 1 < w2.heap.size := (by omega)
    go_wp2
    exact bodyPost_ret (v := ov 3 0 ⟨#[]⟩ 0) (by simp [results, Tryz.results38, go_sem, *]) rfl ⟨ret_v (by rw [show cmpO 15 (1) = bo false from rfl]; rfl), by repeat (first | exact Below.refl _ _ | assumption | exact Go.Proofs.YtdipalinddfekaaGreatDoor.V.below_drewN _ _ | (refine bel_trans ?_ (Go.Proofs.YtdipalinddfekaaGreatDoor.V.below_drewN _ _)) | (refine bel_trans ?_ (by assumption)) | (with_reducible apply bel_alloc) | (with_reducible apply Below.drew) | apply bel_alloc | apply Below.drew | refine bel_set ?_ (by simp; try omega) _)⟩
set_option maxRecDepth 100000 in
set_option maxHeartbeats 4000000 in
theorem r_cmp16 (k n : Int) (s : ByteArray) (k' n' : Int) (s' : ByteArray) (x : Int) (hx : x = -1 ∨ x = 0 ∨ x = 1) (hC : ∀ w, Ret 74 #[val k n s, val k' n' s'] w (.int .i64 x)) (w : World) :
    Ret 38 #[.int .u8 16, val k n s, val k' n' s'] w (enc (cmpO 16 x)) := by
  rcases hx with rfl | rfl | rfl
  · go_enter Tryz.func38, Tryz.ntmps38
    go_wp2_with fail
    refine (hC _).mono ?_; rintro e w1 ⟨rfl, hbw1⟩; obtain ⟨hcw1, hfw1⟩ := bcell hbw1; have hzw1 := hbw1.size; (try simp at hzw1); have hk0w1 : w.heap.size < w1.heap.size := (by omega); have hk1w1 : w.heap.size + 1 < w1.heap.size := (by omega); have hk2w1 : w.heap.size + 1 + 1 < w1.heap.size := (by omega)
    go_wp2_with fail
    refine (r_Bool5 false _).mono ?_; rintro e w2 ⟨rfl, hbw2⟩; obtain ⟨hcw2, hfw2⟩ := bcell hbw2; have hzw2 := hbw2.size; (try simp at hzw2); have hk0w2 : w.heap.size < w2.heap.size := (by omega); have hk1w2 : w.heap.size + 1 < w2.heap.size := (by omega); have hk2w2 : w.heap.size + 1 + 1 < w2.heap.size := (by omega)
    go_wp2
    exact bodyPost_ret (v := ov 3 0 ⟨#[]⟩ 0) (by simp [results, Tryz.results38, go_sem, *]) rfl ⟨ret_v (by rw [show cmpO 16 (-1) = bo false from rfl]; rfl), by repeat (first | exact Below.refl _ _ | assumption | exact Go.Proofs.YtdipalinddfekaaGreatDoor.V.below_drewN _ _ | (refine bel_trans ?_ (Go.Proofs.YtdipalinddfekaaGreatDoor.V.below_drewN _ _)) | (refine bel_trans ?_ (by assumption)) | (with_reducible apply bel_alloc) | (with_reducible apply Below.drew) | apply bel_alloc | apply Below.drew | refine bel_set ?_ (by simp; try omega) _)⟩
  · go_enter Tryz.func38, Tryz.ntmps38
    go_wp2_with fail
    refine (hC _).mono ?_; rintro e w1 ⟨rfl, hbw1⟩; obtain ⟨hcw1, hfw1⟩ := bcell hbw1; have hzw1 := hbw1.size; (try simp at hzw1); have hk0w1 : w.heap.size < w1.heap.size := (by omega); have hk1w1 : w.heap.size + 1 < w1.heap.size := (by omega); have hk2w1 : w.heap.size + 1 + 1 < w1.heap.size := (by omega)
    go_wp2_with fail
    refine (r_Bool5 false _).mono ?_; rintro e w2 ⟨rfl, hbw2⟩; obtain ⟨hcw2, hfw2⟩ := bcell hbw2; have hzw2 := hbw2.size; (try simp at hzw2); have hk0w2 : w.heap.size < w2.heap.size := (by omega); have hk1w2 : w.heap.size + 1 < w2.heap.size := (by omega); have hk2w2 : w.heap.size + 1 + 1 < w2.heap.size := (by omega)
    go_wp2
    exact bodyPost_ret (v := ov 3 0 ⟨#[]⟩ 0) (by simp [results, Tryz.results38, go_sem, *]) rfl ⟨ret_v (by rw [show cmpO 16 (0) = bo false from rfl]; rfl), by repeat (first | exact Below.refl _ _ | assumption | exact Go.Proofs.YtdipalinddfekaaGreatDoor.V.below_drewN _ _ | (refine bel_trans ?_ (Go.Proofs.YtdipalinddfekaaGreatDoor.V.below_drewN _ _)) | (refine bel_trans ?_ (by assumption)) | (with_reducible apply bel_alloc) | (with_reducible apply Below.drew) | apply bel_alloc | apply Below.drew | refine bel_set ?_ (by simp; try omega) _)⟩
  · go_enter Tryz.func38, Tryz.ntmps38
    go_wp2_with fail
    refine (hC _).mono ?_; rintro e w1 ⟨rfl, hbw1⟩; obtain ⟨hcw1, hfw1⟩ := bcell hbw1; have hzw1 := hbw1.size; (try simp at hzw1); have hk0w1 : w.heap.size < w1.heap.size := (by omega); have hk1w1 : w.heap.size + 1 < w1.heap.size := (by omega); have hk2w1 : w.heap.size + 1 + 1 < w1.heap.size := (by omega)
    go_wp2_with fail
    refine (r_Bool5 true _).mono ?_; rintro e w2 ⟨rfl, hbw2⟩; obtain ⟨hcw2, hfw2⟩ := bcell hbw2; have hzw2 := hbw2.size; (try simp at hzw2); have hk0w2 : w.heap.size < w2.heap.size := (by omega); have hk1w2 : w.heap.size + 1 < w2.heap.size := (by omega); have hk2w2 : w.heap.size + 1 + 1 < w2.heap.size := (by omega)
    go_wp2
    exact bodyPost_ret (v := ov 3 1 ⟨#[]⟩ 0) (by simp [results, Tryz.results38, go_sem, *]) rfl ⟨ret_v (by rw [show cmpO 16 (1) = bo true from rfl]; rfl), by repeat (first | exact Below.refl _ _ | assumption | exact Go.Proofs.YtdipalinddfekaaGreatDoor.V.below_drewN _ _ | (refine bel_trans ?_ (Go.Proofs.YtdipalinddfekaaGreatDoor.V.below_drewN _ _)) | (refine bel_trans ?_ (by assumption)) | (with_reducible apply bel_alloc) | (with_reducible apply Below.drew) | apply bel_alloc | apply Below.drew | refine bel_set ?_ (by simp; try omega) _)⟩
set_option maxRecDepth 100000 in
set_option maxHeartbeats 4000000 in
theorem r_cmp17 (k n : Int) (s : ByteArray) (k' n' : Int) (s' : ByteArray) (x : Int) (hx : x = -1 ∨ x = 0 ∨ x = 1) (hC : ∀ w, Ret 74 #[val k n s, val k' n' s'] w (.int .i64 x)) (w : World) :
    Ret 38 #[.int .u8 17, val k n s, val k' n' s'] w (enc (cmpO 17 x)) := by
  rcases hx with rfl | rfl | rfl
  · go_enter Tryz.func38, Tryz.ntmps38
    go_wp2_with fail
    refine (hC _).mono ?_; rintro e w1 ⟨rfl, hbw1⟩; obtain ⟨hcw1, hfw1⟩ := bcell hbw1; have hzw1 := hbw1.size; (try simp at hzw1); have hk0w1 : w.heap.size < w1.heap.size := (by omega); have hk1w1 : w.heap.size + 1 < w1.heap.size := (by omega); have hk2w1 : w.heap.size + 1 + 1 < w1.heap.size := (by omega)
    go_wp2_with fail
    refine (r_Bool5 false _).mono ?_; rintro e w2 ⟨rfl, hbw2⟩; obtain ⟨hcw2, hfw2⟩ := bcell hbw2; have hzw2 := hbw2.size; (try simp at hzw2); have hk0w2 : w.heap.size < w2.heap.size := (by omega); have hk1w2 : w.heap.size + 1 < w2.heap.size := (by omega); have hk2w2 : w.heap.size + 1 + 1 < w2.heap.size := (by omega)
    go_wp2
    exact bodyPost_ret (v := ov 3 0 ⟨#[]⟩ 0) (by simp [results, Tryz.results38, go_sem, *]) rfl ⟨ret_v (by rw [show cmpO 17 (-1) = bo false from rfl]; rfl), by repeat (first | exact Below.refl _ _ | assumption | exact Go.Proofs.YtdipalinddfekaaGreatDoor.V.below_drewN _ _ | (refine bel_trans ?_ (Go.Proofs.YtdipalinddfekaaGreatDoor.V.below_drewN _ _)) | (refine bel_trans ?_ (by assumption)) | (with_reducible apply bel_alloc) | (with_reducible apply Below.drew) | apply bel_alloc | apply Below.drew | refine bel_set ?_ (by simp; try omega) _)⟩
  · go_enter Tryz.func38, Tryz.ntmps38
    go_wp2_with fail
    refine (hC _).mono ?_; rintro e w1 ⟨rfl, hbw1⟩; obtain ⟨hcw1, hfw1⟩ := bcell hbw1; have hzw1 := hbw1.size; (try simp at hzw1); have hk0w1 : w.heap.size < w1.heap.size := (by omega); have hk1w1 : w.heap.size + 1 < w1.heap.size := (by omega); have hk2w1 : w.heap.size + 1 + 1 < w1.heap.size := (by omega)
    go_wp2_with fail
    refine (r_Bool5 true _).mono ?_; rintro e w2 ⟨rfl, hbw2⟩; obtain ⟨hcw2, hfw2⟩ := bcell hbw2; have hzw2 := hbw2.size; (try simp at hzw2); have hk0w2 : w.heap.size < w2.heap.size := (by omega); have hk1w2 : w.heap.size + 1 < w2.heap.size := (by omega); have hk2w2 : w.heap.size + 1 + 1 < w2.heap.size := (by omega)
    go_wp2
    exact bodyPost_ret (v := ov 3 1 ⟨#[]⟩ 0) (by simp [results, Tryz.results38, go_sem, *]) rfl ⟨ret_v (by rw [show cmpO 17 (0) = bo true from rfl]; rfl), by repeat (first | exact Below.refl _ _ | assumption | exact Go.Proofs.YtdipalinddfekaaGreatDoor.V.below_drewN _ _ | (refine bel_trans ?_ (Go.Proofs.YtdipalinddfekaaGreatDoor.V.below_drewN _ _)) | (refine bel_trans ?_ (by assumption)) | (with_reducible apply bel_alloc) | (with_reducible apply Below.drew) | apply bel_alloc | apply Below.drew | refine bel_set ?_ (by simp; try omega) _)⟩
  · go_enter Tryz.func38, Tryz.ntmps38
    go_wp2_with fail
    refine (hC _).mono ?_; rintro e w1 ⟨rfl, hbw1⟩; obtain ⟨hcw1, hfw1⟩ := bcell hbw1; have hzw1 := hbw1.size; (try simp at hzw1); have hk0w1 : w.heap.size < w1.heap.size := (by omega); have hk1w1 : w.heap.size + 1 < w1.heap.size := (by omega); have hk2w1 : w.heap.size + 1 + 1 < w1.heap.size := (by omega)
    go_wp2_with fail
    refine (r_Bool5 true _).mono ?_; rintro e w2 ⟨rfl, hbw2⟩; obtain ⟨hcw2, hfw2⟩ := bcell hbw2; have hzw2 := hbw2.size; (try simp at hzw2); have hk0w2 : w.heap.size < w2.heap.size := (by omega); have hk1w2 : w.heap.size + 1 < w2.heap.size := (by omega); have hk2w2 : w.heap.size + 1 + 1 < w2.heap.size := (by omega)
    go_wp2
    exact bodyPost_ret (v := ov 3 1 ⟨#[]⟩ 0) (by simp [results, Tryz.results38, go_sem, *]) rfl ⟨ret_v (by rw [show cmpO 17 (1) = bo true from rfl]; rfl), by repeat (first | exact Below.refl _ _ | assumption | exact Go.Proofs.YtdipalinddfekaaGreatDoor.V.below_drewN _ _ | (refine bel_trans ?_ (Go.Proofs.YtdipalinddfekaaGreatDoor.V.below_drewN _ _)) | (refine bel_trans ?_ (by assumption)) | (with_reducible apply bel_alloc) | (with_reducible apply Below.drew) | apply bel_alloc | apply Below.drew | refine bel_set ?_ (by simp; try omega) _)⟩
end Go.Proofs.YtdipalinddfekaaGreatDoor.U
namespace Go.Proofs.YtdipalinddfekaaGreatDoor.M
theorem mt_append (q : List UInt8) : ∀ (p t : List UInt8), mt t (p ++ q) = true ↔ ∃ t1 t2, t = t1 ++ t2 ∧ mt t1 p = true ∧ mt t2 q = true
  | [], t => by
    constructor
    · intro h
      exact ⟨[], t, rfl, by rw [mt_nil]; rfl, h⟩
    · rintro ⟨t1, t2, rfl, h1, h2⟩
      rw [mt_nil] at h1
      cases t1 with
      | nil => exact h2
      | cons => cases h1
  | d :: p, t => by
    by_cases hd : d = 37
    · subst hd
      rw [List.cons_append, star_iff]
      constructor
      · rintro ⟨k, hk, h⟩
        obtain ⟨t1, t2, e, h1, h2⟩ := (mt_append q p _).1 h
        refine ⟨t.take k ++ t1, t2, ?_, ?_, h2⟩
        · rw [List.append_assoc, ← e, List.take_append_drop]
        · rw [star_iff]
          have hl : (t.take k).length = k := by rw [List.length_take]; omega
          refine ⟨k, by rw [List.length_append]; omega, ?_⟩
          rw [List.drop_append_of_le_length (by omega), List.drop_eq_nil_of_le (by omega)]
          exact h1
      · rintro ⟨t1, t2, rfl, h1, h2⟩
        obtain ⟨k, hk, h⟩ := (star_iff p t1).1 h1
        refine ⟨k, by rw [List.length_append]; omega, ?_⟩
        rw [List.drop_append_of_le_length hk]
        exact (mt_append q p _).2 ⟨_, _, rfl, h, h2⟩
    · cases t with
      | nil =>
        rw [List.cons_append, mt_end, if_neg hd]
        constructor
        · intro h; cases h
        · rintro ⟨t1, t2, e, h1, _⟩
          obtain ⟨rfl, rfl⟩ := List.append_eq_nil_iff.1 e.symm
          rw [mt_end, if_neg hd] at h1
          cases h1
      | cons c t =>
        rw [List.cons_append, mt_char c d t _ hd]
        split
        · rename_i hc
          rw [mt_append q p t]
          constructor
          · rintro ⟨t1, t2, rfl, h1, h2⟩
            exact ⟨c :: t1, t2, rfl, by rw [mt_char c d t1 p hd, if_pos hc]; exact h1, h2⟩
          · rintro ⟨t1, t2, e, h1, h2⟩
            cases t1 with
            | nil => rw [mt_end, if_neg hd] at h1; cases h1
            | cons c' t1 =>
              obtain ⟨rfl, rfl⟩ := List.cons.inj e
              rw [mt_char c d t1 p hd, if_pos hc] at h1
              exact ⟨t1, t2, rfl, h1, h2⟩
        · rename_i hc
          constructor
          · intro h; cases h
          · rintro ⟨t1, t2, e, h1, _⟩
            cases t1 with
            | nil => rw [mt_end, if_neg hd] at h1; cases h1
            | cons c' t1 =>
              obtain ⟨rfl, rfl⟩ := List.cons.inj e
              rw [mt_char c d t1 p hd, if_neg hc] at h1
              cases h1
theorem mt_any (t : List UInt8) : mt t [37] = true := by
  rw [star_iff]
  exact ⟨t.length, Nat.le_refl _, by rw [List.drop_length, mt_nil]; rfl⟩
theorem mt_one (t : List UInt8) (d : UInt8) (hd : d ≠ 37) : mt t [d] = true ↔ ∃ c, t = [c] ∧ (d = 95 ∨ d = c) := by
  cases t with
  | nil => rw [mt_end, if_neg hd]; simp
  | cons c t =>
    rw [mt_char c d t [] hd]
    split
    · rename_i hc
      rw [mt_nil]
      cases t with
      | nil => simp [hc]
      | cons => simp
    · rename_i hc
      constructor
      · intro h; cases h
      · rintro ⟨c', e, h⟩
        obtain ⟨rfl, -⟩ := List.cons.inj e
        exact absurd h hc
/-- The next column: what the DP says. -/
theorem snoc_star (T P : List UInt8) (c : UInt8) : mt (T ++ [c]) (P ++ [37]) = (mt (T ++ [c]) P || mt T (P ++ [37])) := by
  rw [Bool.eq_iff_iff, Bool.or_eq_true, mt_append, mt_append]
  constructor
  · rintro ⟨t1, t2, e, h1, _⟩
    rcases List.eq_nil_or_concat t2 with rfl | ⟨t3, c', rfl⟩
    · left; rw [e, List.append_nil]; exact h1
    · right
      rw [List.concat_eq_append, ← List.append_assoc] at e
      have := List.append_inj_left' e rfl
      exact ⟨t1, t3, this, h1, mt_any _⟩
  · rintro (h | ⟨t1, t2, rfl, h1, _⟩)
    · exact ⟨_, [], (List.append_nil _).symm, h, mt_any _⟩
    · exact ⟨t1, t2 ++ [c], by rw [List.append_assoc], h1, mt_any _⟩
theorem snoc_char (T P : List UInt8) (c d : UInt8) (hd : d ≠ 37) : mt (T ++ [c]) (P ++ [d]) = (mt T P && decide (d = 95 ∨ d = c)) := by
  rw [Bool.eq_iff_iff, Bool.and_eq_true, mt_append, decide_eq_true_eq]
  constructor
  · rintro ⟨t1, t2, e, h1, h2⟩
    obtain ⟨c', rfl, hc⟩ := (mt_one t2 d hd).1 h2
    have e1 := List.append_inj_left' e rfl
    have e2 := List.append_inj_right' e rfl
    obtain ⟨rfl, -⟩ := List.cons.inj e2
    subst e1
    exact ⟨h1, hc⟩
  · rintro ⟨h1, h2⟩
    exact ⟨T, [c], rfl, h1, (mt_one _ d hd).2 ⟨c, rfl, h2⟩⟩
theorem snoc_nil (P : List UInt8) (d : UInt8) : mt [] (P ++ [d]) = (mt [] P && decide (d = 37)) := by
  rw [Bool.eq_iff_iff, Bool.and_eq_true, mt_append, decide_eq_true_eq]
  constructor
  · rintro ⟨t1, t2, e, h1, h2⟩
    obtain ⟨rfl, rfl⟩ := List.append_eq_nil_iff.1 e.symm
    by_cases hd : d = 37
    · exact ⟨h1, hd⟩
    · obtain ⟨c, e, _⟩ := (mt_one [] d hd).1 h2
      cases e
  · rintro ⟨h1, rfl⟩
    exact ⟨[], [], rfl, h1, mt_any _⟩
theorem snoc_base (T : List UInt8) (c : UInt8) : mt (T ++ [c]) [] = false := by rw [mt_nil]; cases T <;> rfl
end Go.Proofs.YtdipalinddfekaaGreatDoor.M
