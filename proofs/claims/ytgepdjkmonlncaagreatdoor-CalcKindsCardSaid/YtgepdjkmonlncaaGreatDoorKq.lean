/- The reference's Kind. -/
import Derived.Test.YtgepdjkmonlncaaGreatDoorKp
namespace Go.Proofs.YtgepdjkmonlncaaGreatDoor.K
open Go.ChangeShapes Go.WideShapes Go.ChangeAt Go.RowKit Go.Proofs.YtgepdjkmonlncaaGreatDoor.V
def soV (op : Int) : Value := .tuple #[.int .i64 (sortOf op).1, .int .i64 (sortOf op).2]
theorem so_4 (w : World) : Ret 32 #[.int .u8 4] w (soV 4) := by
  go_enter Tryz.func32, Tryz.ntmps32
  go_wp2
  go_ret2
  exact ⟨rfl, by repeat (first | exact Below.refl _ _ | assumption | (refine bel_trans ?_ (by assumption)) | (with_reducible apply bel_alloc) | (with_reducible apply Below.drew) | apply bel_alloc | apply Below.drew | refine bel_set ?_ (by simp; try omega) _)⟩
theorem so_5 (w : World) : Ret 32 #[.int .u8 5] w (soV 5) := by
  go_enter Tryz.func32, Tryz.ntmps32
  go_wp2
  go_ret2
  exact ⟨rfl, by repeat (first | exact Below.refl _ _ | assumption | (refine bel_trans ?_ (by assumption)) | (with_reducible apply bel_alloc) | (with_reducible apply Below.drew) | apply bel_alloc | apply Below.drew | refine bel_set ?_ (by simp; try omega) _)⟩
theorem so_6 (w : World) : Ret 32 #[.int .u8 6] w (soV 6) := by
  go_enter Tryz.func32, Tryz.ntmps32
  go_wp2
  go_ret2
  exact ⟨rfl, by repeat (first | exact Below.refl _ _ | assumption | (refine bel_trans ?_ (by assumption)) | (with_reducible apply bel_alloc) | (with_reducible apply Below.drew) | apply bel_alloc | apply Below.drew | refine bel_set ?_ (by simp; try omega) _)⟩
theorem so_7 (w : World) : Ret 32 #[.int .u8 7] w (soV 7) := by
  go_enter Tryz.func32, Tryz.ntmps32
  go_wp2
  go_ret2
  exact ⟨rfl, by repeat (first | exact Below.refl _ _ | assumption | (refine bel_trans ?_ (by assumption)) | (with_reducible apply bel_alloc) | (with_reducible apply Below.drew) | apply bel_alloc | apply Below.drew | refine bel_set ?_ (by simp; try omega) _)⟩
theorem so_8 (w : World) : Ret 32 #[.int .u8 8] w (soV 8) := by
  go_enter Tryz.func32, Tryz.ntmps32
  go_wp2
  go_ret2
  exact ⟨rfl, by repeat (first | exact Below.refl _ _ | assumption | (refine bel_trans ?_ (by assumption)) | (with_reducible apply bel_alloc) | (with_reducible apply Below.drew) | apply bel_alloc | apply Below.drew | refine bel_set ?_ (by simp; try omega) _)⟩
theorem so_9 (w : World) : Ret 32 #[.int .u8 9] w (soV 9) := by
  go_enter Tryz.func32, Tryz.ntmps32
  go_wp2
  go_ret2
  exact ⟨rfl, by repeat (first | exact Below.refl _ _ | assumption | (refine bel_trans ?_ (by assumption)) | (with_reducible apply bel_alloc) | (with_reducible apply Below.drew) | apply bel_alloc | apply Below.drew | refine bel_set ?_ (by simp; try omega) _)⟩
theorem so_10 (w : World) : Ret 32 #[.int .u8 10] w (soV 10) := by
  go_enter Tryz.func32, Tryz.ntmps32
  go_wp2
  go_ret2
  exact ⟨rfl, by repeat (first | exact Below.refl _ _ | assumption | (refine bel_trans ?_ (by assumption)) | (with_reducible apply bel_alloc) | (with_reducible apply Below.drew) | apply bel_alloc | apply Below.drew | refine bel_set ?_ (by simp; try omega) _)⟩
theorem so_11 (w : World) : Ret 32 #[.int .u8 11] w (soV 11) := by
  go_enter Tryz.func32, Tryz.ntmps32
  go_wp2
  go_ret2
  exact ⟨rfl, by repeat (first | exact Below.refl _ _ | assumption | (refine bel_trans ?_ (by assumption)) | (with_reducible apply bel_alloc) | (with_reducible apply Below.drew) | apply bel_alloc | apply Below.drew | refine bel_set ?_ (by simp; try omega) _)⟩
theorem so_12 (w : World) : Ret 32 #[.int .u8 12] w (soV 12) := by
  go_enter Tryz.func32, Tryz.ntmps32
  go_wp2
  go_ret2
  exact ⟨rfl, by repeat (first | exact Below.refl _ _ | assumption | (refine bel_trans ?_ (by assumption)) | (with_reducible apply bel_alloc) | (with_reducible apply Below.drew) | apply bel_alloc | apply Below.drew | refine bel_set ?_ (by simp; try omega) _)⟩
theorem so_13 (w : World) : Ret 32 #[.int .u8 13] w (soV 13) := by
  go_enter Tryz.func32, Tryz.ntmps32
  go_wp2
  go_ret2
  exact ⟨rfl, by repeat (first | exact Below.refl _ _ | assumption | (refine bel_trans ?_ (by assumption)) | (with_reducible apply bel_alloc) | (with_reducible apply Below.drew) | apply bel_alloc | apply Below.drew | refine bel_set ?_ (by simp; try omega) _)⟩
theorem so_14 (w : World) : Ret 32 #[.int .u8 14] w (soV 14) := by
  go_enter Tryz.func32, Tryz.ntmps32
  go_wp2
  go_ret2
  exact ⟨rfl, by repeat (first | exact Below.refl _ _ | assumption | (refine bel_trans ?_ (by assumption)) | (with_reducible apply bel_alloc) | (with_reducible apply Below.drew) | apply bel_alloc | apply Below.drew | refine bel_set ?_ (by simp; try omega) _)⟩
theorem so_15 (w : World) : Ret 32 #[.int .u8 15] w (soV 15) := by
  go_enter Tryz.func32, Tryz.ntmps32
  go_wp2
  go_ret2
  exact ⟨rfl, by repeat (first | exact Below.refl _ _ | assumption | (refine bel_trans ?_ (by assumption)) | (with_reducible apply bel_alloc) | (with_reducible apply Below.drew) | apply bel_alloc | apply Below.drew | refine bel_set ?_ (by simp; try omega) _)⟩
theorem so_16 (w : World) : Ret 32 #[.int .u8 16] w (soV 16) := by
  go_enter Tryz.func32, Tryz.ntmps32
  go_wp2
  go_ret2
  exact ⟨rfl, by repeat (first | exact Below.refl _ _ | assumption | (refine bel_trans ?_ (by assumption)) | (with_reducible apply bel_alloc) | (with_reducible apply Below.drew) | apply bel_alloc | apply Below.drew | refine bel_set ?_ (by simp; try omega) _)⟩
theorem so_17 (w : World) : Ret 32 #[.int .u8 17] w (soV 17) := by
  go_enter Tryz.func32, Tryz.ntmps32
  go_wp2
  go_ret2
  exact ⟨rfl, by repeat (first | exact Below.refl _ _ | assumption | (refine bel_trans ?_ (by assumption)) | (with_reducible apply bel_alloc) | (with_reducible apply Below.drew) | apply bel_alloc | apply Below.drew | refine bel_set ?_ (by simp; try omega) _)⟩
theorem so_18 (w : World) : Ret 32 #[.int .u8 18] w (soV 18) := by
  go_enter Tryz.func32, Tryz.ntmps32
  go_wp2
  go_ret2
  exact ⟨rfl, by repeat (first | exact Below.refl _ _ | assumption | (refine bel_trans ?_ (by assumption)) | (with_reducible apply bel_alloc) | (with_reducible apply Below.drew) | apply bel_alloc | apply Below.drew | refine bel_set ?_ (by simp; try omega) _)⟩
theorem so_19 (w : World) : Ret 32 #[.int .u8 19] w (soV 19) := by
  go_enter Tryz.func32, Tryz.ntmps32
  go_wp2
  go_ret2
  exact ⟨rfl, by repeat (first | exact Below.refl _ _ | assumption | (refine bel_trans ?_ (by assumption)) | (with_reducible apply bel_alloc) | (with_reducible apply Below.drew) | apply bel_alloc | apply Below.drew | refine bel_set ?_ (by simp; try omega) _)⟩
theorem so_20 (w : World) : Ret 32 #[.int .u8 20] w (soV 20) := by
  go_enter Tryz.func32, Tryz.ntmps32
  go_wp2
  go_ret2
  exact ⟨rfl, by repeat (first | exact Below.refl _ _ | assumption | (refine bel_trans ?_ (by assumption)) | (with_reducible apply bel_alloc) | (with_reducible apply Below.drew) | apply bel_alloc | apply Below.drew | refine bel_set ?_ (by simp; try omega) _)⟩
theorem so_21 (w : World) : Ret 32 #[.int .u8 21] w (soV 21) := by
  go_enter Tryz.func32, Tryz.ntmps32
  go_wp2
  go_ret2
  exact ⟨rfl, by repeat (first | exact Below.refl _ _ | assumption | (refine bel_trans ?_ (by assumption)) | (with_reducible apply bel_alloc) | (with_reducible apply Below.drew) | apply bel_alloc | apply Below.drew | refine bel_set ?_ (by simp; try omega) _)⟩
theorem so_22 (w : World) : Ret 32 #[.int .u8 22] w (soV 22) := by
  go_enter Tryz.func32, Tryz.ntmps32
  go_wp2
  go_ret2
  exact ⟨rfl, by repeat (first | exact Below.refl _ _ | assumption | (refine bel_trans ?_ (by assumption)) | (with_reducible apply bel_alloc) | (with_reducible apply Below.drew) | apply bel_alloc | apply Below.drew | refine bel_set ?_ (by simp; try omega) _)⟩
theorem so_23 (w : World) : Ret 32 #[.int .u8 23] w (soV 23) := by
  go_enter Tryz.func32, Tryz.ntmps32
  go_wp2
  go_ret2
  exact ⟨rfl, by repeat (first | exact Below.refl _ _ | assumption | (refine bel_trans ?_ (by assumption)) | (with_reducible apply bel_alloc) | (with_reducible apply Below.drew) | apply bel_alloc | apply Below.drew | refine bel_set ?_ (by simp; try omega) _)⟩
theorem so_24 (w : World) : Ret 32 #[.int .u8 24] w (soV 24) := by
  go_enter Tryz.func32, Tryz.ntmps32
  go_wp2
  go_ret2
  exact ⟨rfl, by repeat (first | exact Below.refl _ _ | assumption | (refine bel_trans ?_ (by assumption)) | (with_reducible apply bel_alloc) | (with_reducible apply Below.drew) | apply bel_alloc | apply Below.drew | refine bel_set ?_ (by simp; try omega) _)⟩
theorem so_25 (w : World) : Ret 32 #[.int .u8 25] w (soV 25) := by
  go_enter Tryz.func32, Tryz.ntmps32
  go_wp2
  go_ret2
  exact ⟨rfl, by repeat (first | exact Below.refl _ _ | assumption | (refine bel_trans ?_ (by assumption)) | (with_reducible apply bel_alloc) | (with_reducible apply Below.drew) | apply bel_alloc | apply Below.drew | refine bel_set ?_ (by simp; try omega) _)⟩
theorem so_26 (w : World) : Ret 32 #[.int .u8 26] w (soV 26) := by
  go_enter Tryz.func32, Tryz.ntmps32
  go_wp2
  go_ret2
  exact ⟨rfl, by repeat (first | exact Below.refl _ _ | assumption | (refine bel_trans ?_ (by assumption)) | (with_reducible apply bel_alloc) | (with_reducible apply Below.drew) | apply bel_alloc | apply Below.drew | refine bel_set ?_ (by simp; try omega) _)⟩
theorem so_none (op : Int) (h : ¬ (4 ≤ op ∧ op ≤ 26)) (w : World) : Ret 32 #[.int .u8 op] w (soV op) := by
  have h4 : (op == 4) = false := by simp; omega
  have h5 : (op == 5) = false := by simp; omega
  have h6 : (op == 6) = false := by simp; omega
  have h7 : (op == 7) = false := by simp; omega
  have h8 : (op == 8) = false := by simp; omega
  have h9 : (op == 9) = false := by simp; omega
  have h10 : (op == 10) = false := by simp; omega
  have h11 : (op == 11) = false := by simp; omega
  have h12 : (op == 12) = false := by simp; omega
  have h13 : (op == 13) = false := by simp; omega
  have h14 : (op == 14) = false := by simp; omega
  have h15 : (op == 15) = false := by simp; omega
  have h16 : (op == 16) = false := by simp; omega
  have h17 : (op == 17) = false := by simp; omega
  have h18 : (op == 18) = false := by simp; omega
  have h19 : (op == 19) = false := by simp; omega
  have h20 : (op == 20) = false := by simp; omega
  have h21 : (op == 21) = false := by simp; omega
  have h22 : (op == 22) = false := by simp; omega
  have h23 : (op == 23) = false := by simp; omega
  have h24 : (op == 24) = false := by simp; omega
  have h25 : (op == 25) = false := by simp; omega
  have h26 : (op == 26) = false := by simp; omega
  have hv : Hid (soV op = .tuple #[.int .i64 0, .int .i64 0]) := by
    show _ = _
    have e : sortOf op = (0, 0) := by unfold sortOf; repeat (rw [if_neg (by omega)])
    unfold soV; rw [e]
  clear h
  go_enter Tryz.func32, Tryz.ntmps32
  go_wp2
  go_ret2
  exact ⟨by rw [hv.out]; rfl, by repeat (first | exact Below.refl _ _ | assumption | (refine bel_trans ?_ (by assumption)) | (with_reducible apply bel_alloc) | (with_reducible apply Below.drew) | apply bel_alloc | apply Below.drew | refine bel_set ?_ (by simp; try omega) _)⟩
theorem r_sortOf (op : Int) (w : World) : Ret 32 #[.int .u8 op] w (soV op) := by
  by_cases h : 4 ≤ op ∧ op ≤ 26
  · have : op = 4 ∨ op = 5 ∨ op = 6 ∨ op = 7 ∨ op = 8 ∨ op = 9 ∨ op = 10 ∨ op = 11 ∨ op = 12 ∨ op = 13 ∨ op = 14 ∨ op = 15 ∨ op = 16 ∨ op = 17 ∨ op = 18 ∨ op = 19 ∨ op = 20 ∨ op = 21 ∨ op = 22 ∨ op = 23 ∨ op = 24 ∨ op = 25 ∨ op = 26 := by omega
    rcases this with rfl | rfl | rfl | rfl | rfl | rfl | rfl | rfl | rfl | rfl | rfl | rfl | rfl | rfl | rfl | rfl | rfl | rfl | rfl | rfl | rfl | rfl | rfl
    · exact so_4 w
    · exact so_5 w
    · exact so_6 w
    · exact so_7 w
    · exact so_8 w
    · exact so_9 w
    · exact so_10 w
    · exact so_11 w
    · exact so_12 w
    · exact so_13 w
    · exact so_14 w
    · exact so_15 w
    · exact so_16 w
    · exact so_17 w
    · exact so_18 w
    · exact so_19 w
    · exact so_20 w
    · exact so_21 w
    · exact so_22 w
    · exact so_23 w
    · exact so_24 w
    · exact so_25 w
    · exact so_26 w
  · exact so_none op h w
/-- What the reference's kindOf hands back: the kind where there is one, and whether. -/
def KO (r : Option Int) (v : Value) : Prop := ∃ k, v = .tuple #[.int .u8 k, .bool r.isSome] ∧ ∀ z, r = some z → k = z
theorem ko_1 (a : Option Addr) (n c : Nat) (l : List Int) (hsz : n ≤ 140737488351232) (w : World) (h : One kI w a n l) : Calls Tryz.prog 33 #[.int .i64 1, .slice a n c] w fun e w' => (∃ v, e = .returned v ∧ KO (kindOf 1 l) v) ∧ Below w.heap.size w w' := by
  have hk : Hid (KO (kindOf 1 l) (.tuple #[.int .u8 1, .bool (allAg l 1)])) := by
    refine ⟨1, ?_, fun z hz => ?_⟩
    · simp only [kindOf]; cases allAg l 1 <;> rfl
    · simp [kindOf] at hz; omega
  go_enter Tryz.func33, Tryz.ntmps33
  go_wp2_with fail
  refine (r_allAgree 1 a n c l (by omega) _ h).mono ?_
  rintro e w1 ⟨rfl, hb1⟩
  go_wp2
  go_ret2
  exact ⟨⟨_, rfl, hk.out⟩, hb1⟩
theorem ko_2 (a : Option Addr) (n c : Nat) (l : List Int) (hsz : n ≤ 140737488351232) (w : World) (h : One kI w a n l) : Calls Tryz.prog 33 #[.int .i64 2, .slice a n c] w fun e w' => (∃ v, e = .returned v ∧ KO (kindOf 2 l) v) ∧ Below w.heap.size w w' := by
  have hk : Hid (KO (kindOf 2 l) (.tuple #[.int .u8 2, .bool (allAg l 2)])) := by
    refine ⟨2, ?_, fun z hz => ?_⟩
    · simp only [kindOf]; cases allAg l 2 <;> rfl
    · simp [kindOf] at hz; omega
  go_enter Tryz.func33, Tryz.ntmps33
  go_wp2_with fail
  refine (r_allAgree 2 a n c l (by omega) _ h).mono ?_
  rintro e w1 ⟨rfl, hb1⟩
  go_wp2
  go_ret2
  exact ⟨⟨_, rfl, hk.out⟩, hb1⟩
theorem ko_3 (a : Option Addr) (n c : Nat) (l : List Int) (hsz : n ≤ 140737488351232) (w : World) (h : One kI w a n l) : Calls Tryz.prog 33 #[.int .i64 3, .slice a n c] w fun e w' => (∃ v, e = .returned v ∧ KO (kindOf 3 l) v) ∧ Below w.heap.size w w' := by
  have hk : Hid (KO (kindOf 3 l) (.tuple #[.int .u8 1, .bool (allAg l 2)])) := by
    refine ⟨1, ?_, fun z hz => ?_⟩
    · simp only [kindOf]; cases allAg l 2 <;> rfl
    · simp [kindOf] at hz; omega
  go_enter Tryz.func33, Tryz.ntmps33
  go_wp2_with fail
  refine (r_allAgree 2 a n c l (by omega) _ h).mono ?_
  rintro e w1 ⟨rfl, hb1⟩
  go_wp2
  go_ret2
  exact ⟨⟨_, rfl, hk.out⟩, hb1⟩
theorem ko_5 (a : Option Addr) (n c : Nat) (l : List Int) (hsz : n ≤ 140737488351232) (w : World) (h : One kI w a n l) : Calls Tryz.prog 33 #[.int .i64 5, .slice a n c] w fun e w' => (∃ v, e = .returned v ∧ KO (kindOf 5 l) v) ∧ Below w.heap.size w w' := by
  have hk : Hid (KO (kindOf 5 l) (.tuple #[.int .u8 3, .bool (allAg l 2)])) := by
    refine ⟨3, ?_, fun z hz => ?_⟩
    · simp only [kindOf]; cases allAg l 2 <;> rfl
    · simp [kindOf] at hz; omega
  go_enter Tryz.func33, Tryz.ntmps33
  go_wp2_with fail
  refine (r_allAgree 2 a n c l (by omega) _ h).mono ?_
  rintro e w1 ⟨rfl, hb1⟩
  go_wp2
  go_ret2
  exact ⟨⟨_, rfl, hk.out⟩, hb1⟩
theorem ko_7 (a : Option Addr) (n c : Nat) (l : List Int) (hsz : n ≤ 140737488351232) (w : World) (h : One kI w a n l) : Calls Tryz.prog 33 #[.int .i64 7, .slice a n c] w fun e w' => (∃ v, e = .returned v ∧ KO (kindOf 7 l) v) ∧ Below w.heap.size w w' := by
  have hk : Hid (KO (kindOf 7 l) (.tuple #[.int .u8 3, .bool (allAg l 3)])) := by
    refine ⟨3, ?_, fun z hz => ?_⟩
    · simp only [kindOf]; cases allAg l 3 <;> rfl
    · simp [kindOf] at hz; omega
  go_enter Tryz.func33, Tryz.ntmps33
  go_wp2_with fail
  refine (r_allAgree 3 a n c l (by omega) _ h).mono ?_
  rintro e w1 ⟨rfl, hb1⟩
  go_wp2
  go_ret2
  exact ⟨⟨_, rfl, hk.out⟩, hb1⟩
theorem ko_8 (a : Option Addr) (n c : Nat) (l : List Int) (hsz : n ≤ 140737488351232) (w : World) (h : One kI w a n l) : Calls Tryz.prog 33 #[.int .i64 8, .slice a n c] w fun e w' => (∃ v, e = .returned v ∧ KO (kindOf 8 l) v) ∧ Below w.heap.size w w' := by
  have hk : Hid (KO (kindOf 8 l) (.tuple #[.int .u8 3, .bool (allAg l 3)])) := by
    refine ⟨3, ?_, fun z hz => ?_⟩
    · simp only [kindOf]; cases allAg l 3 <;> rfl
    · simp [kindOf] at hz; omega
  go_enter Tryz.func33, Tryz.ntmps33
  go_wp2_with fail
  refine (r_allAgree 3 a n c l (by omega) _ h).mono ?_
  rintro e w1 ⟨rfl, hb1⟩
  go_wp2
  go_ret2
  exact ⟨⟨_, rfl, hk.out⟩, hb1⟩
theorem ko_6 (a : Option Addr) (n c : Nat) (l : List Int) (w : World) : Calls Tryz.prog 33 #[.int .i64 6, .slice a n c] w fun e w' => (∃ v, e = .returned v ∧ KO (kindOf 6 l) v) ∧ Below w.heap.size w w' := by
  go_enter Tryz.func33, Tryz.ntmps33
  go_wp2
  go_ret2
  exact ⟨⟨_, rfl, 3, by simp [kindOf], fun z hz => by simp [kindOf] at hz; omega⟩, by repeat (first | exact Below.refl _ _ | assumption | (refine bel_trans ?_ (by assumption)) | (with_reducible apply bel_alloc) | (with_reducible apply Below.drew) | apply bel_alloc | apply Below.drew | refine bel_set ?_ (by simp; try omega) _)⟩
theorem ko_4 (a : Option Addr) (n c : Nat) (l : List Int) (h2 : n = 2) (w : World) (h : One kI w a n l) : Calls Tryz.prog 33 #[.int .i64 4, .slice a n c] w fun e w' => (∃ v, e = .returned v ∧ KO (kindOf 4 l) v) ∧ Below w.heap.size w w' := by
  subst h2
  obtain ⟨g, p, x, rfl, hx, hg, c0⟩ := h.at_ 0 (by omega)
  obtain ⟨g2, p2, y, e2, hy, hg2, c1⟩ := h.at_ 1 (by omega)
  cases e2
  have hk : Hid (KO (kindOf 4 l) (.tuple #[.int .u8 3, .bool (agree x y)])) := by
    refine ⟨3, ?_, fun z hz => ?_⟩
    · simp only [kindOf, List.getD_eq_getElem?_getD, hx, hy, Option.getD_some]
      cases agree x y <;> rfl
    · simp only [kindOf, List.getD_eq_getElem?_getD, hx, hy, Option.getD_some] at hz
      cases hag : agree x y <;> rw [hag] at hz <;> simp at hz
      exact hz
  rw [Nat.add_zero] at c0
  clear hx hy h
  go_enter Tryz.func33, Tryz.ntmps33
  go_wp2_with fail
  refine region_far (by kernel_rfl) (by kernel_rfl) ?_
  repeat (go_big_quiet_step ((first | (go_at_call 30; with_reducible exact call_far (r_Agree _ _ _)))))
  refine wpQuiet_nil ?_
  intro wq hbq
  go_wp2
  go_ret2
  exact ⟨⟨_, rfl, hk.out⟩, hbq⟩
theorem ko_9 (a : Option Addr) (n c : Nat) (l : List Int) (hsz : n ≤ 140737488351232) (w : World) (h : One kI w a n l) : Calls Tryz.prog 33 #[.int .i64 9, .slice a n c] w fun e w' => (∃ v, e = .returned v ∧ KO (kindOf 9 l) v) ∧ Below w.heap.size w w' := by
  have hk : Hid (kindOf 9 l = if allAg (parts l).1 3 then com 0 (parts l).2 else none) := rfl
  have HL := Lib.hid h
  clear h
  go_enter Tryz.func33, Tryz.ntmps33
  go_wp2_with fail
  refine (r_caseKinds a n c l hsz _ HL.out).mono ?_
  rintro e w1 ⟨⟨u2, u3, rfl, ⟨a2, n2, cc2, rfl, hn2, HK2⟩, ⟨a3, n3, cc3, rfl, hn3, HK3⟩⟩, hb1⟩
  have HB1 := Lib.hid hb1
  have HKK2 := Lib.hid HK2
  have HKK3 := Lib.hid HK3
  clear HK2 HK3 hb1
  go_wp2_with fail
  refine (r_Common a3 n3 cc3 _ hn3 _ HKK3.out).mono ?_
  rintro e w2 ⟨rfl, hb2⟩
  have HB2 : Hid (Below w.heap.size w w2) := bel_trans HB1.out hb2
  have HKK4 := Lib.hid (HKK2.out.below hb2)
  clear hb2
  cases hq : com 0 (parts l).2 with
  | none =>
    have hk2 : Hid (kindOf 9 l = none) := by show _ = _; rw [hk.out, hq]; split <;> rfl
    simp only [comV]
    go_wp2_with fail
    go_ret2
    exact ⟨⟨_, rfl, 0, by rw [hk2.out]; rfl, fun z hz => by rw [hk2.out] at hz; cases hz⟩, HB2.out⟩
  | some z =>
    have hk2 : Hid (kindOf 9 l = if allAg (parts l).1 3 then some z else none) := by show _ = _; rw [hk.out, hq]
    simp only [comV]
    go_wp2_with fail
    refine (r_allAgree 3 a2 n2 cc2 _ hn2 _ HKK4.out).mono ?_
    rintro e w3 ⟨rfl, hb3⟩
    have HB3 : Hid (Below w.heap.size w w3) := bel_trans HB2.out hb3
    clear hb3
    go_wp2
    go_ret2
    exact ⟨⟨_, rfl, z, by rw [hk2.out]; cases allAg (parts l).1 3 <;> rfl, fun y hy => by rw [hk2.out] at hy; simp at hy; exact hy.2⟩, HB3.out⟩
theorem ko_10 (a : Option Addr) (n c : Nat) (l : List Int) (hsz : n ≤ 140737488351232) (w : World) (h : One kI w a n l) : Calls Tryz.prog 33 #[.int .i64 10, .slice a n c] w fun e w' => (∃ v, e = .returned v ∧ KO (kindOf 10 l) v) ∧ Below w.heap.size w w' := by
  have hk : Hid (kindOf 10 l = com 0 l) := rfl
  have HL := Lib.hid h
  clear h
  go_enter Tryz.func33, Tryz.ntmps33
  go_wp2_with fail
  refine (r_Common a n c _ (by omega) _ HL.out).mono ?_
  rintro e w2 ⟨rfl, hb2⟩
  have HB2 := Lib.hid hb2
  clear hb2
  cases hq : com 0 l with
  | none =>
    simp only [comV]
    go_wp2
    go_ret2
    exact ⟨⟨_, rfl, 0, by rw [hk.out, hq]; rfl, fun z hz => by rw [hk.out, hq] at hz; cases hz⟩, HB2.out⟩
  | some z =>
    simp only [comV]
    go_wp2
    go_ret2
    exact ⟨⟨_, rfl, z, by rw [hk.out, hq]; rfl, fun y hy => by rw [hk.out, hq] at hy; exact Option.some.inj hy⟩, HB2.out⟩
theorem r_kindOf (s : Int) (hs : 1 ≤ s ∧ s ≤ 10) (a : Option Addr) (n c : Nat) (l : List Int) (h2 : s = 4 → n = 2) (hsz : n ≤ 140737488351232) (w : World) (h : One kI w a n l) : Calls Tryz.prog 33 #[.int .i64 s, .slice a n c] w fun e w' => (∃ v, e = .returned v ∧ KO (kindOf s l) v) ∧ Below w.heap.size w w' := by
  have : s = 1 ∨ s = 2 ∨ s = 3 ∨ s = 4 ∨ s = 5 ∨ s = 6 ∨ s = 7 ∨ s = 8 ∨ s = 9 ∨ s = 10 := by omega
  rcases this with rfl | rfl | rfl | rfl | rfl | rfl | rfl | rfl | rfl | rfl
  · exact ko_1 a n c l hsz w h
  · exact ko_2 a n c l hsz w h
  · exact ko_3 a n c l hsz w h
  · exact ko_4 a n c l (h2 rfl) w h
  · exact ko_5 a n c l hsz w h
  · exact ko_6 a n c l w
  · exact ko_7 a n c l hsz w h
  · exact ko_8 a n c l hsz w h
  · exact ko_9 a n c l hsz w h
  · exact ko_10 a n c l hsz w h
end Go.Proofs.YtgepdjkmonlncaaGreatDoor.K
