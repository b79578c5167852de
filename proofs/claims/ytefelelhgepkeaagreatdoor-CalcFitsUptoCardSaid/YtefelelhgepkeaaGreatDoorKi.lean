/- Contracts of the functions about kinds: the program's and the reference's. -/
import Derived.Test.YtefelelhgepkeaaGreatDoorKh
namespace Go.Proofs.YtefelelhgepkeaaGreatDoor.K
open Go.ChangeShapes Go.WideShapes Go.ChangeAt Go.RowKit Go.Proofs.YtefelelhgepkeaaGreatDoor.V
/-- A signature and whether there is one, as the walk carries them. -/
def sgV (op : Int) : Value := .tuple #[.agg #[.int .i64 (sg op).1, .int .i64 (sg op).2.1, .int .u8 (sg op).2.2.1, .int .u8 (sg op).2.2.2], .bool (has op)]

theorem sig_4 (w : World) : Ret 34 #[.int .u8 4] w (sgV 4) := by
  go_enter Tryz.func34, Tryz.ntmps34
  go_wp2
  exact bodyPost_ret (v := .tuple #[.agg #[.int .i64 1, .int .i64 1, .int .u8 1, .int .u8 1], .bool true]) (by simp [results, Tryz.results34, go_sem, *]) rfl ⟨rfl, by repeat (first | exact Below.refl _ _ | assumption | (refine bel_trans ?_ (by assumption)) | (with_reducible apply bel_alloc) | (with_reducible apply Below.drew) | apply bel_alloc | apply Below.drew | refine bel_set ?_ (by simp; try omega) _)⟩
theorem sig_5 (w : World) : Ret 34 #[.int .u8 5] w (sgV 5) := by
  go_enter Tryz.func34, Tryz.ntmps34
  go_wp2
  exact bodyPost_ret (v := .tuple #[.agg #[.int .i64 2, .int .i64 2, .int .u8 1, .int .u8 1], .bool true]) (by simp [results, Tryz.results34, go_sem, *]) rfl ⟨rfl, by repeat (first | exact Below.refl _ _ | assumption | (refine bel_trans ?_ (by assumption)) | (with_reducible apply bel_alloc) | (with_reducible apply Below.drew) | apply bel_alloc | apply Below.drew | refine bel_set ?_ (by simp; try omega) _)⟩
theorem sig_6 (w : World) : Ret 34 #[.int .u8 6] w (sgV 6) := by
  go_enter Tryz.func34, Tryz.ntmps34
  go_wp2
  exact bodyPost_ret (v := .tuple #[.agg #[.int .i64 2, .int .i64 2, .int .u8 1, .int .u8 1], .bool true]) (by simp [results, Tryz.results34, go_sem, *]) rfl ⟨rfl, by repeat (first | exact Below.refl _ _ | assumption | (refine bel_trans ?_ (by assumption)) | (with_reducible apply bel_alloc) | (with_reducible apply Below.drew) | apply bel_alloc | apply Below.drew | refine bel_set ?_ (by simp; try omega) _)⟩
theorem sig_7 (w : World) : Ret 34 #[.int .u8 7] w (sgV 7) := by
  go_enter Tryz.func34, Tryz.ntmps34
  go_wp2
  exact bodyPost_ret (v := .tuple #[.agg #[.int .i64 2, .int .i64 2, .int .u8 1, .int .u8 1], .bool true]) (by simp [results, Tryz.results34, go_sem, *]) rfl ⟨rfl, by repeat (first | exact Below.refl _ _ | assumption | (refine bel_trans ?_ (by assumption)) | (with_reducible apply bel_alloc) | (with_reducible apply Below.drew) | apply bel_alloc | apply Below.drew | refine bel_set ?_ (by simp; try omega) _)⟩
theorem sig_8 (w : World) : Ret 34 #[.int .u8 8] w (sgV 8) := by
  go_enter Tryz.func34, Tryz.ntmps34
  go_wp2
  exact bodyPost_ret (v := .tuple #[.agg #[.int .i64 2, .int .i64 2, .int .u8 1, .int .u8 1], .bool true]) (by simp [results, Tryz.results34, go_sem, *]) rfl ⟨rfl, by repeat (first | exact Below.refl _ _ | assumption | (refine bel_trans ?_ (by assumption)) | (with_reducible apply bel_alloc) | (with_reducible apply Below.drew) | apply bel_alloc | apply Below.drew | refine bel_set ?_ (by simp; try omega) _)⟩
theorem sig_9 (w : World) : Ret 34 #[.int .u8 9] w (sgV 9) := by
  go_enter Tryz.func34, Tryz.ntmps34
  go_wp2
  exact bodyPost_ret (v := .tuple #[.agg #[.int .i64 2, .int .i64 2, .int .u8 1, .int .u8 1], .bool true]) (by simp [results, Tryz.results34, go_sem, *]) rfl ⟨rfl, by repeat (first | exact Below.refl _ _ | assumption | (refine bel_trans ?_ (by assumption)) | (with_reducible apply bel_alloc) | (with_reducible apply Below.drew) | apply bel_alloc | apply Below.drew | refine bel_set ?_ (by simp; try omega) _)⟩
theorem sig_10 (w : World) : Ret 34 #[.int .u8 10] w (sgV 10) := by
  go_enter Tryz.func34, Tryz.ntmps34
  go_wp2
  exact bodyPost_ret (v := .tuple #[.agg #[.int .i64 2, .int .i64 2, .int .u8 2, .int .u8 2], .bool true]) (by simp [results, Tryz.results34, go_sem, *]) rfl ⟨rfl, by repeat (first | exact Below.refl _ _ | assumption | (refine bel_trans ?_ (by assumption)) | (with_reducible apply bel_alloc) | (with_reducible apply Below.drew) | apply bel_alloc | apply Below.drew | refine bel_set ?_ (by simp; try omega) _)⟩
theorem sig_11 (w : World) : Ret 34 #[.int .u8 11] w (sgV 11) := by
  go_enter Tryz.func34, Tryz.ntmps34
  go_wp2
  exact bodyPost_ret (v := .tuple #[.agg #[.int .i64 1, .int .i64 1, .int .u8 2, .int .u8 1], .bool true]) (by simp [results, Tryz.results34, go_sem, *]) rfl ⟨rfl, by repeat (first | exact Below.refl _ _ | assumption | (refine bel_trans ?_ (by assumption)) | (with_reducible apply bel_alloc) | (with_reducible apply Below.drew) | apply bel_alloc | apply Below.drew | refine bel_set ?_ (by simp; try omega) _)⟩
theorem sig_12 (w : World) : Ret 34 #[.int .u8 12] w (sgV 12) := by
  go_enter Tryz.func34, Tryz.ntmps34
  go_wp2
  exact bodyPost_ret (v := .tuple #[.agg #[.int .i64 2, .int .i64 2, .int .u8 0, .int .u8 3], .bool true]) (by simp [results, Tryz.results34, go_sem, *]) rfl ⟨rfl, by repeat (first | exact Below.refl _ _ | assumption | (refine bel_trans ?_ (by assumption)) | (with_reducible apply bel_alloc) | (with_reducible apply Below.drew) | apply bel_alloc | apply Below.drew | refine bel_set ?_ (by simp; try omega) _)⟩
theorem sig_13 (w : World) : Ret 34 #[.int .u8 13] w (sgV 13) := by
  go_enter Tryz.func34, Tryz.ntmps34
  go_wp2
  exact bodyPost_ret (v := .tuple #[.agg #[.int .i64 2, .int .i64 2, .int .u8 0, .int .u8 3], .bool true]) (by simp [results, Tryz.results34, go_sem, *]) rfl ⟨rfl, by repeat (first | exact Below.refl _ _ | assumption | (refine bel_trans ?_ (by assumption)) | (with_reducible apply bel_alloc) | (with_reducible apply Below.drew) | apply bel_alloc | apply Below.drew | refine bel_set ?_ (by simp; try omega) _)⟩
theorem sig_14 (w : World) : Ret 34 #[.int .u8 14] w (sgV 14) := by
  go_enter Tryz.func34, Tryz.ntmps34
  go_wp2
  exact bodyPost_ret (v := .tuple #[.agg #[.int .i64 2, .int .i64 2, .int .u8 0, .int .u8 3], .bool true]) (by simp [results, Tryz.results34, go_sem, *]) rfl ⟨rfl, by repeat (first | exact Below.refl _ _ | assumption | (refine bel_trans ?_ (by assumption)) | (with_reducible apply bel_alloc) | (with_reducible apply Below.drew) | apply bel_alloc | apply Below.drew | refine bel_set ?_ (by simp; try omega) _)⟩
theorem sig_15 (w : World) : Ret 34 #[.int .u8 15] w (sgV 15) := by
  go_enter Tryz.func34, Tryz.ntmps34
  go_wp2
  exact bodyPost_ret (v := .tuple #[.agg #[.int .i64 2, .int .i64 2, .int .u8 0, .int .u8 3], .bool true]) (by simp [results, Tryz.results34, go_sem, *]) rfl ⟨rfl, by repeat (first | exact Below.refl _ _ | assumption | (refine bel_trans ?_ (by assumption)) | (with_reducible apply bel_alloc) | (with_reducible apply Below.drew) | apply bel_alloc | apply Below.drew | refine bel_set ?_ (by simp; try omega) _)⟩
theorem sig_16 (w : World) : Ret 34 #[.int .u8 16] w (sgV 16) := by
  go_enter Tryz.func34, Tryz.ntmps34
  go_wp2
  exact bodyPost_ret (v := .tuple #[.agg #[.int .i64 2, .int .i64 2, .int .u8 0, .int .u8 3], .bool true]) (by simp [results, Tryz.results34, go_sem, *]) rfl ⟨rfl, by repeat (first | exact Below.refl _ _ | assumption | (refine bel_trans ?_ (by assumption)) | (with_reducible apply bel_alloc) | (with_reducible apply Below.drew) | apply bel_alloc | apply Below.drew | refine bel_set ?_ (by simp; try omega) _)⟩
theorem sig_17 (w : World) : Ret 34 #[.int .u8 17] w (sgV 17) := by
  go_enter Tryz.func34, Tryz.ntmps34
  go_wp2
  exact bodyPost_ret (v := .tuple #[.agg #[.int .i64 2, .int .i64 2, .int .u8 0, .int .u8 3], .bool true]) (by simp [results, Tryz.results34, go_sem, *]) rfl ⟨rfl, by repeat (first | exact Below.refl _ _ | assumption | (refine bel_trans ?_ (by assumption)) | (with_reducible apply bel_alloc) | (with_reducible apply Below.drew) | apply bel_alloc | apply Below.drew | refine bel_set ?_ (by simp; try omega) _)⟩
theorem sig_18 (w : World) : Ret 34 #[.int .u8 18] w (sgV 18) := by
  go_enter Tryz.func34, Tryz.ntmps34
  go_wp2
  exact bodyPost_ret (v := .tuple #[.agg #[.int .i64 2, .int .i64 2, .int .u8 0, .int .u8 3], .bool true]) (by simp [results, Tryz.results34, go_sem, *]) rfl ⟨rfl, by repeat (first | exact Below.refl _ _ | assumption | (refine bel_trans ?_ (by assumption)) | (with_reducible apply bel_alloc) | (with_reducible apply Below.drew) | apply bel_alloc | apply Below.drew | refine bel_set ?_ (by simp; try omega) _)⟩
theorem sig_19 (w : World) : Ret 34 #[.int .u8 19] w (sgV 19) := by
  go_enter Tryz.func34, Tryz.ntmps34
  go_wp2
  exact bodyPost_ret (v := .tuple #[.agg #[.int .i64 2, .int .i64 2, .int .u8 2, .int .u8 3], .bool true]) (by simp [results, Tryz.results34, go_sem, *]) rfl ⟨rfl, by repeat (first | exact Below.refl _ _ | assumption | (refine bel_trans ?_ (by assumption)) | (with_reducible apply bel_alloc) | (with_reducible apply Below.drew) | apply bel_alloc | apply Below.drew | refine bel_set ?_ (by simp; try omega) _)⟩
theorem sig_20 (w : World) : Ret 34 #[.int .u8 20] w (sgV 20) := by
  go_enter Tryz.func34, Tryz.ntmps34
  go_wp2
  exact bodyPost_ret (v := .tuple #[.agg #[.int .i64 1, .int .i64 1, .int .u8 0, .int .u8 3], .bool true]) (by simp [results, Tryz.results34, go_sem, *]) rfl ⟨rfl, by repeat (first | exact Below.refl _ _ | assumption | (refine bel_trans ?_ (by assumption)) | (with_reducible apply bel_alloc) | (with_reducible apply Below.drew) | apply bel_alloc | apply Below.drew | refine bel_set ?_ (by simp; try omega) _)⟩
theorem sig_21 (w : World) : Ret 34 #[.int .u8 21] w (sgV 21) := by
  go_enter Tryz.func34, Tryz.ntmps34
  go_wp2
  exact bodyPost_ret (v := .tuple #[.agg #[.int .i64 1, .int .i64 1, .int .u8 3, .int .u8 3], .bool true]) (by simp [results, Tryz.results34, go_sem, *]) rfl ⟨rfl, by repeat (first | exact Below.refl _ _ | assumption | (refine bel_trans ?_ (by assumption)) | (with_reducible apply bel_alloc) | (with_reducible apply Below.drew) | apply bel_alloc | apply Below.drew | refine bel_set ?_ (by simp; try omega) _)⟩
theorem sig_22 (w : World) : Ret 34 #[.int .u8 22] w (sgV 22) := by
  go_enter Tryz.func34, Tryz.ntmps34
  go_wp2
  exact bodyPost_ret (v := .tuple #[.agg #[.int .i64 1, .int .i64 1, .int .u8 3, .int .u8 3], .bool true]) (by simp [results, Tryz.results34, go_sem, *]) rfl ⟨rfl, by repeat (first | exact Below.refl _ _ | assumption | (refine bel_trans ?_ (by assumption)) | (with_reducible apply bel_alloc) | (with_reducible apply Below.drew) | apply bel_alloc | apply Below.drew | refine bel_set ?_ (by simp; try omega) _)⟩
theorem sig_23 (w : World) : Ret 34 #[.int .u8 23] w (sgV 23) := by
  go_enter Tryz.func34, Tryz.ntmps34
  go_wp2
  exact bodyPost_ret (v := .tuple #[.agg #[.int .i64 0, .int .i64 9223372036854775807, .int .u8 3, .int .u8 3], .bool true]) (by simp [results, Tryz.results34, go_sem, *]) rfl ⟨rfl, by repeat (first | exact Below.refl _ _ | assumption | (refine bel_trans ?_ (by assumption)) | (with_reducible apply bel_alloc) | (with_reducible apply Below.drew) | apply bel_alloc | apply Below.drew | refine bel_set ?_ (by simp; try omega) _)⟩
theorem sig_24 (w : World) : Ret 34 #[.int .u8 24] w (sgV 24) := by
  go_enter Tryz.func34, Tryz.ntmps34
  go_wp2
  exact bodyPost_ret (v := .tuple #[.agg #[.int .i64 0, .int .i64 9223372036854775807, .int .u8 3, .int .u8 3], .bool true]) (by simp [results, Tryz.results34, go_sem, *]) rfl ⟨rfl, by repeat (first | exact Below.refl _ _ | assumption | (refine bel_trans ?_ (by assumption)) | (with_reducible apply bel_alloc) | (with_reducible apply Below.drew) | apply bel_alloc | apply Below.drew | refine bel_set ?_ (by simp; try omega) _)⟩
theorem sig_25 (w : World) : Ret 34 #[.int .u8 25] w (sgV 25) := by
  go_enter Tryz.func34, Tryz.ntmps34
  go_wp2
  exact bodyPost_ret (v := .tuple #[.agg #[.int .i64 2, .int .i64 9223372036854775807, .int .u8 0, .int .u8 0], .bool true]) (by simp [results, Tryz.results34, go_sem, *]) rfl ⟨rfl, by repeat (first | exact Below.refl _ _ | assumption | (refine bel_trans ?_ (by assumption)) | (with_reducible apply bel_alloc) | (with_reducible apply Below.drew) | apply bel_alloc | apply Below.drew | refine bel_set ?_ (by simp; try omega) _)⟩
theorem sig_26 (w : World) : Ret 34 #[.int .u8 26] w (sgV 26) := by
  go_enter Tryz.func34, Tryz.ntmps34
  go_wp2
  exact bodyPost_ret (v := .tuple #[.agg #[.int .i64 1, .int .i64 9223372036854775807, .int .u8 0, .int .u8 0], .bool true]) (by simp [results, Tryz.results34, go_sem, *]) rfl ⟨rfl, by repeat (first | exact Below.refl _ _ | assumption | (refine bel_trans ?_ (by assumption)) | (with_reducible apply bel_alloc) | (with_reducible apply Below.drew) | apply bel_alloc | apply Below.drew | refine bel_set ?_ (by simp; try omega) _)⟩
theorem sig_none (op : Int) (h : ¬ (4 ≤ op ∧ op ≤ 26)) (w : World) : Ret 34 #[.int .u8 op] w (sgV op) := by
  have h4 : (op == 4) = false := by simp; omega
  have h5 : (op == 5) = false := by simp; omega
  have h6 : (op == 6) = false := by simp; omega
  have h7 : (op == 7) = false := by simp; omega
  have h8 : (op == 8) = false := by simp; omega
  have h9 : (op == 9) = false := by simp; omega
  have h10 : (op == 10) = false := by simp; omega
  have h11 : (op == 11) = false := by simp; omega
  have h12 : (op == 12) = false := by simp; omega
  have h13 : (op == 13) = false := by simp; omega
  have h14 : (op == 14) = false := by simp; omega
  have h15 : (op == 15) = false := by simp; omega
  have h16 : (op == 16) = false := by simp; omega
  have h17 : (op == 17) = false := by simp; omega
  have h18 : (op == 18) = false := by simp; omega
  have h19 : (op == 19) = false := by simp; omega
  have h20 : (op == 20) = false := by simp; omega
  have h21 : (op == 21) = false := by simp; omega
  have h22 : (op == 22) = false := by simp; omega
  have h23 : (op == 23) = false := by simp; omega
  have h24 : (op == 24) = false := by simp; omega
  have h25 : (op == 25) = false := by simp; omega
  have h26 : (op == 26) = false := by simp; omega
  have hv : Hid (sgV op = .tuple #[.agg #[.int .i64 0, .int .i64 0, .int .u8 0, .int .u8 0], .bool false]) := by
    show _ = _
    have e : sg op = (0, 0, 0, 0) := by unfold sg; repeat (rw [if_neg (by omega)])
    have e2 : has op = false := by simp [has, h]
    unfold sgV; rw [e, e2]
  clear h
  go_enter Tryz.func34, Tryz.ntmps34
  go_wp2
  exact bodyPost_ret (v := .tuple #[.agg #[.int .i64 0, .int .i64 0, .int .u8 0, .int .u8 0], .bool false]) (by simp [results, Tryz.results34, go_sem, *]) rfl ⟨by rw [hv.out], by repeat (first | exact Below.refl _ _ | assumption | (refine bel_trans ?_ (by assumption)) | (with_reducible apply bel_alloc) | (with_reducible apply Below.drew) | apply bel_alloc | apply Below.drew | refine bel_set ?_ (by simp; try omega) _)⟩
theorem c_sig (op : Int) (w : World) : Ret 34 #[.int .u8 op] w (sgV op) := by
  by_cases h : 4 ≤ op ∧ op ≤ 26
  · have : op = 4 ∨ op = 5 ∨ op = 6 ∨ op = 7 ∨ op = 8 ∨ op = 9 ∨ op = 10 ∨ op = 11 ∨ op = 12 ∨ op = 13 ∨ op = 14 ∨ op = 15 ∨ op = 16 ∨ op = 17 ∨ op = 18 ∨ op = 19 ∨ op = 20 ∨ op = 21 ∨ op = 22 ∨ op = 23 ∨ op = 24 ∨ op = 25 ∨ op = 26 := by omega
    rcases this with rfl | rfl | rfl | rfl | rfl | rfl | rfl | rfl | rfl | rfl | rfl | rfl | rfl | rfl | rfl | rfl | rfl | rfl | rfl | rfl | rfl | rfl | rfl
    · exact sig_4 w
    · exact sig_5 w
    · exact sig_6 w
    · exact sig_7 w
    · exact sig_8 w
    · exact sig_9 w
    · exact sig_10 w
    · exact sig_11 w
    · exact sig_12 w
    · exact sig_13 w
    · exact sig_14 w
    · exact sig_15 w
    · exact sig_16 w
    · exact sig_17 w
    · exact sig_18 w
    · exact sig_19 w
    · exact sig_20 w
    · exact sig_21 w
    · exact sig_22 w
    · exact sig_23 w
    · exact sig_24 w
    · exact sig_25 w
    · exact sig_26 w
  · exact sig_none op h w
end Go.Proofs.YtefelelhgepkeaaGreatDoor.K
