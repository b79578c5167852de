/- Null-strict nodes that compare, and NOT. -/
import Derived.Test.YtefelelhgepkeaaGreatDoorKx
import Derived.Test.YtefelelhgepkeaaGreatDoorCmp
namespace Go.Proofs.YtefelelhgepkeaaGreatDoor.T
open Go.ChangeShapes Go.WideShapes Go.ChangeAt Go.RowKit Go.Proofs.YtefelelhgepkeaaGreatDoor.V Go.Proofs.YtefelelhgepkeaaGreatDoor.K
def cmpB (op x : Int) : Bool := if op = 12 then decide (x = 0) else if op = 13 then decide (x ≠ 0) else if op = 14 then decide (x < 0) else if op = 15 then decide (x ≤ 0) else if op = 16 then decide (x > 0) else decide (x ≥ 0)
set_option maxRecDepth 100000 in
set_option maxHeartbeats 2000000 in
theorem ns_12 (k n : Int) (s : ByteArray) (k' n' : Int) (s' : ByteArray) (x : Int) (hx : x = -1 ∨ x = 0 ∨ x = 1) (hC : ∀ w, Ret 110 #[val k n s, val k' n' s'] w (.int .i64 x)) (w : World) :
    Ret 91 #[.int .u8 12, val k n s, val k' n' s'] w (enc (bo (cmpB 12 x))) := by
  rcases hx with rfl | rfl | rfl
  · go_enter Tryz.func91, Tryz.ntmps91
    go_wp2_with fail
    refine (hC _).mono ?_; rintro e w1 ⟨rfl, hbw1⟩; obtain ⟨hcw1, hfw1⟩ := bcell hbw1; have hzw1 := hbw1.size; (try simp at hzw1); have hk0w1 : w.heap.size < w1.heap.size := (by omega); have hk1w1 : w.heap.size + 1 < w1.heap.size := (by omega); have hk2w1 : w.heap.size + 1 + 1 < w1.heap.size := (by omega)
    go_wp2_with fail
    refine (c_truth false _).mono ?_; rintro e w2 ⟨rfl, hbw2⟩; obtain ⟨hcw2, hfw2⟩ := bcell hbw2; have hzw2 := hbw2.size; (try simp at hzw2); have hk0w2 : w.heap.size < w2.heap.size := (by omega); have hk1w2 : w.heap.size + 1 < w2.heap.size := (by omega); have hk2w2 : w.heap.size + 1 + 1 < w2.heap.size := (by omega)
    go_wp2
    exact bodyPost_ret (v := ov 3 0 ⟨#[]⟩ 0) (by simp [results, Tryz.results91, go_sem, *]) rfl ⟨ret_v (by rw [show cmpB 12 (-1) = false by decide +kernel]; rfl), by repeat (first | exact Below.refl _ _ | assumption | exact Go.Proofs.YtefelelhgepkeaaGreatDoor.V.below_drewN _ _ | (refine bel_trans ?_ (Go.Proofs.YtefelelhgepkeaaGreatDoor.V.below_drewN _ _)) | (refine bel_trans ?_ (by assumption)) | (with_reducible apply bel_alloc) | (with_reducible apply Below.drew) | apply bel_alloc | apply Below.drew | refine bel_set ?_ (by simp; try omega) _)⟩
  · go_enter Tryz.func91, Tryz.ntmps91
    go_wp2_with fail
    refine (hC _).mono ?_; rintro e w1 ⟨rfl, hbw1⟩; obtain ⟨hcw1, hfw1⟩ := bcell hbw1; have hzw1 := hbw1.size; (try simp at hzw1); have hk0w1 : w.heap.size < w1.heap.size := (by omega); have hk1w1 : w.heap.size + 1 < w1.heap.size := (by omega); have hk2w1 : w.heap.size + 1 + 1 < w1.heap.size := (by omega)
    go_wp2_with fail
    refine (c_truth true _).mono ?_; rintro e w2 ⟨rfl, hbw2⟩; obtain ⟨hcw2, hfw2⟩ := bcell hbw2; have hzw2 := hbw2.size; (try simp at hzw2); have hk0w2 : w.heap.size < w2.heap.size := (by omega); have hk1w2 : w.heap.size + 1 < w2.heap.size := (by omega); have hk2w2 : w.heap.size + 1 + 1 < w2.heap.size := (by omega)
    go_wp2
    exact bodyPost_ret (v := ov 3 1 ⟨#[]⟩ 0) (by simp [results, Tryz.results91, go_sem, *]) rfl ⟨ret_v (by rw [show cmpB 12 (0) = true by decide +kernel]; rfl), by repeat (first | exact Below.refl _ _ | assumption | exact Go.Proofs.YtefelelhgepkeaaGreatDoor.V.below_drewN _ _ | (refine bel_trans ?_ (Go.Proofs.YtefelelhgepkeaaGreatDoor.V.below_drewN _ _)) | (refine bel_trans ?_ (by assumption)) | (with_reducible apply bel_alloc) | (with_reducible apply Below.drew) | apply bel_alloc | apply Below.drew | refine bel_set ?_ (by simp; try omega) _)⟩
  · go_enter Tryz.func91, Tryz.ntmps91
    go_wp2_with fail
    refine (hC _).mono ?_; rintro e w1 ⟨rfl, hbw1⟩; obtain ⟨hcw1, hfw1⟩ := bcell hbw1; have hzw1 := hbw1.size; (try simp at hzw1); have hk0w1 : w.heap.size < w1.heap.size := (by omega); have hk1w1 : w.heap.size + 1 < w1.heap.size := (by omega); have hk2w1 : w.heap.size + 1 + 1 < w1.heap.size := (by omega)
    go_wp2_with fail
    refine (c_truth false _).mono ?_; rintro e w2 ⟨rfl, hbw2⟩; obtain ⟨hcw2, hfw2⟩ := bcell hbw2; have hzw2 := hbw2.size; (try simp at hzw2); have hk0w2 : w.heap.size < w2.heap.size := (by omega); have hk1w2 : w.heap.size + 1 < w2.heap.size := (by omega); have hk2w2 : w.heap.size + 1 + 1 < w2.heap.size := (by omega)
    go_wp2
    exact bodyPost_ret (v := ov 3 0 ⟨#[]⟩ 0) (by simp [results, Tryz.results91, go_sem, *]) rfl ⟨ret_v (by rw [show cmpB 12 (1) = false by decide +kernel]; rfl), by repeat (first | exact Below.refl _ _ | assumption | exact Go.Proofs.YtefelelhgepkeaaGreatDoor.V.below_drewN _ _ | (refine bel_trans ?_ (Go.Proofs.YtefelelhgepkeaaGreatDoor.V.below_drewN _ _)) | (refine bel_trans ?_ (by assumption)) | (with_reducible apply bel_alloc) | (with_reducible apply Below.drew) | apply bel_alloc | apply Below.drew | refine bel_set ?_ (by simp; try omega) _)⟩
set_option maxRecDepth 100000 in
set_option maxHeartbeats 2000000 in
theorem ns_13 (k n : Int) (s : ByteArray) (k' n' : Int) (s' : ByteArray) (x : Int) (hx : x = -1 ∨ x = 0 ∨ x = 1) (hC : ∀ w, Ret 110 #[val k n s, val k' n' s'] w (.int .i64 x)) (w : World) :
    Ret 91 #[.int .u8 13, val k n s, val k' n' s'] w (enc (bo (cmpB 13 x))) := by
  rcases hx with rfl | rfl | rfl
  · go_enter Tryz.func91, Tryz.ntmps91
    go_wp2_with fail
    refine (hC _).mono ?_; rintro e w1 ⟨rfl, hbw1⟩; obtain ⟨hcw1, hfw1⟩ := bcell hbw1; have hzw1 := hbw1.size; (try simp at hzw1); have hk0w1 : w.heap.size < w1.heap.size := (by omega); have hk1w1 : w.heap.size + 1 < w1.heap.size := (by omega); have hk2w1 : w.heap.size + 1 + 1 < w1.heap.size := (by omega)
    go_wp2_with fail
    refine (c_truth true _).mono ?_; rintro e w2 ⟨rfl, hbw2⟩; obtain ⟨hcw2, hfw2⟩ := bcell hbw2; have hzw2 := hbw2.size; (try simp at hzw2); have hk0w2 : w.heap.size < w2.heap.size := (by omega); have hk1w2 : w.heap.size + 1 < w2.heap.size := (by omega); have hk2w2 : w.heap.size + 1 + 1 < w2.heap.size := (by omega)
    go_wp2
    exact bodyPost_ret (v := ov 3 1 ⟨#[]⟩ 0) (by simp [results, Tryz.results91, go_sem, *]) rfl ⟨ret_v (by rw [show cmpB 13 (-1) = true by decide +kernel]; rfl), by repeat (first | exact Below.refl _ _ | assumption | exact Go.Proofs.YtefelelhgepkeaaGreatDoor.V.below_drewN _ _ | (refine bel_trans ?_ (Go.Proofs.YtefelelhgepkeaaGreatDoor.V.below_drewN _ _)) | (refine bel_trans ?_ (by assumption)) | (with_reducible apply bel_alloc) | (with_reducible apply Below.drew) | apply bel_alloc | apply Below.drew | refine bel_set ?_ (by simp; try omega) _)⟩
  · go_enter Tryz.func91, Tryz.ntmps91
    go_wp2_with fail
    refine (hC _).mono ?_; rintro e w1 ⟨rfl, hbw1⟩; obtain ⟨hcw1, hfw1⟩ := bcell hbw1; have hzw1 := hbw1.size; (try simp at hzw1); have hk0w1 : w.heap.size < w1.heap.size := (by omega); have hk1w1 : w.heap.size + 1 < w1.heap.size := (by omega); have hk2w1 : w.heap.size + 1 + 1 < w1.heap.size := (by omega)
    go_wp2_with fail
    refine (c_truth false _).mono ?_; rintro e w2 ⟨rfl, hbw2⟩; obtain ⟨hcw2, hfw2⟩ := bcell hbw2; have hzw2 := hbw2.size; (try simp at hzw2); have hk0w2 : w.heap.size < w2.heap.size := (by omega); have hk1w2 : w.heap.size + 1 < w2.heap.size := (by omega); have hk2w2 : w.heap.size + 1 + 1 < w2.heap.size := (by omega)
    go_wp2
    exact bodyPost_ret (v := ov 3 0 ⟨#[]⟩ 0) (by simp [results, Tryz.results91, go_sem, *]) rfl ⟨ret_v (by rw [show cmpB 13 (0) = false by decide +kernel]; rfl), by repeat (first | exact Below.refl _ _ | assumption | exact Go.Proofs.YtefelelhgepkeaaGreatDoor.V.below_drewN _ _ | (refine bel_trans ?_ (Go.Proofs.YtefelelhgepkeaaGreatDoor.V.below_drewN _ _)) | (refine bel_trans ?_ (by assumption)) | (with_reducible apply bel_alloc) | (with_reducible apply Below.drew) | apply bel_alloc | apply Below.drew | refine bel_set ?_ (by simp; try omega) _)⟩
  · go_enter Tryz.func91, Tryz.ntmps91
    go_wp2_with fail
    refine (hC _).mono ?_; rintro e w1 ⟨rfl, hbw1⟩; obtain ⟨hcw1, hfw1⟩ := bcell hbw1; have hzw1 := hbw1.size; (try simp at hzw1); have hk0w1 : w.heap.size < w1.heap.size := (by omega); have hk1w1 : w.heap.size + 1 < w1.heap.size := (by omega); have hk2w1 : w.heap.size + 1 + 1 < w1.heap.size := (by omega)
    go_wp2_with fail
    refine (c_truth true _).mono ?_; rintro e w2 ⟨rfl, hbw2⟩; obtain ⟨hcw2, hfw2⟩ := bcell hbw2; have hzw2 := hbw2.size; (try simp at hzw2); have hk0w2 : w.heap.size < w2.heap.size := (by omega); have hk1w2 : w.heap.size + 1 < w2.heap.size := (by omega); have hk2w2 : w.heap.size + 1 + 1 < w2.heap.size := (by omega)
    go_wp2
    exact bodyPost_ret (v := ov 3 1 ⟨#[]⟩ 0) (by simp [results, Tryz.results91, go_sem, *]) rfl ⟨ret_v (by rw [show cmpB 13 (1) = true by decide +kernel]; rfl), by repeat (first | exact Below.refl _ _ | assumption | exact Go.Proofs.YtefelelhgepkeaaGreatDoor.V.below_drewN _ _ | (refine bel_trans ?_ (Go.Proofs.YtefelelhgepkeaaGreatDoor.V.below_drewN _ _)) | (refine bel_trans ?_ (by assumption)) | (with_reducible apply bel_alloc) | (with_reducible apply Below.drew) | apply bel_alloc | apply Below.drew | refine bel_set ?_ (by simp; try omega) _)⟩
set_option maxRecDepth 100000 in
set_option maxHeartbeats 2000000 in
theorem ns_14 (k n : Int) (s : ByteArray) (k' n' : Int) (s' : ByteArray) (x : Int) (hx : x = -1 ∨ x = 0 ∨ x = 1) (hC : ∀ w, Ret 110 #[val k n s, val k' n' s'] w (.int .i64 x)) (w : World) :
    Ret 91 #[.int .u8 14, val k n s, val k' n' s'] w (enc (bo (cmpB 14 x))) := by
  rcases hx with rfl | rfl | rfl
  · go_enter Tryz.func91, Tryz.ntmps91
    go_wp2_with fail
    refine (hC _).mono ?_; rintro e w1 ⟨rfl, hbw1⟩; obtain ⟨hcw1, hfw1⟩ := bcell hbw1; have hzw1 := hbw1.size; (try simp at hzw1); have hk0w1 : w.heap.size < w1.heap.size := (by omega); have hk1w1 : w.heap.size + 1 < w1.heap.size := (by omega); have hk2w1 : w.heap.size + 1 + 1 < w1.heap.size := (by omega)
    go_wp2_with fail
    refine (c_truth true _).mono ?_; rintro e w2 ⟨rfl, hbw2⟩; obtain ⟨hcw2, hfw2⟩ := bcell hbw2; have hzw2 := hbw2.size; (try simp at hzw2); have hk0w2 : w.heap.size < w2.heap.size := (by omega); have hk1w2 : w.heap.size + 1 < w2.heap.size := (by omega); have hk2w2 : w.heap.size + 1 + 1 < w2.heap.size := (by omega)
    go_wp2
    exact bodyPost_ret (v := ov 3 1 ⟨#[]⟩ 0) (by simp [results, Tryz.results91, go_sem, *]) rfl ⟨ret_v (by rw [show cmpB 14 (-1) = true by decide +kernel]; rfl), by repeat (first | exact Below.refl _ _ | assumption | exact Go.Proofs.YtefelelhgepkeaaGreatDoor.V.below_drewN _ _ | (refine bel_trans ?_ (Go.Proofs.YtefelelhgepkeaaGreatDoor.V.below_drewN _ _)) | (refine bel_trans ?_ (by assumption)) | (with_reducible apply bel_alloc) | (with_reducible apply Below.drew) | apply bel_alloc | apply Below.drew | refine bel_set ?_ (by simp; try omega) _)⟩
  · go_enter Tryz.func91, Tryz.ntmps91
    go_wp2_with fail
    refine (hC _).mono ?_; rintro e w1 ⟨rfl, hbw1⟩; obtain ⟨hcw1, hfw1⟩ := bcell hbw1; have hzw1 := hbw1.size; (try simp at hzw1); have hk0w1 : w.heap.size < w1.heap.size := (by omega); have hk1w1 : w.heap.size + 1 < w1.heap.size := (by omega); have hk2w1 : w.heap.size + 1 + 1 < w1.heap.size := (by omega)
    go_wp2_with fail
    refine (c_truth false _).mono ?_; rintro e w2 ⟨rfl, hbw2⟩; obtain ⟨hcw2, hfw2⟩ := bcell hbw2; have hzw2 := hbw2.size; (try simp at hzw2); have hk0w2 : w.heap.size < w2.heap.size := (by omega); have hk1w2 : w.heap.size + 1 < w2.heap.size := (by omega); have hk2w2 : w.heap.size + 1 + 1 < w2.heap.size := (by omega)
    go_wp2
    exact bodyPost_ret (v := ov 3 0 ⟨#[]⟩ 0) (by simp [results, Tryz.results91, go_sem, *]) rfl ⟨ret_v (by rw [show cmpB 14 (0) = false by decide +kernel]; rfl), by repeat (first | exact Below.refl _ _ | assumption | exact Go.Proofs.YtefelelhgepkeaaGreatDoor.V.below_drewN _ _ | (refine bel_trans ?_ (Go.Proofs.YtefelelhgepkeaaGreatDoor.V.below_drewN _ _)) | (refine bel_trans ?_ (by assumption)) | (with_reducible apply bel_alloc) | (with_reducible apply Below.drew) | apply bel_alloc | apply Below.drew | refine bel_set ?_ (by simp; try omega) _)⟩
  · go_enter Tryz.func91, Tryz.ntmps91
    go_wp2_with fail
    refine (hC _).mono ?_; rintro e w1 ⟨rfl, hbw1⟩; obtain ⟨hcw1, hfw1⟩ := bcell hbw1; have hzw1 := hbw1.size; (try simp at hzw1); have hk0w1 : w.heap.size < w1.heap.size := (by omega); have hk1w1 : w.heap.size + 1 < w1.heap.size := (by omega); have hk2w1 : w.heap.size + 1 + 1 < w1.heap.size := (by omega)
    go_wp2_with fail
    refine (c_truth false _).mono ?_; rintro e w2 ⟨rfl, hbw2⟩; obtain ⟨hcw2, hfw2⟩ := bcell hbw2; have hzw2 := hbw2.size; (try simp at hzw2); have hk0w2 : w.heap.size < w2.heap.size := (by omega); have hk1w2 : w.heap.size + 1 < w2.heap.size := (by omega); have hk2w2 : w.heap.size + 1 + 1 < w2.heap.size := (by omega)
    go_wp2
    exact bodyPost_ret (v := ov 3 0 ⟨#[]⟩ 0) (by simp [results, Tryz.results91, go_sem, *]) rfl ⟨ret_v (by rw [show cmpB 14 (1) = false by decide +kernel]; rfl), by repeat (first | exact Below.refl _ _ | assumption | exact Go.Proofs.YtefelelhgepkeaaGreatDoor.V.below_drewN _ _ | (refine bel_trans ?_ (Go.Proofs.YtefelelhgepkeaaGreatDoor.V.below_drewN _ _)) | (refine bel_trans ?_ (by assumption)) | (with_reducible apply bel_alloc) | (with_reducible apply Below.drew) | apply bel_alloc | apply Below.drew | refine bel_set ?_ (by simp; try omega) _)⟩
set_option maxRecDepth 100000 in
set_option maxHeartbeats 2000000 in
theorem ns_15 (k n : Int) (s : ByteArray) (k' n' : Int) (s' : ByteArray) (x : Int) (hx : x = -1 ∨ x = 0 ∨ x = 1) (hC : ∀ w, Ret 110 #[val k n s, val k' n' s'] w (.int .i64 x)) (w : World) :
    Ret 91 #[.int .u8 15, val k n s, val k' n' s'] w (enc (bo (cmpB 15 x))) := by
  rcases hx with rfl | rfl | rfl
  · go_enter Tryz.func91, Tryz.ntmps91
    go_wp2_with fail
    refine (hC _).mono ?_; rintro e w1 ⟨rfl, hbw1⟩; obtain ⟨hcw1, hfw1⟩ := bcell hbw1; have hzw1 := hbw1.size; (try simp at hzw1); have hk0w1 : w.heap.size < w1.heap.size := (by omega); have hk1w1 : w.heap.size + 1 < w1.heap.size := (by omega); have hk2w1 : w.heap.size + 1 + 1 < w1.heap.size := (by omega)
    go_wp2_with fail
    refine (c_truth true _).mono ?_; rintro e w2 ⟨rfl, hbw2⟩; obtain ⟨hcw2, hfw2⟩ := bcell hbw2; have hzw2 := hbw2.size; (try simp at hzw2); have hk0w2 : w.heap.size < w2.heap.size := (by omega); have hk1w2 : w.heap.size + 1 < w2.heap.size := (by omega); have hk2w2 : w.heap.size + 1 + 1 < w2.heap.size := (by omega)
    go_wp2
    exact bodyPost_ret (v := ov 3 1 ⟨#[]⟩ 0) (by simp [results, Tryz.results91, go_sem, *]) rfl ⟨ret_v (by rw [show cmpB 15 (-1) = true by decide +kernel]; rfl), by repeat (first | exact Below.refl _ _ | assumption | exact Go.Proofs.YtefelelhgepkeaaGreatDoor.V.below_drewN _ _ | (refine bel_trans ?_ (Go.Proofs.YtefelelhgepkeaaGreatDoor.V.below_drewN _ _)) | (refine bel_trans ?_ (by assumption)) | (with_reducible apply bel_alloc) | (with_reducible apply Below.drew) | apply bel_alloc | apply Below.drew | refine bel_set ?_ (by simp; try omega) _)⟩
  · go_enter Tryz.func91, Tryz.ntmps91
    go_wp2_with fail
    refine (hC _).mono ?_; rintro e w1 ⟨rfl, hbw1⟩; obtain ⟨hcw1, hfw1⟩ := bcell hbw1; have hzw1 := hbw1.size; (try simp at hzw1); have hk0w1 : w.heap.size < w1.heap.size := (by omega); have hk1w1 : w.heap.size + 1 < w1.heap.size := (by omega); have hk2w1 : w.heap.size + 1 + 1 < w1.heap.size := (by omega)
    go_wp2_with fail
    refine (c_truth true _).mono ?_; rintro e w2 ⟨rfl, hbw2⟩; obtain ⟨hcw2, hfw2⟩ := bcell hbw2; have hzw2 := hbw2.size; (try simp at hzw2); have hk0w2 : w.heap.size < w2.heap.size := (by omega); have hk1w2 : w.heap.size + 1 < w2.heap.size := (by omega); have hk2w2 : w.heap.size + 1 + 1 < w2.heap.size := (by omega)
    go_wp2
    exact bodyPost_ret (v := ov 3 1 ⟨#[]⟩ 0) (by simp [results, Tryz.results91, go_sem, *]) rfl ⟨ret_v (by rw [show cmpB 15 (0) = true by decide +kernel]; rfl), by repeat (first | exact Below.refl _ _ | assumption | exact Go.Proofs.YtefelelhgepkeaaGreatDoor.V.below_drewN _ _ | (refine bel_trans ?_ (Go.Proofs.YtefelelhgepkeaaGreatDoor.V.below_drewN _ _)) | (refine bel_trans ?_ (by assumption)) | (with_reducible apply bel_alloc) | (with_reducible apply Below.drew) | apply bel_alloc | apply Below.drew | refine bel_set ?_ (by simp; try omega) _)⟩
  · go_enter Tryz.func91, Tryz.ntmps91
    go_wp2_with fail
    refine (hC _).mono ?_; rintro e w1 ⟨rfl, hbw1⟩; obtain ⟨hcw1, hfw1⟩ := bcell hbw1; have hzw1 := hbw1.size; (try simp at hzw1); have hk0w1 : w.heap.size < w1.heap.size := (by omega); have hk1w1 : w.heap.size + 1 < w1.heap.size := (by omega); have hk2w1 : w.heap.size + 1 + 1 < w1.heap.size := (by omega)
    go_wp2_with fail
    refine (c_truth false _).mono ?_; rintro e w2 ⟨rfl, hbw2⟩; obtain ⟨hcw2, hfw2⟩ := bcell hbw2; have hzw2 := hbw2.size; (try simp at hzw2); have hk0w2 : w.heap.size < w2.heap.size := (by omega); have hk1w2 : w.heap.size + 1 < w2.heap.size := (by omega); have hk2w2 : w.heap.size + 1 + 1 < w2.heap.size := (by omega)
    go_wp2
    exact bodyPost_ret (v := ov 3 0 ⟨#[]⟩ 0) (by simp [results, Tryz.results91, go_sem, *]) rfl ⟨ret_v (by rw [show cmpB 15 (1) = false by decide +kernel]; rfl), by repeat (first | exact Below.refl _ _ | assumption | exact Go.Proofs.YtefelelhgepkeaaGreatDoor.V.below_drewN _ _ | (refine bel_trans ?_ (Go.Proofs.YtefelelhgepkeaaGreatDoor.V.below_drewN _ _)) | (refine bel_trans ?_ (by assumption)) | (with_reducible apply bel_alloc) | (with_reducible apply Below.drew) | apply bel_alloc | apply Below.drew | refine bel_set ?_ (by simp; try omega) _)⟩
set_option maxRecDepth 100000 in
set_option maxHeartbeats 2000000 in
theorem ns_16 (k n : Int) (s : ByteArray) (k' n' : Int) (s' : ByteArray) (x : Int) (hx : x = -1 ∨ x = 0 ∨ x = 1) (hC : ∀ w, Ret 110 #[val k n s, val k' n' s'] w (.int .i64 x)) (w : World) :
    Ret 91 #[.int .u8 16, val k n s, val k' n' s'] w (enc (bo (cmpB 16 x))) := by
  rcases hx with rfl | rfl | rfl
  · go_enter Tryz.func91, Tryz.ntmps91
    go_wp2_with fail
    refine (hC _).mono ?_; rintro e w1 ⟨rfl, hbw1⟩; obtain ⟨hcw1, hfw1⟩ := bcell hbw1; have hzw1 := hbw1.size; (try simp at hzw1); have hk0w1 : w.heap.size < w1.heap.size := (by omega); have hk1w1 : w.heap.size + 1 < w1.heap.size := (by omega); have hk2w1 : w.heap.size + 1 + 1 < w1.heap.size := (by omega)
    go_wp2_with fail
    refine (c_truth false _).mono ?_; rintro e w2 ⟨rfl, hbw2⟩; obtain ⟨hcw2, hfw2⟩ := bcell hbw2; have hzw2 := hbw2.size; (try simp at hzw2); have hk0w2 : w.heap.size < w2.heap.size := (by omega); have hk1w2 : w.heap.size + 1 < w2.heap.size := (by omega); have hk2w2 : w.heap.size + 1 + 1 < w2.heap.size := (by omega)
    go_wp2
    exact bodyPost_ret (v := ov 3 0 ⟨#[]⟩ 0) (by simp [results, Tryz.results91, go_sem, *]) rfl ⟨ret_v (by rw [show cmpB 16 (-1) = false by decide +kernel]; rfl), by repeat (first | exact Below.refl _ _ | assumption | exact Go.Proofs.YtefelelhgepkeaaGreatDoor.V.below_drewN _ _ | (refine bel_trans ?_ (Go.Proofs.YtefelelhgepkeaaGreatDoor.V.below_drewN _ _)) | (refine bel_trans ?_ (by assumption)) | (with_reducible apply bel_alloc) | (with_reducible apply Below.drew) | apply bel_alloc | apply Below.drew | refine bel_set ?_ (by simp; try omega) _)⟩
  · go_enter Tryz.func91, Tryz.ntmps91
    go_wp2_with fail
    refine (hC _).mono ?_; rintro e w1 ⟨rfl, hbw1⟩; obtain ⟨hcw1, hfw1⟩ := bcell hbw1; have hzw1 := hbw1.size; (try simp at hzw1); have hk0w1 : w.heap.size < w1.heap.size := (by omega); have hk1w1 : w.heap.size + 1 < w1.heap.size := (by omega); have hk2w1 : w.heap.size + 1 + 1 < w1.heap.size := (by omega)
    go_wp2_with fail
    refine (c_truth false _).mono ?_; rintro e w2 ⟨rfl, hbw2⟩; obtain ⟨hcw2, hfw2⟩ := bcell hbw2; have hzw2 := hbw2.size; (try simp at hzw2); have hk0w2 : w.heap.size < w2.heap.size := (by omega); have hk1w2 : w.heap.size + 1 < w2.heap.size := (by omega); have hk2w2 : w.heap.size + 1 + 1 < w2.heap.size := (by omega)
    go_wp2
    exact bodyPost_ret (v := ov 3 0 ⟨#[]⟩ 0) (by simp [results, Tryz.results91, go_sem, *]) rfl ⟨ret_v (by rw [show cmpB 16 (0) = false by decide +kernel]; rfl), by repeat (first | exact Below.refl _ _ | assumption | exact Go.Proofs.YtefelelhgepkeaaGreatDoor.V.below_drewN _ _ | (refine bel_trans ?_ (Go.Proofs.YtefelelhgepkeaaGreatDoor.V.below_drewN _ _)) | (refine bel_trans ?_ (by assumption)) | (with_reducible apply bel_alloc) | (with_reducible apply Below.drew) | apply bel_alloc | apply Below.drew | refine bel_set ?_ (by simp; try omega) _)⟩
  · go_enter Tryz.func91, Tryz.ntmps91
    go_wp2_with fail
    refine (hC _).mono ?_; rintro e w1 ⟨rfl, hbw1⟩; obtain ⟨hcw1, hfw1⟩ := bcell hbw1; have hzw1 := hbw1.size; (try simp at hzw1); have hk0w1 : w.heap.size < w1.heap.size := (by omega); have hk1w1 : w.heap.size + 1 < w1.heap.size := (by omega); have hk2w1 : w.heap.size + 1 + 1 < w1.heap.size := (by omega)
    go_wp2_with fail
    refine (c_truth true _).mono ?_; rintro e w2 ⟨rfl, hbw2⟩; obtain ⟨hcw2, hfw2⟩ := bcell hbw2; have hzw2 := hbw2.size; (try simp at hzw2); have hk0w2 : w.heap.size < w2.heap.size := (by omega); have hk1w2 : w.heap.size + 1 < w2.heap.size := (by omega); have hk2w2 : w.heap.size + 1 + 1 < w2.heap.size := (by omega)
    go_wp2
    exact bodyPost_ret (v := ov 3 1 ⟨#[]⟩ 0) (by simp [results, Tryz.results91, go_sem, *]) rfl ⟨ret_v (by rw [show cmpB 16 (1) = true by decide +kernel]; rfl), by repeat (first | exact Below.refl _ _ | assumption | exact Go.Proofs.YtefelelhgepkeaaGreatDoor.V.below_drewN _ _ | (refine bel_trans ?_ (Go.Proofs.YtefelelhgepkeaaGreatDoor.V.below_drewN _ _)) | (refine bel_trans ?_ (by assumption)) | (with_reducible apply bel_alloc) | (with_reducible apply Below.drew) | apply bel_alloc | apply Below.drew | refine bel_set ?_ (by simp; try omega) _)⟩
set_option maxRecDepth 100000 in
set_option maxHeartbeats 2000000 in
theorem ns_17 (k n : Int) (s : ByteArray) (k' n' : Int) (s' : ByteArray) (x : Int) (hx : x = -1 ∨ x = 0 ∨ x = 1) (hC : ∀ w, Ret 110 #[val k n s, val k' n' s'] w (.int .i64 x)) (w : World) :
    Ret 91 #[.int .u8 17, val k n s, val k' n' s'] w (enc (bo (cmpB 17 x))) := by
  rcases hx with rfl | rfl | rfl
  · go_enter Tryz.func91, Tryz.ntmps91
    go_wp2_with fail
    refine (hC _).mono ?_; rintro e w1 ⟨rfl, hbw1⟩; obtain ⟨hcw1, hfw1⟩ := bcell hbw1; have hzw1 := hbw1.size; (try simp at hzw1); have hk0w1 : w.heap.size < w1.heap.size := (by omega); have hk1w1 : w.heap.size + 1 < w1.heap.size := (by omega); have hk2w1 : w.heap.size + 1 + 1 < w1.heap.size := (by omega)
    go_wp2_with fail
    refine (c_truth false _).mono ?_; rintro e w2 ⟨rfl, hbw2⟩; obtain ⟨hcw2, hfw2⟩ := bcell hbw2; have hzw2 := hbw2.size; (try simp at hzw2); have hk0w2 : w.heap.size < w2.heap.size := (by omega); have hk1w2 : w.heap.size + 1 < w2.heap.size := (by omega); have hk2w2 : w.heap.size + 1 + 1 < w2.heap.size := (by omega)
    go_wp2
    exact bodyPost_ret (v := ov 3 0 ⟨#[]⟩ 0) (by simp [results, Tryz.results91, go_sem, *]) rfl ⟨ret_v (by rw [show cmpB 17 (-1) = false by decide +kernel]; rfl), by repeat (first | exact Below.refl _ _ | assumption | exact Go.Proofs.YtefelelhgepkeaaGreatDoor.V.below_drewN _ _ | (refine bel_trans ?_ (Go.Proofs.YtefelelhgepkeaaGreatDoor.V.below_drewN _ _)) | (refine bel_trans ?_ (by assumption)) | (with_reducible apply bel_alloc) | (with_reducible apply Below.drew) | apply bel_alloc | apply Below.drew | refine bel_set ?_ (by simp; try omega) _)⟩
  · go_enter Tryz.func91, Tryz.ntmps91
    go_wp2_with fail
    refine (hC _).mono ?_; rintro e w1 ⟨rfl, hbw1⟩; obtain ⟨hcw1, hfw1⟩ := bcell hbw1; have hzw1 := hbw1.size; (try simp at hzw1); have hk0w1 : w.heap.size < w1.heap.size := (by omega); have hk1w1 : w.heap.size + 1 < w1.heap.size := (by omega); have hk2w1 : w.heap.size + 1 + 1 < w1.heap.size := (by omega)
    go_wp2_with fail
    refine (c_truth true _).mono ?_; rintro e w2 ⟨rfl, hbw2⟩; obtain ⟨hcw2, hfw2⟩ := bcell hbw2; have hzw2 := hbw2.size; (try simp at hzw2); have hk0w2 : w.heap.size < w2.heap.size := (by omega); have hk1w2 : w.heap.size + 1 < w2.heap.size := (by omega); have hk2w2 : w.heap.size + 1 + 1 < w2.heap.size := (by omega)
    go_wp2
    exact bodyPost_ret (v := ov 3 1 ⟨#[]⟩ 0) (by simp [results, Tryz.results91, go_sem, *]) rfl ⟨ret_v (by rw [show cmpB 17 (0) = true by decide +kernel]; rfl), by repeat (first | exact Below.refl _ _ | assumption | exact Go.Proofs.YtefelelhgepkeaaGreatDoor.V.below_drewN _ _ | (refine bel_trans ?_ (Go.Proofs.YtefelelhgepkeaaGreatDoor.V.below_drewN _ _)) | (refine bel_trans ?_ (by assumption)) | (with_reducible apply bel_alloc) | (with_reducible apply Below.drew) | apply bel_alloc | apply Below.drew | refine bel_set ?_ (by simp; try omega) _)⟩
  · go_enter Tryz.func91, Tryz.ntmps91
    go_wp2_with fail
    refine (hC _).mono ?_; rintro e w1 ⟨rfl, hbw1⟩; obtain ⟨hcw1, hfw1⟩ := bcell hbw1; have hzw1 := hbw1.size; (try simp at hzw1); have hk0w1 : w.heap.size < w1.heap.size := (by omega); have hk1w1 : w.heap.size + 1 < w1.heap.size := (by omega); have hk2w1 : w.heap.size + 1 + 1 < w1.heap.size := (by omega)
    go_wp2_with fail
    refine (c_truth true _).mono ?_; rintro e w2 ⟨rfl, hbw2⟩; obtain ⟨hcw2, hfw2⟩ := bcell hbw2; have hzw2 := hbw2.size; (try simp at hzw2); have hk0w2 : w.heap.size < w2.heap.size := (by omega); have hk1w2 : w.heap.size + 1 < w2.heap.size := (by omega); have hk2w2 : w.heap.size + 1 + 1 < w2.heap.size := (by omega)
    go_wp2
    exact bodyPost_ret (v := ov 3 1 ⟨#[]⟩ 0) (by simp [results, Tryz.results91, go_sem, *]) rfl ⟨ret_v (by rw [show cmpB 17 (1) = true by decide +kernel]; rfl), by repeat (first | exact Below.refl _ _ | assumption | exact Go.Proofs.YtefelelhgepkeaaGreatDoor.V.below_drewN _ _ | (refine bel_trans ?_ (Go.Proofs.YtefelelhgepkeaaGreatDoor.V.below_drewN _ _)) | (refine bel_trans ?_ (by assumption)) | (with_reducible apply bel_alloc) | (with_reducible apply Below.drew) | apply bel_alloc | apply Below.drew | refine bel_set ?_ (by simp; try omega) _)⟩
end Go.Proofs.YtefelelhgepkeaaGreatDoor.T
